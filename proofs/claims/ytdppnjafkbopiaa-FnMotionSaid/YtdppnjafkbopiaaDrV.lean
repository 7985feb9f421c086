/-
  Contract of the model's draw of two pictures, over a cursor on bytes that came in: new memory; what was there but for the cursor stays.
-/
import Derived.Test.YtdppnjafkbopiaaDrQ
import Derived.Deep.RegionHeld3
import Derived.BigQuiet
import Derived.Deep.CutRange
import Derived.Deep.CutBlock
namespace Go.Proofs.Ytdppnjafkbopiaa
open Go.RowKit
set_option linter.unusedVariables false
set_option linter.unusedSimpArgs false
theorem P3.set0 {w : World} {b : Nat} {t : TypeId} {x y : Int} {v : Value} (h : P3 w b t x y v) (u : Int) : P3 (w.setCell ⟨b, 0, none⟩ (.int .i64 u)) b t u y v := by
  unfold P3 at *
  simp [World.setCell, Array.getElem?_modify, h]
theorem ownV_mono {w : World} {B B' n : Nat} {v : Value} {L : List Int} (h : OwnV w B v n L) (hB : B' ≤ B) : OwnV w B' v n L := by
  obtain ⟨h0, h2⟩ := h
  refine ⟨h0, ?_⟩
  rcases h2 with h1 | ⟨g, cap, cur, h1, h2, r⟩
  · exact Or.inl h1
  · exact Or.inr ⟨g, cap, cur, h1, by omega, r⟩
/-- the state with the first picture -/
structure T1 (w : World) (B g : Nat) (a : Option Addr) (len cap k6 G6 n6 c6 : Nat) (L6 : List Int) (x6 y6 : Int) (wr : World) : Prop where
  ds : DS w B g a len cap wr
  r2 : P3 wr w.heap.size 26 0 0 (.slice none 0 0)
  r3 : P3 wr (w.heap.size + 1) 26 0 0 (.slice none 0 0)
  p6 : P3 wr k6 26 x6 y6 (.slice (some ⟨G6, 0, none⟩) n6 c6)
  o6 : OwnV wr w.heap.size (.slice (some ⟨G6, 0, none⟩) n6 c6) n6 L6
/-- the state with both -/
structure Tw (w : World) (B g : Nat) (a : Option Addr) (len cap C k6 k7 G6 n6 c6 : Nat) (L6 : List Int) (x6 y6 x7 y7 : Int) (v7 : Value) (n7 : Nat) (L7 : List Int) (wr : World) : Prop where
  t : T1 w B g a len cap k6 G6 n6 c6 L6 x6 y6 wr
  p7 : P3 wr k7 26 x7 y7 v7
  o7 : OwnV wr C v7 n7 L7
section
variable {w wr w1 : World} {B g len cap C k6 k7 G6 n6 c6 n7 : Nat} {a : Option Addr} {x6 y6 x7 y7 : Int} {v7 : Value} {L6 L7 : List Int}
theorem T1.call (h : T1 w B g a len cap k6 G6 n6 c6 L6 x6 y6 wr) (hB : B ≤ g) (hg : g < w.heap.size) (hk : w.heap.size < k6) (hc : CurAt w1 g a len cap) (hgr : wr.grownBy w1 (some g)) : T1 w B g a len cap k6 G6 n6 c6 L6 x6 y6 w1 :=
  ⟨h.ds.step hB hc hgr, h.r2.kept hgr (by omega), h.r3.kept hgr (by omega), h.p6.kept hgr (by omega), ownV_kept h.o6 hgr hg⟩
theorem T1.later (h : T1 w B g a len cap k6 G6 n6 c6 L6 x6 y6 wr) (hB : B ≤ g) (hb : Below wr.heap.size wr w1) : T1 w B g a len cap k6 G6 n6 c6 L6 x6 y6 w1 :=
  ⟨h.ds.later hB hb, h.r2.later hb, h.r3.later hb, h.p6.later hb, ownsRow_below h.o6 hb⟩
theorem Tw.call (h : Tw w B g a len cap C k6 k7 G6 n6 c6 L6 x6 y6 x7 y7 v7 n7 L7 wr) (hB : B ≤ g) (hg : g < w.heap.size) (hk : w.heap.size < k6) (hk7 : w.heap.size < k7) (hC : w.heap.size ≤ C) (hc : CurAt w1 g a len cap) (hgr : wr.grownBy w1 (some g)) : Tw w B g a len cap C k6 k7 G6 n6 c6 L6 x6 y6 x7 y7 v7 n7 L7 w1 :=
  ⟨h.t.call hB hg hk hc hgr, h.p7.kept hgr (by omega), ownV_kept h.o7 hgr (by omega)⟩
theorem Tw.later (h : Tw w B g a len cap C k6 k7 G6 n6 c6 L6 x6 y6 x7 y7 v7 n7 L7 wr) (hB : B ≤ g) (hb : Below wr.heap.size wr w1) : Tw w B g a len cap C k6 k7 G6 n6 c6 L6 x6 y6 x7 y7 v7 n7 L7 w1 :=
  ⟨h.t.later hB hb, h.p7.later hb, ownsRow_below h.o7 hb⟩
theorem T1.set (h : T1 w B g a len cap k6 G6 n6 c6 L6 x6 y6 wr) (hBw : B ≤ w.heap.size) (hg : g < w.heap.size) {k i : Nat} {u : Value} (hk : w.heap.size + 1 < k) (hk6 : k ≠ k6) (hG : G6 ≠ k) : T1 w B g a len cap k6 G6 n6 c6 L6 x6 y6 (wr.setCell ⟨k, i, none⟩ u) :=
  ⟨h.ds.set hBw hg (by omega), h.r2.ne (by omega), h.r3.ne (by omega), h.p6.ne (by omega), ownV_set h.o6 (fun q hq => by have hq2 : G6 = q := Option.some.inj hq; omega)⟩
theorem Tw.app {G c : Nat} {z : Int} (h : Tw w B g a len cap C k6 k7 G6 n6 c6 L6 x6 y6 x7 y7 v7 n7 L7 wr) (hBw : B ≤ w.heap.size) (hg : g < w.heap.size) (hk7 : w.heap.size + 1 < k7) (hkk : k7 ≠ k6) (hC : w.heap.size ≤ C) (hG6 : G6 < C) (ho : OwnV w1 C (.slice (some ⟨G, 0, none⟩) (n7 + 1) c) (n7 + 1) (L7 ++ [z])) (hgr : wr.grownBy w1 v7.ownBlock) :
    Tw w B g a len cap C k6 k7 G6 n6 c6 L6 x6 y6 x7 y7 (.slice (some ⟨G, 0, none⟩) (n7 + 1) c) (n7 + 1) (L7 ++ [z]) (w1.setCell ⟨k7, 2, none⟩ (.slice (some ⟨G, 0, none⟩) (n7 + 1) c)) := by
  have p1 := h.p7.grown h.o7 hgr
  have g6 : w1.heap[G6]? = wr.heap[G6]? := hgr.block G6 (own_lt h.t.o6) (by intro e; have := (h.o7.lt G6 e.symm).1; omega)
  have o6 : OwnV w1 w.heap.size (.slice (some ⟨G6, 0, none⟩) n6 c6) n6 L6 := ownV_keep h.t.o6 (fun q hq => by have hq2 : G6 = q := Option.some.inj hq; subst hq2; exact g6)
  have t1 : T1 w B g a len cap k6 G6 n6 c6 L6 x6 y6 w1 := ⟨h.t.ds.grown hBw hg hC h.o7 hgr, h.t.r2.grown h.o7 hgr, h.t.r3.grown h.o7 hgr, h.t.p6.grown h.o7 hgr, o6⟩
  exact ⟨t1.set hBw hg hk7 hkk (p1.apart o6 G6 rfl), p1.set2 _, ownV_set ho (p1.apart ho)⟩
theorem Tw.reset (h : Tw w B g a len cap C k6 k7 G6 n6 c6 L6 x6 y6 x7 y7 v7 n7 L7 wr) (hBw : B ≤ w.heap.size) (hg : g < w.heap.size) (hk7 : w.heap.size + 1 < k7) (hkk : k7 ≠ k6) (p q : Int) :
    Tw w B g a len cap C k6 k7 G6 n6 c6 L6 x6 y6 p q (.slice none 0 0) 0 [] (((wr.setCell ⟨k7, 0, none⟩ (.int .i64 p)).setCell ⟨k7, 1, none⟩ (.int .i64 q)).setCell ⟨k7, 2, none⟩ (.slice none 0 0)) := by
  have hn := h.p7.apart h.t.o6 G6 rfl
  exact ⟨((h.t.set hBw hg hk7 hkk hn).set hBw hg hk7 hkk hn).set hBw hg hk7 hkk hn, h.p7.set _ _ _, ownV_nil _ _⟩
theorem Tw.put7 {p q : Int} {G c n : Nat} {L : List Int} (h : Tw w B g a len cap C k6 k7 G6 n6 c6 L6 x6 y6 x7 y7 v7 n7 L7 wr) (hBw : B ≤ w.heap.size) (hg : g < w.heap.size) (hk7 : w.heap.size + 1 < k7) (hkk : k7 ≠ k6) (ho : OwnV wr C (.slice (some ⟨G, 0, none⟩) n c) n L) :
    Tw w B g a len cap C k6 k7 G6 n6 c6 L6 x6 y6 p q (.slice (some ⟨G, 0, none⟩) n c) n L (((wr.setCell ⟨k7, 0, none⟩ (.int .i64 p)).setCell ⟨k7, 1, none⟩ (.int .i64 q)).setCell ⟨k7, 2, none⟩ (.slice (some ⟨G, 0, none⟩) n c)) := by
  have hn := h.p7.apart h.t.o6 G6 rfl
  have hm := h.p7.apart ho
  exact ⟨((h.t.set hBw hg hk7 hkk hn).set hBw hg hk7 hkk hn).set hBw hg hk7 hkk hn, h.p7.set _ _ _, ownV_set (ownV_set (ownV_set ho hm) hm) hm⟩
theorem Tw.w6 (h : Tw w B g a len cap C k6 k7 G6 n6 c6 L6 x6 y6 x7 y7 v7 n7 L7 wr) (hBw : B ≤ w.heap.size) (hg : g < w.heap.size) (hk6 : w.heap.size + 1 < k6) (hkk : k7 ≠ k6) (p : Int) :
    Tw w B g a len cap C k6 k7 G6 n6 c6 L6 p y6 x7 y7 v7 n7 L7 (wr.setCell ⟨k6, 0, none⟩ (.int .i64 p)) :=
  ⟨⟨h.t.ds.set hBw hg (by omega), h.t.r2.ne (by omega), h.t.r3.ne (by omega), h.t.p6.set0 p, ownV_set h.t.o6 (h.t.p6.apart h.t.o6)⟩, h.p7.ne hkk, ownV_set h.o7 (h.t.p6.apart h.o7)⟩
theorem Tw.el {G c : Nat} (h : Tw w B g a len cap C k6 k7 G6 n6 c6 L6 x6 y6 x7 y7 (.slice (some ⟨G, 0, none⟩) n7 c) n7 L7 wr) (hBw : B ≤ w.heap.size) (hg : g < w.heap.size) (hC : w.heap.size ≤ C) (hG6 : G6 < C) (p : Int) :
    Tw w B g a len cap C k6 k7 G6 n6 c6 L6 x6 y6 x7 y7 (.slice (some ⟨G, 0, none⟩) n7 c) n7 (L7.set 0 p) (wr.setCell ⟨G, 0, none⟩ (.int .i64 p)) := by
  have hG := own_ge h.o7
  refine ⟨⟨h.t.ds.set hBw hg (by omega), h.t.r2.ne ?_, h.t.r3.ne ?_, h.t.p6.ne ?_, ownV_set h.t.o6 (fun q hq => by have hq2 : G6 = q := Option.some.inj hq; omega)⟩, h.p7.ne ?_, ownI_put 0 p h.o7⟩
  · exact fun e => h.t.r2.apart h.o7 G rfl e.symm
  · exact fun e => h.t.r3.apart h.o7 G rfl e.symm
  · exact fun e => h.t.p6.apart h.o7 G rfl e.symm
  · exact fun e => h.p7.apart h.o7 G rfl e.symm
end
theorem Ins.set {w : World} {A : Option Addr} {L : List Int} {k i : Nat} {u : Value} (h : Ins w A L) (hne : ∀ b o, A = some ⟨b, o, none⟩ → b ≠ k) : Ins (w.setCell ⟨k, i, none⟩ u) A L := by
  intro j x hx
  obtain ⟨b, o, e, h1, h2⟩ := h j x hx
  refine ⟨b, o, e, by simpa using h1, ?_⟩
  rw [World.cell?_setCell_other _ _ _ _ (by intro e2; injection e2 with e2; exact hne b o e e2.symm)]
  exact h2
/-- what stands at the end -/
structure Fw (w : World) (B g : Nat) (a : Option Addr) (len cap : Nat) (A6 A7 : Option Addr) (L6 L7 : List Int) (wr : World) : Prop where
  ds : DS w B g a len cap wr
  i6 : Ins wr A6 L6
  i7 : Ins wr A7 L7
  a6 : ∀ b o, A6 = some ⟨b, o, none⟩ → b ≠ w.heap.size ∧ b ≠ w.heap.size + 1 ∧ w.heap.size ≤ b
  a7 : ∀ b o, A7 = some ⟨b, o, none⟩ → b ≠ w.heap.size ∧ b ≠ w.heap.size + 1 ∧ w.heap.size ≤ b
theorem Fw.set {w wr : World} {B g len cap : Nat} {a A6 A7 : Option Addr} {L6 L7 : List Int} (h : Fw w B g a len cap A6 A7 L6 L7 wr) (hBw : B ≤ w.heap.size) (hg : g < w.heap.size) {k i : Nat} {u : Value} (hk : k = w.heap.size ∨ k = w.heap.size + 1) : Fw w B g a len cap A6 A7 L6 L7 (wr.setCell ⟨k, i, none⟩ u) :=
  ⟨h.ds.set hBw hg (by omega), h.i6.set (fun b o e => by have := h.a6 b o e; omega), h.i7.set (fun b o e => by have := h.a7 b o e; omega), h.a6, h.a7⟩
theorem Fw.drew {w wr : World} {B g len cap : Nat} {a A6 A7 : Option Addr} {L6 L7 : List Int} (h : Fw w B g a len cap A6 A7 L6 L7 wr) : Fw w B g a len cap A6 A7 L6 L7 wr.drew :=
  ⟨⟨h.ds.cur, h.ds.rd, ⟨h.ds.gr.os, h.ds.gr.tape, h.ds.gr.output, h.ds.gr.size, h.ds.gr.block⟩⟩, h.i6, h.i7, h.a6, h.a7⟩
theorem Fw.six {w wr : World} {B g len cap : Nat} {a A6 A7 : Option Addr} {L6 L7 : List Int} (h : Fw w B g a len cap A6 A7 L6 L7 wr) (hBw : B ≤ w.heap.size) (hg : g < w.heap.size) (p q : Nat) (hp : p = w.heap.size ∨ p = w.heap.size + 1) (hq : q = w.heap.size ∨ q = w.heap.size + 1) (u0 u1 u2 v0 v1 v2 : Value) :
    Fw w B g a len cap A6 A7 L6 L7 ((((((wr.setCell ⟨p, 0, none⟩ u0).setCell ⟨p, 1, none⟩ u1).setCell ⟨p, 2, none⟩ u2).setCell ⟨q, 0, none⟩ v0).setCell ⟨q, 1, none⟩ v1).setCell ⟨q, 2, none⟩ v2) :=
  (((((h.set hBw hg hp).set hBw hg hp).set hBw hg hp).set hBw hg hq).set hBw hg hq).set hBw hg hq
theorem Tw.fw {w wr : World} {B g len cap C k6 k7 G6 n6 c6 n7 G7 c7 : Nat} {a : Option Addr} {x6 y6 x7 y7 : Int} {L6 L7 : List Int} (h : Tw w B g a len cap C k6 k7 G6 n6 c6 L6 x6 y6 x7 y7 (.slice (some ⟨G7, 0, none⟩) n7 c7) n7 L7 wr) (hC : w.heap.size ≤ C) : Fw w B g a len cap (some ⟨G6, 0, none⟩) (some ⟨G7, 0, none⟩) L6 L7 wr := by
  refine ⟨h.t.ds, ins_own h.t.o6, ins_own h.o7, fun b o e => ?_, fun b o e => ?_⟩
  · injection e with e; injection e with e _; subst e
    exact ⟨h.t.r2.apart h.t.o6 G6 rfl, h.t.r3.apart h.t.o6 G6 rfl, own_ge h.t.o6⟩
  · injection e with e; injection e with e _; subst e
    exact ⟨h.t.r2.apart h.o7 G7 rfl, h.t.r3.apart h.o7 G7 rfl, Nat.le_trans hC (own_ge h.o7)⟩
/-- the second one without its first number -/
theorem Tw.fwt {w wr : World} {B g len cap C k6 k7 G6 n6 c6 n7 G7 c7 : Nat} {a : Option Addr} {x6 y6 x7 y7 : Int} {L6 L7 : List Int} {u : Value} (h : Tw w B g a len cap C k6 k7 G6 n6 c6 L6 x6 y6 x7 y7 (.slice (some ⟨G7, 0, none⟩) n7 c7) n7 L7 wr) (hBw : B ≤ w.heap.size) (hg : g < w.heap.size) (hk7 : w.heap.size + 1 < k7) (hC : w.heap.size ≤ C) : Fw w B g a len cap (some ⟨G6, 0, none⟩) (some ⟨G7, 1, none⟩) L6 (L7.drop 1) (wr.setCell ⟨k7, 2, none⟩ u) := by
  have f := h.fw hC
  refine ⟨f.ds.set hBw hg (by omega), f.i6.set (fun b o e => ?_), ?_, f.a6, fun b o e => ?_⟩
  · injection e with e; injection e with e _; subst e
    exact h.p7.apart h.t.o6 G6 rfl
  · have hI : Ins wr (some ⟨G7, 1, none⟩) (L7.drop 1) := by
      intro j x hx
      rw [List.getElem?_drop] at hx
      refine ⟨G7, 1, rfl, own_lt h.o7, ?_⟩
      exact ownI_at hx h.o7
    exact hI.set (fun b o e => by injection e with e; injection e with e _; subst e; exact h.p7.apart h.o7 G7 rfl)
  · injection e with e; injection e with e _; subst e
    exact ⟨h.t.r2.apart h.o7 G7 rfl, h.t.r3.apart h.o7 G7 rfl, Nat.le_trans hC (own_ge h.o7)⟩
theorem undrew {w w1 : World} {g : Option Nat} (h : w.drew.grownBy w1 g) : w.grownBy w1 g := ⟨h.os, h.tape, h.output, h.size, h.block⟩
theorem Tw.drew {w wr : World} {B g len cap C k6 k7 G6 n6 c6 n7 : Nat} {a : Option Addr} {x6 y6 x7 y7 : Int} {v7 : Value} {L6 L7 : List Int} (h : Tw w B g a len cap C k6 k7 G6 n6 c6 L6 x6 y6 x7 y7 v7 n7 L7 wr) : Tw w B g a len cap C k6 k7 G6 n6 c6 L6 x6 y6 x7 y7 v7 n7 L7 wr.drew :=
  ⟨⟨⟨h.t.ds.cur, h.t.ds.rd, ⟨h.t.ds.gr.os, h.t.ds.gr.tape, h.t.ds.gr.output, h.t.ds.gr.size, h.t.ds.gr.block⟩⟩, h.t.r2, h.t.r3, h.t.p6, h.t.o6⟩, h.p7, h.o7⟩
/-- the second one's first number may be another -/
def Te (w : World) (B g : Nat) (a : Option Addr) (len cap C k6 k7 G6 n6 c6 : Nat) (L6 : List Int) (x6 y6 x7 y7 : Int) (v7 : Value) (n7 : Nat) (wr : World) : Prop := wr.cell? ⟨k7, 2, none⟩ = some v7 ∧ ∃ L7, Tw w B g a len cap C k6 k7 G6 n6 c6 L6 x6 y6 x7 y7 v7 n7 L7 wr
theorem Tw.te {w wr : World} {B g len cap C k6 k7 G6 n6 c6 n7 : Nat} {a : Option Addr} {x6 y6 x7 y7 : Int} {v7 : Value} {L6 L7 : List Int} (h : Tw w B g a len cap C k6 k7 G6 n6 c6 L6 x6 y6 x7 y7 v7 n7 L7 wr) : Te w B g a len cap C k6 k7 G6 n6 c6 L6 x6 y6 x7 y7 v7 n7 wr := ⟨h.p7.cells.2.2, L7, h⟩
def TwR (w : World) (B g : Nat) (a : Option Addr) (len cap : Nat) (e : Ending) (w' : World) : Prop := ∃ (x6 y6 x7 y7 : Int) (A6 A7 : Option Addr) (n6 n7 c6 c7 : Nat) (L6 L7 : List Int), e = .returned (.tuple #[pcv x6 y6 A6 n6 c6, pcv x7 y7 A7 n7 c7]) ∧ L6.length = n6 ∧ L7.length = n7 ∧ n6 ≤ 1000 ∧ n7 ≤ 1000 ∧ Fw w B g a len cap A6 A7 L6 L7 w'
theorem prod_bd {W H : Int} (hW : W = 4 ∨ W = 8 ∨ W = 12) (hH : H = 4 ∨ H = 8 ∨ H = 12) : ∃ M : Nat, W * H = M ∧ 16 ≤ M ∧ M ≤ 144 ∧ H * W = M := by
  rcases hW with rfl | rfl | rfl <;> rcases hH with rfl | rfl | rfl
  · exact ⟨16, by omega, by omega, by omega, by omega⟩
  · exact ⟨32, by omega, by omega, by omega, by omega⟩
  · exact ⟨48, by omega, by omega, by omega, by omega⟩
  · exact ⟨32, by omega, by omega, by omega, by omega⟩
  · exact ⟨64, by omega, by omega, by omega, by omega⟩
  · exact ⟨96, by omega, by omega, by omega, by omega⟩
  · exact ⟨48, by omega, by omega, by omega, by omega⟩
  · exact ⟨96, by omega, by omega, by omega, by omega⟩
  · exact ⟨144, by omega, by omega, by omega, by omega⟩

end Go.Proofs.Ytdppnjafkbopiaa
