/-
  The contract of the model's draw of titles: some titles of the call's own with short texts; nothing that was there is written but the cursor.
-/
import Derived.Test.YtcpllfjhhlbmiaaDoorDrC
import Derived.Test.YtcpllfjhhlbmiaaDoorRgZ
import Derived.Deep.CutRange
import Derived.Deep.CutBlock
namespace Go.Proofs.YtcpllfjhhlbmiaaDoor
open Go.RowKit
set_option linter.unusedVariables false
set_option linter.unusedSimpArgs false

theorem wpList_kG {ops : Array Oper} {rest : List Oper} {o : Oper} {a : Act} {Q : Exit → Act → World → Prop} (w : World) (hgd : o.guard = none) (s x : Operand) (ho : o.op = .call { callee := .builtin .append, args := #[s, x], argTypes := #[24, 24] })
    (B g n cap : Nat) (L : List Kl) (v0 v1 : Int) (v2 : ByteArray) (hs : a.eval s = .slice (some ⟨g, 0, none⟩) n cap) (hown : Own w B g n cap L) (hx : a.eval x = .slice (some ⟨w.heap.size, 0, none⟩) 1 1)
    (hl : n ≤ 1000000) (hB : B ≤ w.heap.size)
    (h : ∀ g' cap' w', Own w' B g' (n + 1) cap' (L ++ [(v0, v1, v2)]) → w.grownBy w' (some g) → B ≤ g' → (g' = g ∨ w.heap.size ≤ g') → wpList Tryd.prog ops Q rest (a.put o.dst (.slice (some ⟨g', 0, none⟩) (n + 1) cap')) w') : wpList Tryd.prog ops Q (o :: rest) a (w.alloc (.cells #[.int .i64 v0, .int .i64 v1, .string v2] 32)) := by
  obtain ⟨i0, hi, hz0, hz1, hz2⟩ := info_parts info44
  have hb : Below w.heap.size w (w.alloc (.cells #[.int .i64 v0, .int .i64 v1, .string v2] 32)) := (Below.refl _ _).alloc (Nat.le_refl _) _
  have hblk : (w.alloc (.cells #[.int .i64 v0, .int .i64 v1, .string v2] 32)).heap[w.heap.size]? = some (.cells #[.int .i64 v0, .int .i64 v1, .string v2] 32 (0, 0)) := alloc_new w _
  have hnews := K_news (c := (v0, v1, v2)) hblk
  have hsz := hb.size
  generalize w.alloc (.cells #[.int .i64 v0, .int .i64 v1, .string v2] 32) = W at *
  have hown2 := ownsRow_below hown hb
  have hBg : B ≤ g := (hown.lt g rfl).1
  refine wpList_append_lies W hgd s x 24 ho B 32 i0 (.agg #[.int .i64 0, .int .i64 0, .string ⟨#[]⟩]) 3 32 Tryd.underlying24 hi hz0 hz1 hz2 rfl (by decide) _ n (flK L) hs hown2 ⟨w.heap.size, 0, none⟩ 1 1 [iv v0, iv v1, sv v2] hx rfl hnews (by intro u hu; simp at hu; rcases hu with rfl | rfl | rfl <;> rfl) (by decide) (by unfold maxLen; omega) (by omega) (by omega) W.heap.size rfl ?_
  intro g' cap' w' h1 h2 h3 h4
  refine h g' cap' w' (by show World.ownsRow _ _ _ _ _ _ _; rw [flK_append]; exact h1) ?_ (own_ge h1) ?_
  · exact grown_trans ⟨hb.os, hb.tape, hb.output, hb.size, fun j hj _ => hb.block j hj⟩ h2
  · rcases h3 with h3 | h3
    · simp [Value.ownBlock] at h3; exact .inl h3.symm
    · exact .inr (by omega)

theorem DS.app {w wr w1 : World} {B g : Nat} {a : Option Addr} {len cap : Nat} (h : DS w B g a len cap wr) (hB : B ≤ w.heap.size) (hg : g < w.heap.size) (hb : Below w.heap.size wr w1) : DS w B g a len cap w1 := by
  refine ⟨h.cur.other (hb.block g hg), ?_, ?_⟩
  · intro j hj
    obtain ⟨b, o, z, e, hb2, hc, h0, h1⟩ := h.rd j hj
    exact ⟨b, o, z, e, hb2, (hb.cell (p := ⟨b, o + j, none⟩) (by show b < _; omega)).trans hc, h0, h1⟩
  · exact ⟨hb.os.trans h.gr.os, hb.tape.trans h.gr.tape, hb.output.trans h.gr.output, Nat.le_trans h.gr.size hb.size, fun j hj hn => (hb.block j hj).trans (h.gr.block j hj hn)⟩
/-- the cursor, and titles of the call's own -/
structure KS (w : World) (B g : Nat) (a : Option Addr) (len cap : Nat) (wr : World) (gl n c : Nat) (L : List Kl) : Prop where
  ds : DS w B g a len cap wr
  ow : Own wr w.heap.size gl n c L
  sz : ∀ x ∈ L, x.2.2.size ≤ 25
section
variable {w wr w1 : World} {B g : Nat} {a : Option Addr} {len cap gl n c : Nat} {L : List Kl}
theorem KS.step (h : KS w B g a len cap wr gl n c L) (hB : B ≤ g) (hg : g < w.heap.size) (hc : CurAt w1 g a len cap) (hgr : wr.grownBy w1 (some g)) : KS w B g a len cap w1 gl n c L :=
  ⟨h.ds.step hB hc hgr, own_kept h.ow hgr (by have := own_ge h.ow; omega), h.sz⟩
theorem KS.later (h : KS w B g a len cap wr gl n c L) (hB : B ≤ g) (hb : Below wr.heap.size wr w1) : KS w B g a len cap w1 gl n c L :=
  ⟨h.ds.later hB hb, ownsRow_below h.ow hb, h.sz⟩
theorem KS.size (h : KS w B g a len cap wr gl n c L) : w.heap.size ≤ wr.heap.size := h.ds.gr.size
theorem KS.fresh (h : KS w B g a len cap wr gl n c L) (hB : B ≤ g) : KS w B g a len cap (wr.alloc (.cells #[] 32)) wr.heap.size 0 0 [] :=
  ⟨h.ds.later hB ((Below.refl _ _).alloc (Nat.le_refl _) _), own_lit0 wr h.size, fun x hx => by simp at hx⟩
theorem KS.app {gl' c' : Nat} {v0 v1 : Int} {v2 : ByteArray} (h : KS w B g a len cap wr gl n c L) (hBw : B ≤ w.heap.size) (hg : g < w.heap.size) (ho : Own w1 w.heap.size gl' (n + 1) c' (L ++ [(v0, v1, v2)])) (hgr : wr.grownBy w1 (some gl)) (hs : v2.size ≤ 25) : KS w B g a len cap w1 gl' (n + 1) c' (L ++ [(v0, v1, v2)]) :=
  have hb : Below w.heap.size wr w1 := (Below.refl _ _).grown hgr (h.ds.gr.size) (fun k hk => by injection hk with hk; subst hk; exact own_ge h.ow)
  ⟨h.ds.app hBw hg hb, ho, fun x hx => by
    rcases List.mem_append.1 hx with hx | hx
    · exact h.sz x hx
    · simp at hx; subst hx; exact hs⟩
theorem KS.put {L' : List Kl} {i : Nat} {v : Value} (h : KS w B g a len cap wr gl n c L) (hBw : B ≤ w.heap.size) (hg : g < w.heap.size) (ho : Own (wr.setCell ⟨gl, i, none⟩ v) w.heap.size gl n c L') (hs : ∀ x ∈ L', x.2.2.size ≤ 25) : KS w B g a len cap (wr.setCell ⟨gl, i, none⟩ v) gl n c L' :=
  ⟨h.ds.app hBw hg ((Below.refl _ _).setCell (p := ⟨gl, i, none⟩) (own_ge h.ow) v), ho, hs⟩
theorem KS.drew (h : KS w B g a len cap wr gl n c L) : KS w B g a len cap wr.drew gl n c L := ⟨⟨h.ds.cur, h.ds.rd, grown_drewN h.ds.gr 1⟩, h.ow, h.sz⟩
/-- .. and a title in a box of its own -/
structure XS (w : World) (B g : Nat) (a : Option Addr) (len cap : Nat) (wr : World) (gl n c : Nat) (L : List Kl) (q : Nat) (f t : Int) (s : ByteArray) : Prop where
  ks : KS w B g a len cap wr gl n c L
  qb : wr.heap[q]? = some (.cells #[.int .i64 f, .int .i64 t, .string s] 32 (0, 0))
  ge : w.heap.size ≤ q
  ne : q ≠ gl
variable {q : Nat} {f t : Int} {s : ByteArray}
theorem XS.lt (h : XS w B g a len cap wr gl n c L q f t s) : q < wr.heap.size := (Array.getElem?_eq_some_iff.1 h.qb).1
theorem XS.step (h : XS w B g a len cap wr gl n c L q f t s) (hB : B ≤ g) (hg : g < w.heap.size) (hc : CurAt w1 g a len cap) (hgr : wr.grownBy w1 (some g)) : XS w B g a len cap w1 gl n c L q f t s :=
  ⟨h.ks.step hB hg hc hgr, (hgr.block q h.lt (by intro e; injection e with e; have := h.ge; omega)).trans h.qb, h.ge, h.ne⟩
theorem XS.later (h : XS w B g a len cap wr gl n c L q f t s) (hB : B ≤ g) (hb : Below wr.heap.size wr w1) : XS w B g a len cap w1 gl n c L q f t s :=
  ⟨h.ks.later hB hb, (hb.block q h.lt).trans h.qb, h.ge, h.ne⟩
theorem XS.drew (h : XS w B g a len cap wr gl n c L q f t s) : XS w B g a len cap wr.drew gl n c L q f t s := ⟨h.ks.drew, h.qb, h.ge, h.ne⟩
theorem XS.cells (h : XS w B g a len cap wr gl n c L q f t s) : wr.cell? ⟨q, 0, none⟩ = some (.int .i64 f) ∧ wr.cell? ⟨q, 1, none⟩ = some (.int .i64 t) ∧ wr.cell? ⟨q, 2, none⟩ = some (.string s) := blk3 h.qb
theorem XS.froz (h : XS w B g a len cap wr gl n c L q f t s) (i : Nat) : wr.frozen? ⟨q, i, none⟩ = false := by simp [World.frozen?, h.qb]
theorem own_off {w : World} {B n m g cap : Nat} {e : TypeId} {xs : List Value} {p : Addr} (h : w.ownsRow B e m (.slice (some ⟨g, 0, none⟩) n cap) n xs) (hp : p.block ≠ g) (u : Value) : (w.setCell p u).ownsRow B e m (.slice (some ⟨g, 0, none⟩) n cap) n xs := by
  obtain ⟨h1, h2⟩ := h
  refine ⟨h1, ?_⟩
  rcases h2 with ⟨h2, _⟩ | ⟨g', cap', cur, hv, hg, hh, r⟩
  · cases h2
  · have hv' := hv
    simp only [Value.slice.injEq, Option.some.injEq, Addr.mk.injEq, and_true, true_and] at hv
    obtain ⟨rfl, rfl⟩ := hv
    exact Or.inr ⟨g, cap, cur, rfl, hg, by rw [Below.heap_setCell _ _ _ _ (Ne.symm hp)]; exact hh, r⟩
theorem XS.set2 (h : XS w B g a len cap wr gl n c L q f t s) (hBw : B ≤ w.heap.size) (hg : g < w.heap.size) (u : ByteArray) : XS w B g a len cap (wr.setCell ⟨q, 2, none⟩ (.string u)) gl n c L q f t u := by
  refine ⟨⟨h.ks.ds.app hBw hg ((Below.refl _ _).setCell (p := ⟨q, 2, none⟩) h.ge _), own_off h.ks.ow h.ne _, h.ks.sz⟩, ?_, h.ge, h.ne⟩
  simp [World.setCell, Array.getElem?_modify, h.qb]
end
theorem set_same {xs : List Value} {i : Nat} {v : Value} (h : xs[i]? = some v) : xs.set i v = xs := by
  obtain ⟨h1, h2⟩ := List.getElem?_eq_some_iff.1 h
  subst h2
  exact List.set_getElem_self h1
theorem own_put0 {w : World} {B g n cap k : Nat} {l : List Kl} {x : Kl} (s : Int) (hk : l[k]? = some x) (h : Own w B g n cap l) : Own (w.setCell ⟨g, k * 3, none⟩ (.int .i64 s)) B g n cap (l.set k (s, x.2.1, x.2.2)) := by
  have hl : k < l.length := (List.getElem?_eq_some_iff.1 hk).1
  obtain ⟨a0, a1, a2⟩ := flK_get hk
  have h0 := (h.stored (k * 3) (iv s)).1
  have e : flK (l.set k (s, x.2.1, x.2.2)) = (flK l).set (k * 3) (iv s) := by
    rw [← flK_set hl, set_same (i := k * 3 + 1) (by rw [List.getElem?_set_ne (by omega)]; exact a1), set_same (i := k * 3 + 2) (by rw [List.getElem?_set_ne (by omega)]; exact a2)]
  show World.ownsRow _ _ _ _ _ _ _
  rw [e]; exact h0
theorem own_put1 {w : World} {B g n cap k : Nat} {l : List Kl} {x : Kl} (s : Int) (hk : l[k]? = some x) (h : Own w B g n cap l) : Own (w.setCell ⟨g, k * 3 + 1, none⟩ (.int .i64 s)) B g n cap (l.set k (x.1, s, x.2.2)) := by
  have hl : k < l.length := (List.getElem?_eq_some_iff.1 hk).1
  obtain ⟨a0, a1, a2⟩ := flK_get hk
  have h0 := (h.stored (k * 3 + 1) (iv s)).1
  have e : flK (l.set k (x.1, s, x.2.2)) = (flK l).set (k * 3 + 1) (iv s) := by
    rw [← flK_set hl, set_same (i := k * 3) (by exact a0), set_same (i := k * 3 + 2) (by rw [List.getElem?_set_ne (by omega)]; exact a2)]
  show World.ownsRow _ _ _ _ _ _ _
  rw [e]; exact h0
theorem own_put2 {w : World} {B g n cap k : Nat} {l : List Kl} {x : Kl} (s : ByteArray) (hk : l[k]? = some x) (h : Own w B g n cap l) : Own (w.setCell ⟨g, k * 3 + 2, none⟩ (.string s)) B g n cap (l.set k (x.1, x.2.1, s)) := by
  have hl : k < l.length := (List.getElem?_eq_some_iff.1 hk).1
  obtain ⟨a0, a1, a2⟩ := flK_get hk
  have h0 := (h.stored (k * 3 + 2) (sv s)).1
  have e : flK (l.set k (x.1, x.2.1, s)) = (flK l).set (k * 3 + 2) (sv s) := by
    rw [← flK_set hl, set_same (i := k * 3) (by exact a0), set_same (i := k * 3 + 1) (by exact a1)]
  show World.ownsRow _ _ _ _ _ _ _
  rw [e]; exact h0
theorem sz_set {l : List Kl} {k : Nat} {x : Kl} (h : ∀ y ∈ l, y.2.2.size ≤ 25) (hx : x.2.2.size ≤ 25) : ∀ y ∈ l.set k x, y.2.2.size ≤ 25 := fun y hy => by
  rcases List.mem_or_eq_of_mem_set hy with h1 | h1
  · exact h y h1
  · subst h1; exact hx
theorem lit_at3 {w : World} {T : TypeId} {a0 a1 a2 : Int} (k : Nat) (hk : k < 3) : ∃ v : Int, (w.alloc (.cells #[.int .i64 a0, .int .i64 a1, .int .i64 a2] T)).cell? ⟨w.heap.size, k, none⟩ = some (.int .i64 v) := by
  have hc : k = 0 ∨ k = 1 ∨ k = 2 := by omega
  rcases hc with rfl | rfl | rfl
  · exact ⟨a0, by simp [go_sem]⟩
  · exact ⟨a1, by simp [go_sem]⟩
  · exact ⟨a2, by simp [go_sem]⟩
theorem lit_at8s {w : World} {T : TypeId} {a0 a1 a2 a3 a4 a5 a6 a7 : ByteArray} (h : ∀ s ∈ [a0, a1, a2, a3, a4, a5, a6, a7], s.size ≤ 5) (k : Nat) (hk : k < 8) : ∃ v : ByteArray, v.size ≤ 5 ∧ (w.alloc (.cells #[.string a0, .string a1, .string a2, .string a3, .string a4, .string a5, .string a6, .string a7] T)).cell? ⟨w.heap.size, k, none⟩ = some (.string v) := by
  have hc : k = 0 ∨ k = 1 ∨ k = 2 ∨ k = 3 ∨ k = 4 ∨ k = 5 ∨ k = 6 ∨ k = 7 := by omega
  rcases hc with rfl | rfl | rfl | rfl | rfl | rfl | rfl | rfl
  · exact ⟨a0, h _ (by simp), by simp [go_sem]⟩
  · exact ⟨a1, h _ (by simp), by simp [go_sem]⟩
  · exact ⟨a2, h _ (by simp), by simp [go_sem]⟩
  · exact ⟨a3, h _ (by simp), by simp [go_sem]⟩
  · exact ⟨a4, h _ (by simp), by simp [go_sem]⟩
  · exact ⟨a5, h _ (by simp), by simp [go_sem]⟩
  · exact ⟨a6, h _ (by simp), by simp [go_sem]⟩
  · exact ⟨a7, h _ (by simp), by simp [go_sem]⟩
theorem lit_at7s {w : World} {T : TypeId} {a0 a1 a2 a3 a4 a5 a6 : ByteArray} (h : ∀ s ∈ [a0, a1, a2, a3, a4, a5, a6], s.size ≤ 5) (k : Nat) (hk : k < 7) : ∃ v : ByteArray, v.size ≤ 5 ∧ (w.alloc (.cells #[.string a0, .string a1, .string a2, .string a3, .string a4, .string a5, .string a6] T)).cell? ⟨w.heap.size, k, none⟩ = some (.string v) := by
  have hc : k = 0 ∨ k = 1 ∨ k = 2 ∨ k = 3 ∨ k = 4 ∨ k = 5 ∨ k = 6 := by omega
  rcases hc with rfl | rfl | rfl | rfl | rfl | rfl | rfl
  · exact ⟨a0, h _ (by simp), by simp [go_sem]⟩
  · exact ⟨a1, h _ (by simp), by simp [go_sem]⟩
  · exact ⟨a2, h _ (by simp), by simp [go_sem]⟩
  · exact ⟨a3, h _ (by simp), by simp [go_sem]⟩
  · exact ⟨a4, h _ (by simp), by simp [go_sem]⟩
  · exact ⟨a5, h _ (by simp), by simp [go_sem]⟩
  · exact ⟨a6, h _ (by simp), by simp [go_sem]⟩

/-- the words so far, whatever they are -/
def XT (w : World) (B g : Nat) (a : Option Addr) (len cap gl n c : Nat) (L : List Kl) (q : Nat) (f t : Int) (s : ByteArray) (w' : World) : Prop := w'.cell? ⟨q, 2, none⟩ = some (.string s) ∧ XS w B g a len cap w' gl n c L q f t s
theorem below_X {w : World} {B g : Nat} {a : Option Addr} {len cap gl n c q : Nat} {L : List Kl} {f t : Int} {s : ByteArray} {m : Int} (hB : B ≤ g) (hg : g < w.heap.size) (hl : len ≤ 9223372036854775807) (m0 : 0 < m) (w' : World) (h : XS w B g a len cap w' gl n c L q f t s) :
    Calls Tryd.prog 31 #[.pointer (some ⟨g, 0, none⟩), .int .i64 m] w' fun e w1 => ∃ x : Int, e = .returned (.int .i64 x) ∧ (0 ≤ x ∧ x < m) ∧ XS w B g a len cap w1 gl n c L q f t s ∧ w'.grownBy w1 (some g) := by
  refine (below_any B g a len cap m w' hB hl h.ks.ds.cur h.ks.ds.rd m0).mono ?_
  rintro e w1 ⟨x, rfl, x0, x1, k1, g1⟩
  exact ⟨x, rfl, ⟨x0, x1⟩, h.step hB hg k1 g1, g1⟩

/-- titles are drawn -/
def AnQ (w : World) (B g : Nat) (a : Option Addr) (len cap : Nat) (e : Ending) (w' : World) : Prop := ∃ gl n c L, e = .returned (.slice (some ⟨gl, 0, none⟩) n c) ∧ n ≤ 201 ∧ KS w B g a len cap w' gl n c L
theorem below_K {w : World} {B g : Nat} {a : Option Addr} {len cap gl n c : Nat} {L : List Kl} {m : Int} (hB : B ≤ g) (hg : g < w.heap.size) (hl : len ≤ 9223372036854775807) (m0 : 0 < m) (w' : World) (h : KS w B g a len cap w' gl n c L) :
    Calls Tryd.prog 31 #[.pointer (some ⟨g, 0, none⟩), .int .i64 m] w' fun e w1 => ∃ x : Int, e = .returned (.int .i64 x) ∧ (0 ≤ x ∧ x < m) ∧ KS w B g a len cap w1 gl n c L ∧ w'.grownBy w1 (some g) := by
  refine (below_any B g a len cap m w' hB hl h.ds.cur h.ds.rd m0).mono ?_
  rintro e w1 ⟨x, rfl, x0, x1, k1, g1⟩
  exact ⟨x, rfl, ⟨x0, x1⟩, h.step hB hg k1 g1, g1⟩

set_option maxRecDepth 100000 in
set_option maxHeartbeats 12800000 in
theorem dtt_any (B g : Nat) (a : Option Addr) (len cap : Nat) (w : World) (hB : B ≤ g) (hBw : B ≤ w.heap.size) (hl : len ≤ 9223372036854775807) (hc : CurAt w g a len cap) (hr : RdB w B a len) :
    Calls Tryd.prog 30 #[.pointer (some ⟨g, 0, none⟩)] w (AnQ w B g a len cap) := by
  have hgl := hc.lt
  have K0 := hide (show KS w B g a len cap (w.alloc (.cells #[] 32)) w.heap.size 0 0 [] from ⟨(show DS w B g a len cap w from ⟨hc, hr, grown_refl _ _⟩).later hB ((Below.refl _ _).alloc (Nat.le_refl _) _), own_lit0 w (Nat.le_refl _), fun x hx => by simp at hx⟩)
  clear hc hr
  go_enter Tryd.func30, Tryd.ntmps30
  go_wp2_with fail
  generalize w.alloc (.cells #[] 32) = w0 at *
  refine (below_any B g a len cap 3000 _ hB hl (unhide K0).ds.cur (unhide K0).ds.rd (by omega)).mono ?_
  rintro e w1 ⟨t0, rfl, t0a, t0b, k1, g1⟩
  have K1 := hide ((unhide K0).step hB hgl k1 g1)
  clear k1 g1 K0
  go_wp2_with fail
  refine (once_any B g a len cap 16 _ hB hl (unhide K1).ds.cur (unhide K1).ds.rd (by omega)).mono ?_
  rintro e w2 ⟨v, rfl, k1, g1⟩
  have K2 := hide ((unhide K1).step hB hgl k1 g1)
  clear k1 g1 K1
  go_upto_if 14 with fail
  go_cut [4] from 10 (fun u wx => (∃ T : Int, u = .int .i64 T ∧ 0 ≤ T ∧ T ≤ 359990999) ∧ wx = w2)
  case first =>
    cases v with
    | true =>
      go_wp2_with fail
      go_meet
      exact ⟨⟨_, rfl, by omega, by omega⟩, rfl⟩
    | false =>
      go_wp2_with fail
      go_meet
      exact ⟨⟨_, rfl, by omega, by omega⟩, rfl⟩
  case rest =>
  obtain ⟨⟨T, rfl, T0, T1⟩, hwc⟩ := hcut
  have hwc2 := hwc.symm
  subst hwc2
  clear hwc
  go_wp2_with fail
  refine (below_any B g a len cap 6 _ hB hl (unhide K2).ds.cur (unhide K2).ds.rd (by omega)).mono ?_
  rintro e w3 ⟨n0, rfl, n0a, n0b, k1, g1⟩
  have K3 := hide ((unhide K2).step hB hgl k1 g1)
  clear k1 g1 K2
  obtain ⟨m0, rfl⟩ := Int.eq_ofNat_of_zero_le n0a
  have hm0 : m0 ≤ 5 := by omega
  clear n0a n0b
  go_wp2
  go_loopw [3, 4, 5] (fun u tt nn wr => ∃ (k m gl c : Nat) (T : Int) (L : List Kl), k + m ≤ 5 ∧ u = .slice (some ⟨gl, 0, none⟩) m c ∧ tt = .int .i64 T ∧ nn = .int .i64 k ∧ 0 ≤ T ∧ T ≤ 359990999 + 2700 * m ∧ Hid (KS w B g a len cap wr gl m c L)) (fun _ _ nn _ => (intOf nn).toNat)
  case atStart => exact ⟨m0, 0, _, _, T, [], by omega, rfl, rfl, rfl, by omega, by omega, K3⟩
  case round =>
    clear K3
    obtain ⟨k, m, gl, c, T, L, hkm, rfl, rfl, rfl, hT0, hT1, K⟩ := hrel
    by_cases hk : 0 < k
    rotate_left
    · have g0 : decide ((0 : Int) < k) = false := by simp; omega
      have g1 : decide (0 < k) = false := by simp; omega
      go_wp2_with fail
      refine (once_any B g a len cap 14 _ hB hl (unhide K).ds.cur (unhide K).ds.rd (by omega)).mono ?_
      rintro e w4 ⟨v, rfl, k1, g1'⟩
      have K4 := hide ((unhide K).step hB hgl k1 g1')
      clear k1 g1' K
      cases v with
      | false =>
        have Kt := K4
        clear K4
        go_wp2_with fail
        refine (once_any B g a len cap 60 _ hB hl (unhide Kt).ds.cur (unhide Kt).ds.rd (by omega)).mono ?_
        rintro e wt ⟨v9, rfl, k1, g1⟩
        have Kt2 := hide ((unhide Kt).step hB hgl k1 g1)
        clear k1 g1 Kt
        cases v9 with
        | false =>
          go_wp2
          go_ret
          exact ⟨_, _, _, _, rfl, by omega, unhide Kt2⟩
        | true =>
          have Kt3 := hide ((unhide Kt2).fresh hB)
          clear Kt2
          go_wp2
          go_loopw [3, 9] (fun u t wr => ∃ (k gg cc : Nat) (M : List Kl), k ≤ 201 ∧ t = .int .i64 k ∧ u = .slice (some ⟨gg, 0, none⟩) k cc ∧ Hid (KS w B g a len cap wr gg k cc M)) (fun _ t _ => 202 - (intOf t).toNat)
          case atStart => exact ⟨0, wt.heap.size, 0, [], by omega, rfl, rfl, Kt3⟩
          case round =>
            clear Kt3
            obtain ⟨k, gg, cc, M, hk, rfl, rfl, Kt⟩ := hrel
            go_wp2_with fail
            refine (below_any B g a len cap 2 _ hB hl (unhide Kt).ds.cur (unhide Kt).ds.rd (by omega)).mono ?_
            rintro e wu ⟨x, rfl, x0, x1, k1, g1⟩
            have Ku := hide ((unhide Kt).step hB hgl k1 g1)
            clear k1 g1 Kt
            by_cases hlt : (k : Int) < 200 + x
            · have gx : decide ((k : Int) < 200 + x) = true := decide_eq_true hlt
              go_wp2_with (with_reducible refine wpList_kG wu rfl _ _ rfl w.heap.size gg k cc M (k * 10) (k * 10 + 10) ⟨#[116]⟩ rfl (unhide Ku).ow rfl (by omega) (unhide Ku).size ?_)
              intro g' c' w' o' b' q1 q2
              have Kw := hide ((unhide Ku).app hBw hgl o' b' (by decide))
              clear o' b' q1 q2 Ku
              go_wp2
              go_roundw
              case rel => exact ⟨k + 1, g', c', _, by omega, by go_num, by go_num, Kw⟩
              case measure => simp [intOf]; omega
            · have gx : decide ((k : Int) < 200 + x) = false := decide_eq_false hlt
              go_wp2
              go_ret
              exact ⟨_, _, _, _, rfl, by omega, unhide Ku⟩
      | true =>
      by_cases hm : 0 < m
      rotate_left
      · have g2 : decide ((0 : Int) < m) = false := by simp; omega
        have g3 : decide (0 < m) = false := by simp; omega
        have Kt := K4
        clear K4
        go_wp2_with fail
        refine (once_any B g a len cap 60 _ hB hl (unhide Kt).ds.cur (unhide Kt).ds.rd (by omega)).mono ?_
        rintro e wt ⟨v9, rfl, k1, g1⟩
        have Kt2 := hide ((unhide Kt).step hB hgl k1 g1)
        clear k1 g1 Kt
        cases v9 with
        | false =>
          go_wp2
          go_ret
          exact ⟨_, _, _, _, rfl, by omega, unhide Kt2⟩
        | true =>
          have Kt3 := hide ((unhide Kt2).fresh hB)
          clear Kt2
          go_wp2
          go_loopw [3, 9] (fun u t wr => ∃ (k gg cc : Nat) (M : List Kl), k ≤ 201 ∧ t = .int .i64 k ∧ u = .slice (some ⟨gg, 0, none⟩) k cc ∧ Hid (KS w B g a len cap wr gg k cc M)) (fun _ t _ => 202 - (intOf t).toNat)
          case atStart => exact ⟨0, wt.heap.size, 0, [], by omega, rfl, rfl, Kt3⟩
          case round =>
            clear Kt3
            obtain ⟨k, gg, cc, M, hk, rfl, rfl, Kt⟩ := hrel
            go_wp2_with fail
            refine (below_any B g a len cap 2 _ hB hl (unhide Kt).ds.cur (unhide Kt).ds.rd (by omega)).mono ?_
            rintro e wu ⟨x, rfl, x0, x1, k1, g1⟩
            have Ku := hide ((unhide Kt).step hB hgl k1 g1)
            clear k1 g1 Kt
            by_cases hlt : (k : Int) < 200 + x
            · have gx : decide ((k : Int) < 200 + x) = true := decide_eq_true hlt
              go_wp2_with (with_reducible refine wpList_kG wu rfl _ _ rfl w.heap.size gg k cc M (k * 10) (k * 10 + 10) ⟨#[116]⟩ rfl (unhide Ku).ow rfl (by omega) (unhide Ku).size ?_)
              intro g' c' w' o' b' q1 q2
              have Kw := hide ((unhide Ku).app hBw hgl o' b' (by decide))
              clear o' b' q1 q2 Ku
              go_wp2
              go_roundw
              case rel => exact ⟨k + 1, g', c', _, by omega, by go_num, by go_num, Kw⟩
              case measure => simp [intOf]; omega
            · have gx : decide ((k : Int) < 200 + x) = false := decide_eq_false hlt
              go_wp2
              go_ret
              exact ⟨_, _, _, _, rfl, by omega, unhide Ku⟩
      have g2 : decide ((0 : Int) < m) = true := by simp; omega
      have g3 : decide (0 < m) = true := by simp; omega
      go_upto_if 59 with fail
      go_cut [3] from 10 (fun u wx => ∃ gl n c L, u = .slice (some ⟨gl, 0, none⟩) n c ∧ n ≤ 5 ∧ Hid (KS w B g a len cap wx gl n c L))
      case rest =>
        obtain ⟨gl2, m2, c2, L2, rfl, hm2, Kt⟩ := hcut
        clear K4
        go_wp2_with fail
        refine (once_any B g a len cap 60 _ hB hl (unhide Kt).ds.cur (unhide Kt).ds.rd (by omega)).mono ?_
        rintro e wt ⟨v9, rfl, k1, g1⟩
        have Kt2 := hide ((unhide Kt).step hB hgl k1 g1)
        clear k1 g1 Kt
        cases v9 with
        | false =>
          go_wp2
          go_ret
          exact ⟨_, _, _, _, rfl, by omega, unhide Kt2⟩
        | true =>
          have Kt3 := hide ((unhide Kt2).fresh hB)
          clear Kt2
          go_wp2
          go_loopw [3, 9] (fun u t wr => ∃ (k gg cc : Nat) (M : List Kl), k ≤ 201 ∧ t = .int .i64 k ∧ u = .slice (some ⟨gg, 0, none⟩) k cc ∧ Hid (KS w B g a len cap wr gg k cc M)) (fun _ t _ => 202 - (intOf t).toNat)
          case atStart => exact ⟨0, wt.heap.size, 0, [], by omega, rfl, rfl, Kt3⟩
          case round =>
            clear Kt3
            obtain ⟨k, gg, cc, M, hk, rfl, rfl, Kt⟩ := hrel
            go_wp2_with fail
            refine (below_any B g a len cap 2 _ hB hl (unhide Kt).ds.cur (unhide Kt).ds.rd (by omega)).mono ?_
            rintro e wu ⟨x, rfl, x0, x1, k1, g1⟩
            have Ku := hide ((unhide Kt).step hB hgl k1 g1)
            clear k1 g1 Kt
            by_cases hlt : (k : Int) < 200 + x
            · have gx : decide ((k : Int) < 200 + x) = true := decide_eq_true hlt
              go_wp2_with (with_reducible refine wpList_kG wu rfl _ _ rfl w.heap.size gg k cc M (k * 10) (k * 10 + 10) ⟨#[116]⟩ rfl (unhide Ku).ow rfl (by omega) (unhide Ku).size ?_)
              intro g' c' w' o' b' q1 q2
              have Kw := hide ((unhide Ku).app hBw hgl o' b' (by decide))
              clear o' b' q1 q2 Ku
              go_wp2
              go_roundw
              case rel => exact ⟨k + 1, g', c', _, by omega, by go_num, by go_num, Kw⟩
              case measure => simp [intOf]; omega
            · have gx : decide ((k : Int) < 200 + x) = false := decide_eq_false hlt
              go_wp2
              go_ret
              exact ⟨_, _, _, _, rfl, by omega, unhide Ku⟩
      case first =>
      go_wp2_with fail
      refine (below_any B g a len cap m _ hB hl (unhide K4).ds.cur (unhide K4).ds.rd (by omega)).mono ?_
      rintro e w5 ⟨x, rfl, x0, x1, k1, g1'⟩
      obtain ⟨i, rfl⟩ := Int.eq_ofNat_of_zero_le x0
      have K5 := hide ((unhide K4).step hB hgl k1 g1')
      clear k1 g1' K4
      have him : i < m := by omega
      go_wp2_with fail
      refine (below_any B g a len cap 3 _ hB hl (unhide K5).ds.cur (unhide K5).ds.rd (by omega)).mono ?_
      rintro e w6 ⟨y, rfl, y0, y1, k1, g1'⟩
      have K6 := hide ((unhide K5).step hB hgl k1 g1')
      clear k1 g1' K5
      have hLm := own_len (unhide K6).ow
      obtain ⟨z9, hz⟩ : ∃ z, L[i]? = some z := ⟨L[i]'(by omega), List.getElem?_eq_getElem _⟩
      have hz := hide hz
      have hgE : g < w6.heap.size := Nat.lt_of_lt_of_le hgl (unhide K6).size
      have hLm' := hide hLm
      clear hLm
      have hy : y = 0 ∨ y = 1 ∨ y = 2 := by omega
      rcases hy with rfl | rfl | rfl
      · have hla := hide (fun q hq => lit_at7s (w := w6) (T := 9) (a0 := ⟨#[]⟩) (a1 := ⟨#[10]⟩) (a2 := ⟨#[97, 10, 10, 98]⟩) (a3 := ⟨#[97, 10]⟩) (a4 := ⟨#[127]⟩) (a5 := ⟨#[97, 9, 98]⟩) (a6 := ⟨#[111, 107]⟩) (by decide) q hq)
        have K7 := hide ((unhide K6).later hB ((Below.refl w6.heap.size w6).alloc (Nat.le_refl _) (.cells #[.string ⟨#[]⟩, .string ⟨#[10]⟩, .string ⟨#[97, 10, 10, 98]⟩, .string ⟨#[97, 10]⟩, .string ⟨#[127]⟩, .string ⟨#[97, 9, 98]⟩, .string ⟨#[111, 107]⟩] 9)))
        have hEg : w6.heap.size ≠ g := by omega
        clear K6
        go_wp2_with fail
        generalize hY : w6.alloc _ = Y at *
        refine (below_any B g a len cap 7 _ hB hl (unhide K7).ds.cur (unhide K7).ds.rd (by omega)).mono ?_
        rintro e w8 ⟨q, rfl, q0, q1, k1, g1'⟩
        obtain ⟨r, rfl⟩ := Int.eq_ofNat_of_zero_le q0
        obtain ⟨s, hs5, hv⟩ := unhide hla r (by omega)
        have hv1 := grown_cell g1' hEg hv
        have K8 := hide ((unhide K7).step hB hgl k1 g1')
        clear hv k1 g1' K7 hla hY
        have Kt := hide ((unhide K8).put hBw hgl (own_put2 s (unhide hz) (unhide K8).ow) (sz_set (unhide K8).sz (by show s.size ≤ 25; omega)))
        obtain ⟨d0, d1, d2⟩ := own_cells (unhide hz) (unhide K8).ow
        have f0 := (unhide K8).ow.frozenAt (i * 3)
        have f1 := (unhide K8).ow.frozenAt (i * 3 + 1)
        have f2 := (unhide K8).ow.frozenAt (i * 3 + 2)
        clear K8
        go_wp2_with fail
        go_meet
        exact ⟨gl, m, c, _, rfl, by omega, Kt⟩
      · go_upto_region 21 with fail
        refine wp_region_noPanic ?_
        refine wp_region_z (S := (fun w' => KS w B g a len cap w' gl m c L)) 12 (by kernel_rfl) ?_ (fun hH0 => ?_)
        · exact (unhide K6).drew
        refine wpAnyZ_take (i := 0) (oi := { dst := some 80, op := Go.Op.move (Go.Operand.tmp 8), type := 94, pos := _, after := #[], guard := none }) (v := ?_) rfl (by kernel_rfl) (by kernel_rfl) (by kernel_rfl) (fun _ _ _ h => h) (by kernel_rfl) (Or.inl ⟨by rfl, ?_⟩) hH0 ?_
        rotate_left
        · (intro w hSw; have hSc := (own_cells (unhide hz) hSw.ow).2.1; go_simp <;> with_reducible rfl)
        (try simp only [Act.put, List.setIfInBounds_toArray, List.set_cons_zero, List.set_cons_succ])
        refine wpAnyZ_take (i := 1) (oi := { dst := some 81, op := Go.Op.move (Go.Operand.tmp 8), type := 94, pos := _, after := #[], guard := none }) (v := ?_) rfl (by kernel_rfl) (by kernel_rfl) (by kernel_rfl) (fun _ _ _ h => h) (by kernel_rfl) (Or.inl ⟨by rfl, ?_⟩) hH0 ?_
        rotate_left
        · (intro w hSw; have hSc := (own_cells (unhide hz) hSw.ow).2.1; go_simp <;> with_reducible rfl)
        (try simp only [Act.put, List.setIfInBounds_toArray, List.set_cons_zero, List.set_cons_succ])
        refine wpAnyZ_take (i := 2) (oi := { dst := some 82, op := Go.Op.nilCheck (Go.Operand.tmp 81), type := 0, pos := _, after := #[{ on := 1, ground := Go.Ground.data }], guard := none }) (v := ?_) rfl (by kernel_rfl) (by kernel_rfl) (by kernel_rfl) (fun _ _ _ h => h) (by kernel_rfl) (Or.inl ⟨by rfl, ?_⟩) hH0 ?_
        rotate_left
        · (intro w hSw; have hSc := (own_cells (unhide hz) hSw.ow).2.1; go_simp <;> with_reducible rfl)
        (try simp only [Act.put, List.setIfInBounds_toArray, List.set_cons_zero, List.set_cons_succ])
        refine wpAnyZ_take (i := 3) (oi := { dst := some 83, op := Go.Op.fieldAddr 32 (Go.Operand.tmp 82) 1, type := 0, pos := _, after := #[{ on := 2, ground := Go.Ground.data }], guard := none }) (v := ?_) rfl (by kernel_rfl) (by kernel_rfl) (by kernel_rfl) (fun _ _ _ h => h) (by kernel_rfl) (Or.inl ⟨by rfl, ?_⟩) hH0 ?_
        rotate_left
        · (intro w hSw; have hSc := (own_cells (unhide hz) hSw.ow).2.1; go_simp <;> with_reducible rfl)
        (try simp only [Act.put, List.setIfInBounds_toArray, List.set_cons_zero, List.set_cons_succ])
        refine wpAnyZ_take (i := 4) (oi := { dst := some 84, op := Go.Op.load 2 (Go.Operand.tmp 83), type := 2, pos := _, after := #[{ on := 3, ground := Go.Ground.data }], guard := none }) (v := ?_) rfl (by kernel_rfl) (by kernel_rfl) (by kernel_rfl) (fun _ _ _ h => h) (by kernel_rfl) (Or.inl ⟨by rfl, ?_⟩) hH0 ?_
        rotate_left
        · (intro w hSw; have hSc := (own_cells (unhide hz) hSw.ow).2.1; go_simp <;> with_reducible rfl)
        (try simp only [Act.put, List.setIfInBounds_toArray, List.set_cons_zero, List.set_cons_succ])
        refine wpAnyZ_take (i := 6) (oi := { dst := some 86, op := Go.Op.move (Go.Operand.tmp 0), type := 58, pos := _, after := #[], guard := none }) (v := ?_) rfl (by kernel_rfl) (by kernel_rfl) (by kernel_rfl) (fun _ _ _ h => h) (by kernel_rfl) (Or.inl ⟨by rfl, ?_⟩) hH0 ?_
        rotate_left
        · (intro w hSw; have hSc := (own_cells (unhide hz) hSw.ow).2.1; go_simp <;> with_reducible rfl)
        (try simp only [Act.put, List.setIfInBounds_toArray, List.set_cons_zero, List.set_cons_succ])
        refine wpAnyZ_ready (rs := [5, 7]) (by kernel_rfl) (by simp) ?_
        refine AllReadyZ.cons (o := { dst := some 85, op := Go.Op.buildSlice 69 3 #[(0, Go.Operand.const (Go.Value.int Go.IntKind.i64 (-1))), (1, Go.Operand.tmp 84), (2, Go.Operand.const (Go.Value.int Go.IntKind.i64 0))], type := 69, pos := _, after := #[{ on := 4, ground := Go.Ground.data }], guard := none }) rfl (fun K hK => ?_) ?_
        · go_simp
          have hlit := hide (fun q hq => lit_at3 (w := w6.drew) (T := 2) (a0 := -1) (a1 := z9.2.1) (a2 := 0) q hq)
          have hEg : w6.drew.heap.size ≠ g := by have := hgE; simp at this ⊢; omega
          refine hK.out _ _ ?_ (fun hH1 => ?_)
          · exact hH0.later hB ((Below.refl _ _).alloc (Nat.le_refl _) _)
          clear hK K
          (try simp only [Act.put, List.setIfInBounds_toArray, List.set_cons_zero, List.set_cons_succ])
          refine wpAnyZ_ready (rs := [7]) (by kernel_rfl) (by simp) ?_
          refine AllReadyZ.cons (o := { dst := some 87, op := Go.Op.call { callee := Go.Callee.value (Go.Operand.func 31), args := #[Go.Operand.tmp 86, Go.Operand.const (Go.Value.int Go.IntKind.i64 3)], argTypes := #[58, 2] }, type := 2, pos := _, after := #[{ on := 6, ground := Go.Ground.data }], guard := none }) rfl (fun K hK => ?_) AllReadyZ.nil
          go_simp
          go_at_call 31
          refine (below_K hB hgl hl (by omega) _ hH1).mono ?_
          rintro e wc ⟨x, rfl, x9, hS9, gg⟩
          go_wp2_with fail
          refine hK.out _ _ ?_ (fun hHc => ?_)
          · exact hS9
          clear hK K
          (try simp only [Act.put, List.setIfInBounds_toArray, List.set_cons_zero, List.set_cons_succ])
          obtain ⟨n9, rfl⟩ := Int.eq_ofNat_of_zero_le x9.1
          obtain ⟨u9, hv⟩ := unhide hlit n9 (by omega)
          have hv1 : wc.cell? ⟨w6.heap.size, n9, none⟩ = some (.int .i64 u9) := grown_cell gg hEg hv
          clear hv hlit gg hH1 hH0
          refine wpAnyZ_take (i := 8) (oi := { dst := some 88, op := Go.Op.indexAddr 69 (Go.Operand.tmp 85) (Go.Operand.tmp 87), type := 0, pos := _, after := #[{ on := 5, ground := Go.Ground.data }, { on := 7, ground := Go.Ground.data }], guard := none }) (v := ?_) rfl (by kernel_rfl) (by kernel_rfl) (by kernel_rfl) (fun _ _ _ h => h) (by kernel_rfl) (Or.inl ⟨by rfl, ?_⟩) hHc ?_
          rotate_left
          · (intro w hSw; go_simp <;> with_reducible rfl)
          (try simp only [Act.put, List.setIfInBounds_toArray, List.set_cons_zero, List.set_cons_succ])
          refine wpAnyZ_ready (rs := [9]) (by kernel_rfl) (by simp) ?_
          refine AllReadyZ.cons (o := { dst := some 89, op := Go.Op.load 2 (Go.Operand.tmp 88), type := 2, pos := _, after := #[{ on := 8, ground := Go.Ground.data }], guard := none }) rfl (fun K hK => ?_) AllReadyZ.nil
          go_simp
          refine hK.out _ _ ?_ (fun hH5 => ?_)
          · exact hHc
          clear hK K
          (try simp only [Act.put, List.setIfInBounds_toArray, List.set_cons_zero, List.set_cons_succ])
          refine wpAnyZ_ready (rs := [10]) (by kernel_rfl) (by simp) ?_
          refine AllReadyZ.cons (o := { dst := some 90, op := Go.Op.nilCheck (Go.Operand.tmp 80), type := 0, pos := _, after := #[{ on := 0, ground := Go.Ground.data }, { on := 0, ground := Go.Ground.phase }, { on := 1, ground := Go.Ground.phase }, { on := 2, ground := Go.Ground.phase }, { on := 3, ground := Go.Ground.phase }, { on := 4, ground := Go.Ground.phase }, { on := 5, ground := Go.Ground.phase }, { on := 6, ground := Go.Ground.phase }, { on := 7, ground := Go.Ground.phase }, { on := 8, ground := Go.Ground.phase }, { on := 9, ground := Go.Ground.phase }], guard := none }) rfl (fun K hK => ?_) AllReadyZ.nil
          go_simp
          refine hK.out _ _ ?_ (fun hH6 => ?_)
          · exact hH5
          clear hK K hH5
          have hH5 := hH6
          clear hH6
          (try simp only [Act.put, List.setIfInBounds_toArray, List.set_cons_zero, List.set_cons_succ])
          refine wpAnyZ_ready (rs := [11]) (by kernel_rfl) (by simp) ?_
          refine AllReadyZ.cons (o := { dst := some 91, op := Go.Op.fieldAddr 32 (Go.Operand.tmp 90) 0, type := 0, pos := _, after := #[{ on := 10, ground := Go.Ground.data }, { on := 0, ground := Go.Ground.phase }, { on := 1, ground := Go.Ground.phase }, { on := 2, ground := Go.Ground.phase }, { on := 3, ground := Go.Ground.phase }, { on := 4, ground := Go.Ground.phase }, { on := 5, ground := Go.Ground.phase }, { on := 6, ground := Go.Ground.phase }, { on := 7, ground := Go.Ground.phase }, { on := 8, ground := Go.Ground.phase }, { on := 9, ground := Go.Ground.phase }], guard := none }) rfl (fun K hK => ?_) AllReadyZ.nil
          go_simp
          refine hK.out _ _ ?_ (fun hH6 => ?_)
          · exact hH5
          clear hK K hH5
          have hH5 := hH6
          clear hH6
          (try simp only [Act.put, List.setIfInBounds_toArray, List.set_cons_zero, List.set_cons_succ])
          refine wpAnyZ_ready (rs := [12]) (by kernel_rfl) (by simp) ?_
          refine AllReadyZ.last (o := { dst := none, op := Go.Op.store 2 (Go.Operand.tmp 91) (Go.Operand.tmp 89), type := 0, pos := _, after := #[{ on := 11, ground := Go.Ground.data }, { on := 9, ground := Go.Ground.data }, { on := 7, ground := Go.Ground.chain }, { on := 0, ground := Go.Ground.phase }, { on := 1, ground := Go.Ground.phase }, { on := 2, ground := Go.Ground.phase }, { on := 3, ground := Go.Ground.phase }, { on := 4, ground := Go.Ground.phase }, { on := 5, ground := Go.Ground.phase }, { on := 6, ground := Go.Ground.phase }, { on := 7, ground := Go.Ground.phase }, { on := 8, ground := Go.Ground.phase }, { on := 9, ground := Go.Ground.phase }], guard := none }) rfl (fun K hK => ?_)
          have Kt := hide (hH5.put hBw hgl (own_put0 u9 (unhide hz) hH5.ow) (sz_set hH5.sz (hH5.sz z9 (List.mem_of_getElem? (unhide hz)))))
          obtain ⟨d0, d1, d2⟩ := own_cells (unhide hz) hH5.ow
          have f0 := hH5.ow.frozenAt (i * 3)
          have f1 := hH5.ow.frozenAt (i * 3 + 1)
          have f2 := hH5.ow.frozenAt (i * 3 + 2)
          go_simp
          refine hK.out _ _ ?_
          clear hK K
          (try simp only [Act.put, List.setIfInBounds_toArray, List.set_cons_zero, List.set_cons_succ])
          refine wpAnyZ_done (by kernel_rfl) ?_ _
          refine NoPanic.normal ?_
          go_wp2_with fail
          go_meet
          exact ⟨gl, m, c, _, rfl, by omega, Kt⟩
        refine AllReadyZ.cons (o := { dst := some 87, op := Go.Op.call { callee := Go.Callee.value (Go.Operand.func 31), args := #[Go.Operand.tmp 86, Go.Operand.const (Go.Value.int Go.IntKind.i64 3)], argTypes := #[58, 2] }, type := 2, pos := _, after := #[{ on := 6, ground := Go.Ground.data }], guard := none }) rfl (fun K hK => ?_) AllReadyZ.nil
        · go_simp
          go_at_call 31
          refine (below_K hB hgl hl (by omega) _ hH0).mono ?_
          rintro e wc ⟨x, rfl, x9, hS9, gg⟩
          go_wp2_with fail
          refine hK.out _ _ ?_ (fun hHc => ?_)
          · exact hS9
          clear hK K
          (try simp only [Act.put, List.setIfInBounds_toArray, List.set_cons_zero, List.set_cons_succ])
          refine wpAnyZ_ready (rs := [5]) (by kernel_rfl) (by simp) ?_
          refine AllReadyZ.cons (o := { dst := some 85, op := Go.Op.buildSlice 69 3 #[(0, Go.Operand.const (Go.Value.int Go.IntKind.i64 (-1))), (1, Go.Operand.tmp 84), (2, Go.Operand.const (Go.Value.int Go.IntKind.i64 0))], type := 69, pos := _, after := #[{ on := 4, ground := Go.Ground.data }], guard := none }) rfl (fun K hK => ?_) AllReadyZ.nil
          go_simp
          have hlit := hide (fun q hq => lit_at3 (w := wc) (T := 2) (a0 := -1) (a1 := z9.2.1) (a2 := 0) q hq)
          refine hK.out _ _ ?_ (fun hH1 => ?_)
          · exact hHc.later hB ((Below.refl _ _).alloc (Nat.le_refl _) _)
          clear hK K
          (try simp only [Act.put, List.setIfInBounds_toArray, List.set_cons_zero, List.set_cons_succ])
          obtain ⟨n9, rfl⟩ := Int.eq_ofNat_of_zero_le x9.1
          obtain ⟨u9, hv⟩ := unhide hlit n9 (by omega)
          have hv1 := hv
          clear hv hlit gg hHc hH0
          refine wpAnyZ_take (i := 8) (oi := { dst := some 88, op := Go.Op.indexAddr 69 (Go.Operand.tmp 85) (Go.Operand.tmp 87), type := 0, pos := _, after := #[{ on := 5, ground := Go.Ground.data }, { on := 7, ground := Go.Ground.data }], guard := none }) (v := ?_) rfl (by kernel_rfl) (by kernel_rfl) (by kernel_rfl) (fun _ _ _ h => h) (by kernel_rfl) (Or.inl ⟨by rfl, ?_⟩) hH1 ?_
          rotate_left
          · (intro w hSw; go_simp <;> with_reducible rfl)
          (try simp only [Act.put, List.setIfInBounds_toArray, List.set_cons_zero, List.set_cons_succ])
          refine wpAnyZ_ready (rs := [9]) (by kernel_rfl) (by simp) ?_
          refine AllReadyZ.cons (o := { dst := some 89, op := Go.Op.load 2 (Go.Operand.tmp 88), type := 2, pos := _, after := #[{ on := 8, ground := Go.Ground.data }], guard := none }) rfl (fun K hK => ?_) AllReadyZ.nil
          go_simp
          refine hK.out _ _ ?_ (fun hH5 => ?_)
          · exact hH1
          clear hK K
          (try simp only [Act.put, List.setIfInBounds_toArray, List.set_cons_zero, List.set_cons_succ])
          refine wpAnyZ_ready (rs := [10]) (by kernel_rfl) (by simp) ?_
          refine AllReadyZ.cons (o := { dst := some 90, op := Go.Op.nilCheck (Go.Operand.tmp 80), type := 0, pos := _, after := #[{ on := 0, ground := Go.Ground.data }, { on := 0, ground := Go.Ground.phase }, { on := 1, ground := Go.Ground.phase }, { on := 2, ground := Go.Ground.phase }, { on := 3, ground := Go.Ground.phase }, { on := 4, ground := Go.Ground.phase }, { on := 5, ground := Go.Ground.phase }, { on := 6, ground := Go.Ground.phase }, { on := 7, ground := Go.Ground.phase }, { on := 8, ground := Go.Ground.phase }, { on := 9, ground := Go.Ground.phase }], guard := none }) rfl (fun K hK => ?_) AllReadyZ.nil
          go_simp
          refine hK.out _ _ ?_ (fun hH6 => ?_)
          · exact hH5
          clear hK K hH5
          have hH5 := hH6
          clear hH6
          (try simp only [Act.put, List.setIfInBounds_toArray, List.set_cons_zero, List.set_cons_succ])
          refine wpAnyZ_ready (rs := [11]) (by kernel_rfl) (by simp) ?_
          refine AllReadyZ.cons (o := { dst := some 91, op := Go.Op.fieldAddr 32 (Go.Operand.tmp 90) 0, type := 0, pos := _, after := #[{ on := 10, ground := Go.Ground.data }, { on := 0, ground := Go.Ground.phase }, { on := 1, ground := Go.Ground.phase }, { on := 2, ground := Go.Ground.phase }, { on := 3, ground := Go.Ground.phase }, { on := 4, ground := Go.Ground.phase }, { on := 5, ground := Go.Ground.phase }, { on := 6, ground := Go.Ground.phase }, { on := 7, ground := Go.Ground.phase }, { on := 8, ground := Go.Ground.phase }, { on := 9, ground := Go.Ground.phase }], guard := none }) rfl (fun K hK => ?_) AllReadyZ.nil
          go_simp
          refine hK.out _ _ ?_ (fun hH6 => ?_)
          · exact hH5
          clear hK K hH5
          have hH5 := hH6
          clear hH6
          (try simp only [Act.put, List.setIfInBounds_toArray, List.set_cons_zero, List.set_cons_succ])
          refine wpAnyZ_ready (rs := [12]) (by kernel_rfl) (by simp) ?_
          refine AllReadyZ.last (o := { dst := none, op := Go.Op.store 2 (Go.Operand.tmp 91) (Go.Operand.tmp 89), type := 0, pos := _, after := #[{ on := 11, ground := Go.Ground.data }, { on := 9, ground := Go.Ground.data }, { on := 7, ground := Go.Ground.chain }, { on := 0, ground := Go.Ground.phase }, { on := 1, ground := Go.Ground.phase }, { on := 2, ground := Go.Ground.phase }, { on := 3, ground := Go.Ground.phase }, { on := 4, ground := Go.Ground.phase }, { on := 5, ground := Go.Ground.phase }, { on := 6, ground := Go.Ground.phase }, { on := 7, ground := Go.Ground.phase }, { on := 8, ground := Go.Ground.phase }, { on := 9, ground := Go.Ground.phase }], guard := none }) rfl (fun K hK => ?_)
          have Kt := hide (hH5.put hBw hgl (own_put0 u9 (unhide hz) hH5.ow) (sz_set hH5.sz (hH5.sz z9 (List.mem_of_getElem? (unhide hz)))))
          obtain ⟨d0, d1, d2⟩ := own_cells (unhide hz) hH5.ow
          have f0 := hH5.ow.frozenAt (i * 3)
          have f1 := hH5.ow.frozenAt (i * 3 + 1)
          have f2 := hH5.ow.frozenAt (i * 3 + 2)
          go_simp
          refine hK.out _ _ ?_
          clear hK K
          (try simp only [Act.put, List.setIfInBounds_toArray, List.set_cons_zero, List.set_cons_succ])
          refine wpAnyZ_done (by kernel_rfl) ?_ _
          refine NoPanic.normal ?_
          go_wp2_with fail
          go_meet
          exact ⟨gl, m, c, _, rfl, by omega, Kt⟩

      · go_upto_region 23 with fail
        refine wp_region_noPanic ?_
        refine wp_region_z (S := (fun w' => KS w B g a len cap w' gl m c L)) 12 (by kernel_rfl) ?_ (fun hH0 => ?_)
        · exact (unhide K6).drew
        refine wpAnyZ_take (i := 0) (oi := { dst := some 94, op := Go.Op.move (Go.Operand.tmp 8), type := 94, pos := _, after := #[], guard := none }) (v := ?_) rfl (by kernel_rfl) (by kernel_rfl) (by kernel_rfl) (fun _ _ _ h => h) (by kernel_rfl) (Or.inl ⟨by rfl, ?_⟩) hH0 ?_
        rotate_left
        · (intro w hSw; have hSc := (own_cells (unhide hz) hSw.ow).1; go_simp <;> with_reducible rfl)
        (try simp only [Act.put, List.setIfInBounds_toArray, List.set_cons_zero, List.set_cons_succ])
        refine wpAnyZ_take (i := 1) (oi := { dst := some 95, op := Go.Op.move (Go.Operand.tmp 8), type := 94, pos := _, after := #[], guard := none }) (v := ?_) rfl (by kernel_rfl) (by kernel_rfl) (by kernel_rfl) (fun _ _ _ h => h) (by kernel_rfl) (Or.inl ⟨by rfl, ?_⟩) hH0 ?_
        rotate_left
        · (intro w hSw; have hSc := (own_cells (unhide hz) hSw.ow).1; go_simp <;> with_reducible rfl)
        (try simp only [Act.put, List.setIfInBounds_toArray, List.set_cons_zero, List.set_cons_succ])
        refine wpAnyZ_take (i := 2) (oi := { dst := some 96, op := Go.Op.nilCheck (Go.Operand.tmp 95), type := 0, pos := _, after := #[{ on := 1, ground := Go.Ground.data }], guard := none }) (v := ?_) rfl (by kernel_rfl) (by kernel_rfl) (by kernel_rfl) (fun _ _ _ h => h) (by kernel_rfl) (Or.inl ⟨by rfl, ?_⟩) hH0 ?_
        rotate_left
        · (intro w hSw; have hSc := (own_cells (unhide hz) hSw.ow).1; go_simp <;> with_reducible rfl)
        (try simp only [Act.put, List.setIfInBounds_toArray, List.set_cons_zero, List.set_cons_succ])
        refine wpAnyZ_take (i := 3) (oi := { dst := some 97, op := Go.Op.fieldAddr 32 (Go.Operand.tmp 96) 0, type := 0, pos := _, after := #[{ on := 2, ground := Go.Ground.data }], guard := none }) (v := ?_) rfl (by kernel_rfl) (by kernel_rfl) (by kernel_rfl) (fun _ _ _ h => h) (by kernel_rfl) (Or.inl ⟨by rfl, ?_⟩) hH0 ?_
        rotate_left
        · (intro w hSw; have hSc := (own_cells (unhide hz) hSw.ow).1; go_simp <;> with_reducible rfl)
        (try simp only [Act.put, List.setIfInBounds_toArray, List.set_cons_zero, List.set_cons_succ])
        refine wpAnyZ_take (i := 4) (oi := { dst := some 98, op := Go.Op.load 2 (Go.Operand.tmp 97), type := 2, pos := _, after := #[{ on := 3, ground := Go.Ground.data }], guard := none }) (v := ?_) rfl (by kernel_rfl) (by kernel_rfl) (by kernel_rfl) (fun _ _ _ h => h) (by kernel_rfl) (Or.inl ⟨by rfl, ?_⟩) hH0 ?_
        rotate_left
        · (intro w hSw; have hSc := (own_cells (unhide hz) hSw.ow).1; go_simp <;> with_reducible rfl)
        (try simp only [Act.put, List.setIfInBounds_toArray, List.set_cons_zero, List.set_cons_succ])
        refine wpAnyZ_take (i := 6) (oi := { dst := some 100, op := Go.Op.move (Go.Operand.tmp 0), type := 58, pos := _, after := #[], guard := none }) (v := ?_) rfl (by kernel_rfl) (by kernel_rfl) (by kernel_rfl) (fun _ _ _ h => h) (by kernel_rfl) (Or.inl ⟨by rfl, ?_⟩) hH0 ?_
        rotate_left
        · (intro w hSw; have hSc := (own_cells (unhide hz) hSw.ow).1; go_simp <;> with_reducible rfl)
        (try simp only [Act.put, List.setIfInBounds_toArray, List.set_cons_zero, List.set_cons_succ])
        refine wpAnyZ_ready (rs := [5, 7]) (by kernel_rfl) (by simp) ?_
        refine AllReadyZ.cons (o := { dst := some 99, op := Go.Op.buildSlice 69 3 #[(0, Go.Operand.const (Go.Value.int Go.IntKind.i64 359999999)), (1, Go.Operand.const (Go.Value.int Go.IntKind.i64 360000000)), (2, Go.Operand.tmp 98)], type := 69, pos := _, after := #[{ on := 4, ground := Go.Ground.data }], guard := none }) rfl (fun K hK => ?_) ?_
        · go_simp
          have hlit := hide (fun q hq => lit_at3 (w := w6.drew) (T := 2) (a0 := 359999999) (a1 := 360000000) (a2 := z9.1) q hq)
          have hEg : w6.drew.heap.size ≠ g := by have := hgE; simp at this ⊢; omega
          refine hK.out _ _ ?_ (fun hH1 => ?_)
          · exact hH0.later hB ((Below.refl _ _).alloc (Nat.le_refl _) _)
          clear hK K
          (try simp only [Act.put, List.setIfInBounds_toArray, List.set_cons_zero, List.set_cons_succ])
          refine wpAnyZ_ready (rs := [7]) (by kernel_rfl) (by simp) ?_
          refine AllReadyZ.cons (o := { dst := some 101, op := Go.Op.call { callee := Go.Callee.value (Go.Operand.func 31), args := #[Go.Operand.tmp 100, Go.Operand.const (Go.Value.int Go.IntKind.i64 3)], argTypes := #[58, 2] }, type := 2, pos := _, after := #[{ on := 6, ground := Go.Ground.data }], guard := none }) rfl (fun K hK => ?_) AllReadyZ.nil
          go_simp
          go_at_call 31
          refine (below_K hB hgl hl (by omega) _ hH1).mono ?_
          rintro e wc ⟨x, rfl, x9, hS9, gg⟩
          go_wp2_with fail
          refine hK.out _ _ ?_ (fun hHc => ?_)
          · exact hS9
          clear hK K
          (try simp only [Act.put, List.setIfInBounds_toArray, List.set_cons_zero, List.set_cons_succ])
          obtain ⟨n9, rfl⟩ := Int.eq_ofNat_of_zero_le x9.1
          obtain ⟨u9, hv⟩ := unhide hlit n9 (by omega)
          have hv1 : wc.cell? ⟨w6.heap.size, n9, none⟩ = some (.int .i64 u9) := grown_cell gg hEg hv
          clear hv hlit gg hH1 hH0
          refine wpAnyZ_take (i := 8) (oi := { dst := some 102, op := Go.Op.indexAddr 69 (Go.Operand.tmp 99) (Go.Operand.tmp 101), type := 0, pos := _, after := #[{ on := 5, ground := Go.Ground.data }, { on := 7, ground := Go.Ground.data }], guard := none }) (v := ?_) rfl (by kernel_rfl) (by kernel_rfl) (by kernel_rfl) (fun _ _ _ h => h) (by kernel_rfl) (Or.inl ⟨by rfl, ?_⟩) hHc ?_
          rotate_left
          · (intro w hSw; go_simp <;> with_reducible rfl)
          (try simp only [Act.put, List.setIfInBounds_toArray, List.set_cons_zero, List.set_cons_succ])
          refine wpAnyZ_ready (rs := [9]) (by kernel_rfl) (by simp) ?_
          refine AllReadyZ.cons (o := { dst := some 103, op := Go.Op.load 2 (Go.Operand.tmp 102), type := 2, pos := _, after := #[{ on := 8, ground := Go.Ground.data }], guard := none }) rfl (fun K hK => ?_) AllReadyZ.nil
          go_simp
          refine hK.out _ _ ?_ (fun hH5 => ?_)
          · exact hHc
          clear hK K
          (try simp only [Act.put, List.setIfInBounds_toArray, List.set_cons_zero, List.set_cons_succ])
          refine wpAnyZ_ready (rs := [10]) (by kernel_rfl) (by simp) ?_
          refine AllReadyZ.cons (o := { dst := some 104, op := Go.Op.nilCheck (Go.Operand.tmp 94), type := 0, pos := _, after := #[{ on := 0, ground := Go.Ground.data }, { on := 0, ground := Go.Ground.phase }, { on := 1, ground := Go.Ground.phase }, { on := 2, ground := Go.Ground.phase }, { on := 3, ground := Go.Ground.phase }, { on := 4, ground := Go.Ground.phase }, { on := 5, ground := Go.Ground.phase }, { on := 6, ground := Go.Ground.phase }, { on := 7, ground := Go.Ground.phase }, { on := 8, ground := Go.Ground.phase }, { on := 9, ground := Go.Ground.phase }], guard := none }) rfl (fun K hK => ?_) AllReadyZ.nil
          go_simp
          refine hK.out _ _ ?_ (fun hH6 => ?_)
          · exact hH5
          clear hK K hH5
          have hH5 := hH6
          clear hH6
          (try simp only [Act.put, List.setIfInBounds_toArray, List.set_cons_zero, List.set_cons_succ])
          refine wpAnyZ_ready (rs := [11]) (by kernel_rfl) (by simp) ?_
          refine AllReadyZ.cons (o := { dst := some 105, op := Go.Op.fieldAddr 32 (Go.Operand.tmp 104) 1, type := 0, pos := _, after := #[{ on := 10, ground := Go.Ground.data }, { on := 0, ground := Go.Ground.phase }, { on := 1, ground := Go.Ground.phase }, { on := 2, ground := Go.Ground.phase }, { on := 3, ground := Go.Ground.phase }, { on := 4, ground := Go.Ground.phase }, { on := 5, ground := Go.Ground.phase }, { on := 6, ground := Go.Ground.phase }, { on := 7, ground := Go.Ground.phase }, { on := 8, ground := Go.Ground.phase }, { on := 9, ground := Go.Ground.phase }], guard := none }) rfl (fun K hK => ?_) AllReadyZ.nil
          go_simp
          refine hK.out _ _ ?_ (fun hH6 => ?_)
          · exact hH5
          clear hK K hH5
          have hH5 := hH6
          clear hH6
          (try simp only [Act.put, List.setIfInBounds_toArray, List.set_cons_zero, List.set_cons_succ])
          refine wpAnyZ_ready (rs := [12]) (by kernel_rfl) (by simp) ?_
          refine AllReadyZ.last (o := { dst := none, op := Go.Op.store 2 (Go.Operand.tmp 105) (Go.Operand.tmp 103), type := 0, pos := _, after := #[{ on := 11, ground := Go.Ground.data }, { on := 9, ground := Go.Ground.data }, { on := 7, ground := Go.Ground.chain }, { on := 0, ground := Go.Ground.phase }, { on := 1, ground := Go.Ground.phase }, { on := 2, ground := Go.Ground.phase }, { on := 3, ground := Go.Ground.phase }, { on := 4, ground := Go.Ground.phase }, { on := 5, ground := Go.Ground.phase }, { on := 6, ground := Go.Ground.phase }, { on := 7, ground := Go.Ground.phase }, { on := 8, ground := Go.Ground.phase }, { on := 9, ground := Go.Ground.phase }], guard := none }) rfl (fun K hK => ?_)
          have Kt := hide (hH5.put hBw hgl (own_put1 u9 (unhide hz) hH5.ow) (sz_set hH5.sz (hH5.sz z9 (List.mem_of_getElem? (unhide hz)))))
          obtain ⟨d0, d1, d2⟩ := own_cells (unhide hz) hH5.ow
          have f0 := hH5.ow.frozenAt (i * 3)
          have f1 := hH5.ow.frozenAt (i * 3 + 1)
          have f2 := hH5.ow.frozenAt (i * 3 + 2)
          go_simp
          refine hK.out _ _ ?_
          clear hK K
          (try simp only [Act.put, List.setIfInBounds_toArray, List.set_cons_zero, List.set_cons_succ])
          refine wpAnyZ_done (by kernel_rfl) ?_ _
          refine NoPanic.normal ?_
          go_wp2_with fail
          go_meet
          exact ⟨gl, m, c, _, rfl, by omega, Kt⟩
        refine AllReadyZ.cons (o := { dst := some 101, op := Go.Op.call { callee := Go.Callee.value (Go.Operand.func 31), args := #[Go.Operand.tmp 100, Go.Operand.const (Go.Value.int Go.IntKind.i64 3)], argTypes := #[58, 2] }, type := 2, pos := _, after := #[{ on := 6, ground := Go.Ground.data }], guard := none }) rfl (fun K hK => ?_) AllReadyZ.nil
        · go_simp
          go_at_call 31
          refine (below_K hB hgl hl (by omega) _ hH0).mono ?_
          rintro e wc ⟨x, rfl, x9, hS9, gg⟩
          go_wp2_with fail
          refine hK.out _ _ ?_ (fun hHc => ?_)
          · exact hS9
          clear hK K
          (try simp only [Act.put, List.setIfInBounds_toArray, List.set_cons_zero, List.set_cons_succ])
          refine wpAnyZ_ready (rs := [5]) (by kernel_rfl) (by simp) ?_
          refine AllReadyZ.cons (o := { dst := some 99, op := Go.Op.buildSlice 69 3 #[(0, Go.Operand.const (Go.Value.int Go.IntKind.i64 359999999)), (1, Go.Operand.const (Go.Value.int Go.IntKind.i64 360000000)), (2, Go.Operand.tmp 98)], type := 69, pos := _, after := #[{ on := 4, ground := Go.Ground.data }], guard := none }) rfl (fun K hK => ?_) AllReadyZ.nil
          go_simp
          have hlit := hide (fun q hq => lit_at3 (w := wc) (T := 2) (a0 := 359999999) (a1 := 360000000) (a2 := z9.1) q hq)
          refine hK.out _ _ ?_ (fun hH1 => ?_)
          · exact hHc.later hB ((Below.refl _ _).alloc (Nat.le_refl _) _)
          clear hK K
          (try simp only [Act.put, List.setIfInBounds_toArray, List.set_cons_zero, List.set_cons_succ])
          obtain ⟨n9, rfl⟩ := Int.eq_ofNat_of_zero_le x9.1
          obtain ⟨u9, hv⟩ := unhide hlit n9 (by omega)
          have hv1 := hv
          clear hv hlit gg hHc hH0
          refine wpAnyZ_take (i := 8) (oi := { dst := some 102, op := Go.Op.indexAddr 69 (Go.Operand.tmp 99) (Go.Operand.tmp 101), type := 0, pos := _, after := #[{ on := 5, ground := Go.Ground.data }, { on := 7, ground := Go.Ground.data }], guard := none }) (v := ?_) rfl (by kernel_rfl) (by kernel_rfl) (by kernel_rfl) (fun _ _ _ h => h) (by kernel_rfl) (Or.inl ⟨by rfl, ?_⟩) hH1 ?_
          rotate_left
          · (intro w hSw; go_simp <;> with_reducible rfl)
          (try simp only [Act.put, List.setIfInBounds_toArray, List.set_cons_zero, List.set_cons_succ])
          refine wpAnyZ_ready (rs := [9]) (by kernel_rfl) (by simp) ?_
          refine AllReadyZ.cons (o := { dst := some 103, op := Go.Op.load 2 (Go.Operand.tmp 102), type := 2, pos := _, after := #[{ on := 8, ground := Go.Ground.data }], guard := none }) rfl (fun K hK => ?_) AllReadyZ.nil
          go_simp
          refine hK.out _ _ ?_ (fun hH5 => ?_)
          · exact hH1
          clear hK K
          (try simp only [Act.put, List.setIfInBounds_toArray, List.set_cons_zero, List.set_cons_succ])
          refine wpAnyZ_ready (rs := [10]) (by kernel_rfl) (by simp) ?_
          refine AllReadyZ.cons (o := { dst := some 104, op := Go.Op.nilCheck (Go.Operand.tmp 94), type := 0, pos := _, after := #[{ on := 0, ground := Go.Ground.data }, { on := 0, ground := Go.Ground.phase }, { on := 1, ground := Go.Ground.phase }, { on := 2, ground := Go.Ground.phase }, { on := 3, ground := Go.Ground.phase }, { on := 4, ground := Go.Ground.phase }, { on := 5, ground := Go.Ground.phase }, { on := 6, ground := Go.Ground.phase }, { on := 7, ground := Go.Ground.phase }, { on := 8, ground := Go.Ground.phase }, { on := 9, ground := Go.Ground.phase }], guard := none }) rfl (fun K hK => ?_) AllReadyZ.nil
          go_simp
          refine hK.out _ _ ?_ (fun hH6 => ?_)
          · exact hH5
          clear hK K hH5
          have hH5 := hH6
          clear hH6
          (try simp only [Act.put, List.setIfInBounds_toArray, List.set_cons_zero, List.set_cons_succ])
          refine wpAnyZ_ready (rs := [11]) (by kernel_rfl) (by simp) ?_
          refine AllReadyZ.cons (o := { dst := some 105, op := Go.Op.fieldAddr 32 (Go.Operand.tmp 104) 1, type := 0, pos := _, after := #[{ on := 10, ground := Go.Ground.data }, { on := 0, ground := Go.Ground.phase }, { on := 1, ground := Go.Ground.phase }, { on := 2, ground := Go.Ground.phase }, { on := 3, ground := Go.Ground.phase }, { on := 4, ground := Go.Ground.phase }, { on := 5, ground := Go.Ground.phase }, { on := 6, ground := Go.Ground.phase }, { on := 7, ground := Go.Ground.phase }, { on := 8, ground := Go.Ground.phase }, { on := 9, ground := Go.Ground.phase }], guard := none }) rfl (fun K hK => ?_) AllReadyZ.nil
          go_simp
          refine hK.out _ _ ?_ (fun hH6 => ?_)
          · exact hH5
          clear hK K hH5
          have hH5 := hH6
          clear hH6
          (try simp only [Act.put, List.setIfInBounds_toArray, List.set_cons_zero, List.set_cons_succ])
          refine wpAnyZ_ready (rs := [12]) (by kernel_rfl) (by simp) ?_
          refine AllReadyZ.last (o := { dst := none, op := Go.Op.store 2 (Go.Operand.tmp 105) (Go.Operand.tmp 103), type := 0, pos := _, after := #[{ on := 11, ground := Go.Ground.data }, { on := 9, ground := Go.Ground.data }, { on := 7, ground := Go.Ground.chain }, { on := 0, ground := Go.Ground.phase }, { on := 1, ground := Go.Ground.phase }, { on := 2, ground := Go.Ground.phase }, { on := 3, ground := Go.Ground.phase }, { on := 4, ground := Go.Ground.phase }, { on := 5, ground := Go.Ground.phase }, { on := 6, ground := Go.Ground.phase }, { on := 7, ground := Go.Ground.phase }, { on := 8, ground := Go.Ground.phase }, { on := 9, ground := Go.Ground.phase }], guard := none }) rfl (fun K hK => ?_)
          have Kt := hide (hH5.put hBw hgl (own_put1 u9 (unhide hz) hH5.ow) (sz_set hH5.sz (hH5.sz z9 (List.mem_of_getElem? (unhide hz)))))
          obtain ⟨d0, d1, d2⟩ := own_cells (unhide hz) hH5.ow
          have f0 := hH5.ow.frozenAt (i * 3)
          have f1 := hH5.ow.frozenAt (i * 3 + 1)
          have f2 := hH5.ow.frozenAt (i * 3 + 2)
          go_simp
          refine hK.out _ _ ?_
          clear hK K
          (try simp only [Act.put, List.setIfInBounds_toArray, List.set_cons_zero, List.set_cons_succ])
          refine wpAnyZ_done (by kernel_rfl) ?_ _
          refine NoPanic.normal ?_
          go_wp2_with fail
          go_meet
          exact ⟨gl, m, c, _, rfl, by omega, Kt⟩

    have g0 : decide ((0 : Int) < k) = true := by simp; omega
    have g1 : decide (0 < k) = true := by simp; omega
    go_wp2_with fail
    refine (below_any B g a len cap 2500 _ hB hl (unhide K).ds.cur (unhide K).ds.rd (by omega)).mono ?_
    rintro e w4 ⟨x, rfl, x0, x1, k1, g1'⟩
    have K4 := hide ((unhide K).step hB hgl k1 g1')
    clear k1 g1' K
    obtain ⟨T2, hT2⟩ : ∃ T2 : Int, T + 1 + x = T2 := ⟨_, rfl⟩
    have hT2b : 0 ≤ T2 ∧ T2 ≤ 359993500 + 2700 * m := by omega
    have hw2 : IntKind.i64.wrap (T + 1 + x) = T2 := by rw [hT2, IntKind.wrap_i64]; omega
    have X4 := hide (show XS w B g a len cap (w4.alloc (.cells #[.int .i64 T, .int .i64 T2, .string ⟨#[]⟩] 32)) gl m c L w4.heap.size T T2 ⟨#[]⟩ from ⟨(unhide K4).later hB ((Below.refl _ _).alloc (Nat.le_refl _) _), alloc_new w4 _, (unhide K4).size, by have := own_lt (unhide K4).ow; omega⟩)
    clear K4
    go_wp2_with fail
    generalize w4.alloc (.cells #[.int .i64 T, .int .i64 T2, .string ⟨#[]⟩] 32) = wY at *
    generalize w4.heap.size = q at *
    clear hw2 hT2
    refine (below_any B g a len cap 5 _ hB hl (unhide X4).ks.ds.cur (unhide X4).ks.ds.rd (by omega)).mono ?_
    rintro e w5 ⟨y, rfl, y0, y1, k1, g1'⟩
    have X5 := hide ((unhide X4).step hB hgl k1 g1')
    clear k1 g1' X4
    obtain ⟨y2, rfl⟩ := Int.eq_ofNat_of_zero_le y0
    have hy2 : y2 + 1 ≤ 5 := by omega
    have hw3 : (1 : Int) + (y2 : Int) = ((y2 + 1 : Nat) : Int) := by omega
    obtain ⟨j0, hj0⟩ : ∃ j0, y2 + 1 = j0 := ⟨_, rfl⟩
    rw [hj0] at hw3 hy2
    clear hj0 y0 y1
    go_wp2
    go_loopw [7] (fun u wr => ∃ (j : Nat) (s : ByteArray), j ≤ 5 ∧ u = .int .i64 j ∧ Hid (s.size + 5 * j ≤ 25) ∧ Hid (XS w B g a len cap wr gl m c L q T T2 s)) (fun u _ => (intOf u).toNat)
    case atStart => exact ⟨j0, ⟨#[]⟩, by omega, by first | rfl | (rw [hw3]), hide (by have : (⟨#[]⟩ : ByteArray).size = 0 := rfl; omega), X5⟩
    case round =>
      clear X5
      obtain ⟨j, s, hj5, rfl, hsz, X⟩ := hrel
      have hq0 := (unhide X).ge
      have hgE : g < wr.heap.size := Nat.lt_of_lt_of_le hgl (unhide X).ks.size
      by_cases hj : 0 < j
      · have g2 : decide ((0 : Int) < j) = true := by simp; omega
        have g3 : decide (0 < j) = true := by simp; omega
        have hcat : Hid (∀ v : ByteArray, v.size ≤ 5 → (s ++ v).size + 5 * (j - 1) ≤ 25) := hide (fun v hv => by have h5 := unhide hsz; rw [ByteArray.size_append]; omega)
        go_upto_region 12 with fail
        refine wp_region_noPanic ?_
        refine wp_region_z (S := (fun w' => XS w B g a len cap w' gl m c L q T T2 s)) 9 (by kernel_rfl) ?_ (fun hH0 => ?_)
        · exact (unhide X).drew
        refine wpAnyZ_take (i := 0) (oi := { dst := some 35, op := Go.Op.fieldAddr 32 (Go.Operand.tmp 6) 2, type := 0, pos := _, after := #[], guard := none }) (v := ?_) rfl (by kernel_rfl) (by kernel_rfl) (by kernel_rfl) (fun _ _ _ h => h) (by kernel_rfl) (Or.inl ⟨by rfl, ?_⟩) hH0 ?_
        rotate_left
        · (intro w hSw; have hSc := hSw.cells.2.2; go_simp <;> with_reducible rfl)
        (try simp only [Act.put, List.setIfInBounds_toArray, List.set_cons_zero, List.set_cons_succ])
        refine wpAnyZ_take (i := 1) (oi := { dst := some 36, op := Go.Op.load 9 (Go.Operand.tmp 35), type := 9, pos := _, after := #[{ on := 0, ground := Go.Ground.data }], guard := none }) (v := ?_) rfl (by kernel_rfl) (by kernel_rfl) (by kernel_rfl) (fun _ _ _ h => h) (by kernel_rfl) (Or.inl ⟨by rfl, ?_⟩) hH0 ?_
        rotate_left
        · (intro w hSw; have hSc := hSw.cells.2.2; go_simp <;> with_reducible rfl)
        (try simp only [Act.put, List.setIfInBounds_toArray, List.set_cons_zero, List.set_cons_succ])
        refine wpAnyZ_take (i := 3) (oi := { dst := some 38, op := Go.Op.move (Go.Operand.tmp 0), type := 58, pos := _, after := #[], guard := none }) (v := ?_) rfl (by kernel_rfl) (by kernel_rfl) (by kernel_rfl) (fun _ _ _ h => h) (by kernel_rfl) (Or.inl ⟨by rfl, ?_⟩) hH0 ?_
        rotate_left
        · (intro w hSw; have hSc := hSw.cells.2.2; go_simp <;> with_reducible rfl)
        (try simp only [Act.put, List.setIfInBounds_toArray, List.set_cons_zero, List.set_cons_succ])
        refine wpAnyZ_ready (rs := [2, 4]) (by kernel_rfl) (by simp) ?_
        refine AllReadyZ.cons (o := { dst := some 37, op := Go.Op.buildSlice 93 8 #[(0, Go.Operand.const (Go.Value.string { data := #[87, 97, 115, 63] })), (1, Go.Operand.const (Go.Value.string { data := #[101, 105, 110, 32] })), (2, Go.Operand.const (Go.Value.string { data := #[87, 111, 114, 116] })), (3, Go.Operand.const (Go.Value.string { data := #[195, 169, 116, 195, 169] })), (4, Go.Operand.const (Go.Value.string { data := #[49, 10, 50] })), (5, Go.Operand.const (Go.Value.string { data := #[45, 45, 62] })), (6, Go.Operand.const (Go.Value.string { data := #[120, 10, 121] })), (7, Go.Operand.const (Go.Value.string { data := #[255] }))], type := 93, pos := _, after := #[], guard := none }) rfl (fun K hK => ?_) ?_
        · go_simp
          have hlit := hide (fun q hq => lit_at8s (w := wr.drew) (T := 9) (a0 := ⟨#[87, 97, 115, 63]⟩) (a1 := ⟨#[101, 105, 110, 32]⟩) (a2 := ⟨#[87, 111, 114, 116]⟩) (a3 := ⟨#[195, 169, 116, 195, 169]⟩) (a4 := ⟨#[49, 10, 50]⟩) (a5 := ⟨#[45, 45, 62]⟩) (a6 := ⟨#[120, 10, 121]⟩) (a7 := ⟨#[255]⟩) (by decide) q hq)
          have hEg : wr.drew.heap.size ≠ g := by have := hgE; simp at this ⊢; omega
          refine hK.out _ _ ?_ (fun hH1 => ?_)
          · exact hH0.later hB ((Below.refl _ _).alloc (Nat.le_refl _) _)
          clear hK K
          (try simp only [Act.put, List.setIfInBounds_toArray, List.set_cons_zero, List.set_cons_succ])
          refine wpAnyZ_ready (rs := [4]) (by kernel_rfl) (by simp) ?_
          refine AllReadyZ.cons (o := { dst := some 39, op := Go.Op.call { callee := Go.Callee.value (Go.Operand.func 31), args := #[Go.Operand.tmp 38, Go.Operand.const (Go.Value.int Go.IntKind.i64 8)], argTypes := #[58, 2] }, type := 2, pos := _, after := #[{ on := 3, ground := Go.Ground.data }], guard := none }) rfl (fun K hK => ?_) AllReadyZ.nil
          go_simp
          go_at_call 31
          refine (below_X hB hgl hl (by omega) _ hH1).mono ?_
          rintro e wc ⟨x, rfl, x9, hS9, gg⟩
          go_wp2_with fail
          refine hK.out _ _ ?_ (fun hHc => ?_)
          · exact hS9
          clear hK K
          (try simp only [Act.put, List.setIfInBounds_toArray, List.set_cons_zero, List.set_cons_succ])
          obtain ⟨n9, rfl⟩ := Int.eq_ofNat_of_zero_le x9.1
          obtain ⟨u9, hu5, hv⟩ := unhide hlit n9 (by omega)
          have hv1 : wc.cell? ⟨wr.heap.size, n9, none⟩ = some (.string u9) := grown_cell gg hEg hv
          clear hv hlit gg hH1 hH0
          have hcs : ¬ 9223372036854775807 < s.size + u9.size := by have h5 := unhide hsz; omega
          refine wpAnyZ_take (i := 5) (oi := { dst := some 40, op := Go.Op.indexAddr 93 (Go.Operand.tmp 37) (Go.Operand.tmp 39), type := 0, pos := _, after := #[{ on := 2, ground := Go.Ground.data }, { on := 4, ground := Go.Ground.data }], guard := none }) (v := ?_) rfl (by kernel_rfl) (by kernel_rfl) (by kernel_rfl) (fun _ _ _ h => h) (by kernel_rfl) (Or.inl ⟨by rfl, ?_⟩) hHc ?_
          rotate_left
          · (intro w hSw; go_simp <;> with_reducible rfl)
          (try simp only [Act.put, List.setIfInBounds_toArray, List.set_cons_zero, List.set_cons_succ])
          refine wpAnyZ_ready (rs := [6]) (by kernel_rfl) (by simp) ?_
          refine AllReadyZ.cons (o := { dst := some 41, op := Go.Op.load 9 (Go.Operand.tmp 40), type := 9, pos := _, after := #[{ on := 5, ground := Go.Ground.data }], guard := none }) rfl (fun K hK => ?_) AllReadyZ.nil
          go_simp
          refine hK.out _ _ ?_ (fun hH5 => ?_)
          · exact hHc
          clear hK K
          (try simp only [Act.put, List.setIfInBounds_toArray, List.set_cons_zero, List.set_cons_succ])
          refine wpAnyZ_ready (rs := [7]) (by kernel_rfl) (by simp) ?_
          refine AllReadyZ.cons (o := { dst := some 42, op := Go.Op.binOp Go.BinOp.add 9 (Go.Operand.tmp 36) (Go.Operand.tmp 41) 9, type := 9, pos := _, after := #[{ on := 1, ground := Go.Ground.data }, { on := 6, ground := Go.Ground.data }], guard := none }) rfl (fun K hK => ?_) AllReadyZ.nil
          go_simp
          refine hK.out _ _ ?_ (fun hH6 => ?_)
          · exact hH5
          clear hK K hH5
          have hH5 := hH6
          clear hH6
          (try simp only [Act.put, List.setIfInBounds_toArray, List.set_cons_zero, List.set_cons_succ])
          refine wpAnyZ_ready (rs := [8]) (by kernel_rfl) (by simp) ?_
          refine AllReadyZ.cons (o := { dst := some 43, op := Go.Op.fieldAddr 32 (Go.Operand.tmp 6) 2, type := 0, pos := _, after := #[{ on := 0, ground := Go.Ground.phase }, { on := 1, ground := Go.Ground.phase }, { on := 2, ground := Go.Ground.phase }, { on := 3, ground := Go.Ground.phase }, { on := 4, ground := Go.Ground.phase }, { on := 5, ground := Go.Ground.phase }, { on := 6, ground := Go.Ground.phase }, { on := 7, ground := Go.Ground.phase }], guard := none }) rfl (fun K hK => ?_) AllReadyZ.nil
          go_simp
          refine hK.out _ _ ?_ (fun hH6 => ?_)
          · exact hH5
          clear hK K hH5
          have hH5 := hH6
          clear hH6
          (try simp only [Act.put, List.setIfInBounds_toArray, List.set_cons_zero, List.set_cons_succ])
          refine wpAnyZ_ready (rs := [9]) (by kernel_rfl) (by simp) ?_
          refine AllReadyZ.last (o := { dst := none, op := Go.Op.store 9 (Go.Operand.tmp 43) (Go.Operand.tmp 42), type := 0, pos := _, after := #[{ on := 8, ground := Go.Ground.data }, { on := 7, ground := Go.Ground.data }, { on := 4, ground := Go.Ground.chain }, { on := 0, ground := Go.Ground.phase }, { on := 1, ground := Go.Ground.phase }, { on := 2, ground := Go.Ground.phase }, { on := 3, ground := Go.Ground.phase }, { on := 4, ground := Go.Ground.phase }, { on := 5, ground := Go.Ground.phase }, { on := 6, ground := Go.Ground.phase }, { on := 7, ground := Go.Ground.phase }], guard := none }) rfl (fun K hK => ?_)
          have X9 := hide (hH5.set2 hBw hgl (s ++ u9))
          have hsz9 := hide (unhide hcat u9 hu5)
          obtain ⟨d0, d1, d2⟩ := hH5.cells
          have f2 := hH5.froz 2
          go_simp
          refine hK.out _ _ ?_
          clear hK K
          (try simp only [Act.put, List.setIfInBounds_toArray, List.set_cons_zero, List.set_cons_succ])
          refine wpAnyZ_done (by kernel_rfl) ?_ _
          refine NoPanic.normal ?_
          go_wp2
          go_roundw
          case rel => exact ⟨j - 1, s ++ u9, by omega, by have : (j : Int) - 1 = ((j - 1 : Nat) : Int) := (by omega); first | (rw [this]) | go_num, hsz9, X9⟩
          case measure => simp [intOf]; omega
        refine AllReadyZ.cons (o := { dst := some 39, op := Go.Op.call { callee := Go.Callee.value (Go.Operand.func 31), args := #[Go.Operand.tmp 38, Go.Operand.const (Go.Value.int Go.IntKind.i64 8)], argTypes := #[58, 2] }, type := 2, pos := _, after := #[{ on := 3, ground := Go.Ground.data }], guard := none }) rfl (fun K hK => ?_) AllReadyZ.nil
        · go_simp
          go_at_call 31
          refine (below_X hB hgl hl (by omega) _ hH0).mono ?_
          rintro e wc ⟨x, rfl, x9, hS9, gg⟩
          go_wp2_with fail
          refine hK.out _ _ ?_ (fun hHc => ?_)
          · exact hS9
          clear hK K
          (try simp only [Act.put, List.setIfInBounds_toArray, List.set_cons_zero, List.set_cons_succ])
          refine wpAnyZ_ready (rs := [2]) (by kernel_rfl) (by simp) ?_
          refine AllReadyZ.cons (o := { dst := some 37, op := Go.Op.buildSlice 93 8 #[(0, Go.Operand.const (Go.Value.string { data := #[87, 97, 115, 63] })), (1, Go.Operand.const (Go.Value.string { data := #[101, 105, 110, 32] })), (2, Go.Operand.const (Go.Value.string { data := #[87, 111, 114, 116] })), (3, Go.Operand.const (Go.Value.string { data := #[195, 169, 116, 195, 169] })), (4, Go.Operand.const (Go.Value.string { data := #[49, 10, 50] })), (5, Go.Operand.const (Go.Value.string { data := #[45, 45, 62] })), (6, Go.Operand.const (Go.Value.string { data := #[120, 10, 121] })), (7, Go.Operand.const (Go.Value.string { data := #[255] }))], type := 93, pos := _, after := #[], guard := none }) rfl (fun K hK => ?_) AllReadyZ.nil
          go_simp
          have hlit := hide (fun q hq => lit_at8s (w := wc) (T := 9) (a0 := ⟨#[87, 97, 115, 63]⟩) (a1 := ⟨#[101, 105, 110, 32]⟩) (a2 := ⟨#[87, 111, 114, 116]⟩) (a3 := ⟨#[195, 169, 116, 195, 169]⟩) (a4 := ⟨#[49, 10, 50]⟩) (a5 := ⟨#[45, 45, 62]⟩) (a6 := ⟨#[120, 10, 121]⟩) (a7 := ⟨#[255]⟩) (by decide) q hq)
          refine hK.out _ _ ?_ (fun hH1 => ?_)
          · exact hHc.later hB ((Below.refl _ _).alloc (Nat.le_refl _) _)
          clear hK K
          (try simp only [Act.put, List.setIfInBounds_toArray, List.set_cons_zero, List.set_cons_succ])
          obtain ⟨n9, rfl⟩ := Int.eq_ofNat_of_zero_le x9.1
          obtain ⟨u9, hu5, hv⟩ := unhide hlit n9 (by omega)
          have hv1 := hv
          clear hv hlit gg hHc hH0
          have hcs : ¬ 9223372036854775807 < s.size + u9.size := by have h5 := unhide hsz; omega
          refine wpAnyZ_take (i := 5) (oi := { dst := some 40, op := Go.Op.indexAddr 93 (Go.Operand.tmp 37) (Go.Operand.tmp 39), type := 0, pos := _, after := #[{ on := 2, ground := Go.Ground.data }, { on := 4, ground := Go.Ground.data }], guard := none }) (v := ?_) rfl (by kernel_rfl) (by kernel_rfl) (by kernel_rfl) (fun _ _ _ h => h) (by kernel_rfl) (Or.inl ⟨by rfl, ?_⟩) hH1 ?_
          rotate_left
          · (intro w hSw; go_simp <;> with_reducible rfl)
          (try simp only [Act.put, List.setIfInBounds_toArray, List.set_cons_zero, List.set_cons_succ])
          refine wpAnyZ_ready (rs := [6]) (by kernel_rfl) (by simp) ?_
          refine AllReadyZ.cons (o := { dst := some 41, op := Go.Op.load 9 (Go.Operand.tmp 40), type := 9, pos := _, after := #[{ on := 5, ground := Go.Ground.data }], guard := none }) rfl (fun K hK => ?_) AllReadyZ.nil
          go_simp
          refine hK.out _ _ ?_ (fun hH5 => ?_)
          · exact hH1
          clear hK K
          (try simp only [Act.put, List.setIfInBounds_toArray, List.set_cons_zero, List.set_cons_succ])
          refine wpAnyZ_ready (rs := [7]) (by kernel_rfl) (by simp) ?_
          refine AllReadyZ.cons (o := { dst := some 42, op := Go.Op.binOp Go.BinOp.add 9 (Go.Operand.tmp 36) (Go.Operand.tmp 41) 9, type := 9, pos := _, after := #[{ on := 1, ground := Go.Ground.data }, { on := 6, ground := Go.Ground.data }], guard := none }) rfl (fun K hK => ?_) AllReadyZ.nil
          go_simp
          refine hK.out _ _ ?_ (fun hH6 => ?_)
          · exact hH5
          clear hK K hH5
          have hH5 := hH6
          clear hH6
          (try simp only [Act.put, List.setIfInBounds_toArray, List.set_cons_zero, List.set_cons_succ])
          refine wpAnyZ_ready (rs := [8]) (by kernel_rfl) (by simp) ?_
          refine AllReadyZ.cons (o := { dst := some 43, op := Go.Op.fieldAddr 32 (Go.Operand.tmp 6) 2, type := 0, pos := _, after := #[{ on := 0, ground := Go.Ground.phase }, { on := 1, ground := Go.Ground.phase }, { on := 2, ground := Go.Ground.phase }, { on := 3, ground := Go.Ground.phase }, { on := 4, ground := Go.Ground.phase }, { on := 5, ground := Go.Ground.phase }, { on := 6, ground := Go.Ground.phase }, { on := 7, ground := Go.Ground.phase }], guard := none }) rfl (fun K hK => ?_) AllReadyZ.nil
          go_simp
          refine hK.out _ _ ?_ (fun hH6 => ?_)
          · exact hH5
          clear hK K hH5
          have hH5 := hH6
          clear hH6
          (try simp only [Act.put, List.setIfInBounds_toArray, List.set_cons_zero, List.set_cons_succ])
          refine wpAnyZ_ready (rs := [9]) (by kernel_rfl) (by simp) ?_
          refine AllReadyZ.last (o := { dst := none, op := Go.Op.store 9 (Go.Operand.tmp 43) (Go.Operand.tmp 42), type := 0, pos := _, after := #[{ on := 8, ground := Go.Ground.data }, { on := 7, ground := Go.Ground.data }, { on := 4, ground := Go.Ground.chain }, { on := 0, ground := Go.Ground.phase }, { on := 1, ground := Go.Ground.phase }, { on := 2, ground := Go.Ground.phase }, { on := 3, ground := Go.Ground.phase }, { on := 4, ground := Go.Ground.phase }, { on := 5, ground := Go.Ground.phase }, { on := 6, ground := Go.Ground.phase }, { on := 7, ground := Go.Ground.phase }], guard := none }) rfl (fun K hK => ?_)
          have X9 := hide (hH5.set2 hBw hgl (s ++ u9))
          have hsz9 := hide (unhide hcat u9 hu5)
          obtain ⟨d0, d1, d2⟩ := hH5.cells
          have f2 := hH5.froz 2
          go_simp
          refine hK.out _ _ ?_
          clear hK K
          (try simp only [Act.put, List.setIfInBounds_toArray, List.set_cons_zero, List.set_cons_succ])
          refine wpAnyZ_done (by kernel_rfl) ?_ _
          refine NoPanic.normal ?_
          go_wp2
          go_roundw
          case rel => exact ⟨j - 1, s ++ u9, by omega, by have : (j : Int) - 1 = ((j - 1 : Nat) : Int) := (by omega); first | (rw [this]) | go_num, hsz9, X9⟩
          case measure => simp [intOf]; omega
      · have hje : j = 0 := by omega
        subst hje
        obtain ⟨d0, d1, d2⟩ := (unhide X).cells
        have hs25 : Hid (s.size ≤ 25) := hide (by have h5 := unhide hsz; omega)
        have hlt9 := (unhide X).lt
        clear hsz
        go_wp2_with (with_reducible refine wpList_kG wr rfl _ _ rfl w.heap.size gl m c L T T2 s rfl (unhide X).ks.ow rfl (by omega) (unhide X).ks.size ?_)
        intro g' c' w' o' b' q1 q2
        have X6 := hide (show XS w B g a len cap w' g' (m + 1) c' (L ++ [(T, T2, s)]) q T T2 s from ⟨(unhide X).ks.app hBw hgl o' b' (unhide hs25), (b'.block q hlt9 (by intro e; injection e with e; exact (unhide X).ne e)).trans (unhide X).qb, (unhide X).ge, by rcases q2 with e | e; (rw [e]; exact (unhide X).ne); omega⟩)
        clear o' b' q1 q2 X d0 d1 d2
        go_upto_region 14 with fail
        have hcon := hide (fun w1 (h : w1.cell? ⟨q, 1, none⟩ = some (.int .i64 T2) ∧ XS w B g a len cap w1 g' (m + 1) c' (L ++ [(T, T2, s)]) q T T2 s) => below_X (m := 200) hB hgl hl (by omega) w1 h.2)
        have hall := hide (show w'.drew.cell? ⟨q, 1, none⟩ = some (.int .i64 T2) ∧ XS w B g a len cap w'.drew g' (m + 1) c' (L ++ [(T, T2, s)]) q T T2 s from ⟨(unhide X6).drew.cells.2.1, (unhide X6).drew⟩)
        clear X6
        go_region_held3 (fun w1 => w1.cell? ⟨q, 1, none⟩ = some (.int .i64 T2) ∧ XS w B g a len cap w1 g' (m + 1) c' (L ++ [(T, T2, s)]) q T T2 s)
          (first | assumption | exact (unhide hall))
          ((go_at_call 31; refine (unhide hcon _ (by assumption)).mono ?_; rintro e w7 ⟨x7, rfl, ⟨x7a, x7b⟩, hX7, _⟩; have hS7 : w7.cell? ⟨q, 1, none⟩ = some (.int .i64 T2) ∧ XS w B g a len cap w7 g' (m + 1) c' (L ++ [(T, T2, s)]) q T T2 s := ⟨hX7.cells.2.1, hX7⟩))
        rename_i hH
        have X8 := hide hH.2
        clear hH hcon hall
        have hw8 : IntKind.i64.wrap (T2 + x7) = T2 + x7 := by rw [IntKind.wrap_i64]; omega
        go_wp2
        go_roundw
        case rel => exact ⟨k - 1, m + 1, g', c', T2 + x7, _, by omega, by go_num, by first | rfl | (rw [hw8]), by have : (k : Int) - 1 = ((k - 1 : Nat) : Int) := (by omega); first | (rw [this]) | (simp only [this]) | go_num, by omega, by omega, hide (unhide X8).ks⟩
        case measure => simp [intOf]; omega

end Go.Proofs.YtcpllfjhhlbmiaaDoor
