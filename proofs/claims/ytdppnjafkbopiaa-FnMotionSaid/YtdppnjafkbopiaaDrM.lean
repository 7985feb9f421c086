/-
  Contract of the model's draw of two pictures and a block's number; new memory, nothing that was there is written.
-/
import Derived.Test.YtdppnjafkbopiaaDrW
namespace Go.Proofs.Ytdppnjafkbopiaa
open Go.RowKit
set_option linter.unusedVariables false
set_option linter.unusedSimpArgs false
theorem Ins.kept {w w1 : World} {A : Option Addr} {L : List Int} {g : Nat} (h : Ins w A L) (hg : w.grownBy w1 (some g)) (hne : ∀ b o, A = some ⟨b, o, none⟩ → b ≠ g) : Ins w1 A L := by
  intro j x hx
  obtain ⟨b, o, e, h1, h2⟩ := h j x hx
  exact ⟨b, o, e, Nat.lt_of_lt_of_le h1 hg.size, grown_cell hg (hne b o e) h2⟩
/-- two pictures, told by their boxes and lists -/
structure Mz (w : World) (g : Nat) (a : Option Addr) (len cap k6 k7 : Nat) (x6 y6 x7 y7 : Int) (A6 A7 : Option Addr) (n6 n7 c6 c7 : Nat) (L6 L7 : List Int) (wr : World) : Prop where
  cur : CurAt wr g a len cap
  rd : RdB wr w.heap.size a len
  bel : Below w.heap.size w wr
  r2 : P3 wr w.heap.size 26 0 0 (.slice none 0 0)
  r3 : P3 wr (w.heap.size + 1) 26 0 0 (.slice none 0 0)
  p6 : P3 wr k6 26 x6 y6 (.slice A6 n6 c6)
  p7 : P3 wr k7 26 x7 y7 (.slice A7 n7 c7)
  i6 : Ins wr A6 L6
  i7 : Ins wr A7 L7
theorem Mz.call {w wr w1 : World} {g len cap k6 k7 n6 n7 c6 c7 : Nat} {a A6 A7 : Option Addr} {x6 y6 x7 y7 : Int} {L6 L7 : List Int} (h : Mz w g a len cap k6 k7 x6 y6 x7 y7 A6 A7 n6 n7 c6 c7 L6 L7 wr) (hg : w.heap.size + 1 < g) (h6 : k6 ≠ g) (h7 : k7 ≠ g) (n6' : ∀ b o, A6 = some ⟨b, o, none⟩ → b ≠ g) (n7' : ∀ b o, A7 = some ⟨b, o, none⟩ → b ≠ g) (hc : CurAt w1 g a len cap) (hgr : wr.grownBy w1 (some g)) : Mz w g a len cap k6 k7 x6 y6 x7 y7 A6 A7 n6 n7 c6 c7 L6 L7 w1 :=
  ⟨hc, h.rd.grown hgr (by omega), below_grown h.bel hgr (by omega), h.r2.kept hgr (by omega), h.r3.kept hgr (by omega), h.p6.kept hgr h6, h.p7.kept hgr h7, h.i6.kept hgr n6', h.i7.kept hgr n7'⟩
theorem RdB.belowB {w w1 : World} {N B : Nat} {a : Option Addr} {len : Nat} (h : RdB w B a len) (hb : Below N w w1) (hB : B ≤ N) : RdB w1 B a len := by
  intro j hj
  obtain ⟨b, o, z, e, h1, h2, h3⟩ := h j hj
  exact ⟨b, o, z, e, h1, (hb.cell (p := ⟨b, o + j, none⟩) (by show b < N; omega)).trans h2, h3⟩
theorem Mz.later {w wr w1 : World} {g len cap k6 k7 n6 n7 c6 c7 : Nat} {a A6 A7 : Option Addr} {x6 y6 x7 y7 : Int} {L6 L7 : List Int} (h : Mz w g a len cap k6 k7 x6 y6 x7 y7 A6 A7 n6 n7 c6 c7 L6 L7 wr) (hb : Below wr.heap.size wr w1) : Mz w g a len cap k6 k7 x6 y6 x7 y7 A6 A7 n6 n7 c6 c7 L6 L7 w1 :=
  ⟨h.cur.below hb, h.rd.belowB hb h.bel.size, laterB h.bel hb, h.r2.later hb, h.r3.later hb, h.p6.later hb, h.p7.later hb, h.i6.below hb, h.i7.below hb⟩
def MvR (w : World) (e : Ending) (w' : World) : Prop := ∃ (x6 y6 x7 y7 n : Int) (A6 A7 : Option Addr) (n6 n7 c6 c7 : Nat) (L6 L7 : List Int), e = .returned (.tuple #[pcv x6 y6 A6 n6 c6, pcv x7 y7 A7 n7 c7, .int .i64 n]) ∧ L6.length = n6 ∧ L7.length = n7 ∧ n6 ≤ 1000 ∧ n7 ≤ 1000 ∧ Ins w' A6 L6 ∧ Ins w' A7 L7 ∧ Below w.heap.size w w'
theorem Ins.drew {w : World} {A : Option Addr} {L : List Int} (h : Ins w A L) : Ins w.drew A L := fun j x hx => h j x hx
/-- the answer is laid down -/
theorem Mz.fin {w wr : World} {g len cap k6 k7 n6 n7 c6 c7 : Nat} {a A6 A7 : Option Addr} {x6 y6 x7 y7 : Int} {L6 L7 : List Int} (h : Mz w g a len cap k6 k7 x6 y6 x7 y7 A6 A7 n6 n7 c6 c7 L6 L7 wr) (h6 : ∀ b o, A6 = some ⟨b, o, none⟩ → w.heap.size + 2 ≤ b) (h7 : ∀ b o, A7 = some ⟨b, o, none⟩ → w.heap.size + 2 ≤ b) (u0 u1 u2 v0 v1 v2 : Value) :
    Ins ((((((wr.setCell ⟨w.heap.size, 0, none⟩ u0).setCell ⟨w.heap.size, 1, none⟩ u1).setCell ⟨w.heap.size, 2, none⟩ u2).setCell ⟨w.heap.size + 1, 0, none⟩ v0).setCell ⟨w.heap.size + 1, 1, none⟩ v1).setCell ⟨w.heap.size + 1, 2, none⟩ v2).drew A6 L6 ∧ Ins ((((((wr.setCell ⟨w.heap.size, 0, none⟩ u0).setCell ⟨w.heap.size, 1, none⟩ u1).setCell ⟨w.heap.size, 2, none⟩ u2).setCell ⟨w.heap.size + 1, 0, none⟩ v0).setCell ⟨w.heap.size + 1, 1, none⟩ v1).setCell ⟨w.heap.size + 1, 2, none⟩ v2).drew A7 L7 ∧ Below w.heap.size w ((((((wr.setCell ⟨w.heap.size, 0, none⟩ u0).setCell ⟨w.heap.size, 1, none⟩ u1).setCell ⟨w.heap.size, 2, none⟩ u2).setCell ⟨w.heap.size + 1, 0, none⟩ v0).setCell ⟨w.heap.size + 1, 1, none⟩ v1).setCell ⟨w.heap.size + 1, 2, none⟩ v2).drew := by
  have q0 : ∀ b o, A6 = some ⟨b, o, none⟩ → b ≠ w.heap.size := fun b o e => by have := h6 b o e; omega
  have q1 : ∀ b o, A6 = some ⟨b, o, none⟩ → b ≠ w.heap.size + 1 := fun b o e => by have := h6 b o e; omega
  have s0 : ∀ b o, A7 = some ⟨b, o, none⟩ → b ≠ w.heap.size := fun b o e => by have := h7 b o e; omega
  have s1 : ∀ b o, A7 = some ⟨b, o, none⟩ → b ≠ w.heap.size + 1 := fun b o e => by have := h7 b o e; omega
  have l0 : w.heap.size ≤ w.heap.size := Nat.le_refl _
  have l1 : w.heap.size ≤ w.heap.size + 1 := by omega
  exact ⟨((((((h.i6.set q0).set q0).set q0).set q1).set q1).set q1).drew, ((((((h.i7.set s0).set s0).set s0).set s1).set s1).set s1).drew, ((((((h.bel.setCell l0 _).setCell l0 _).setCell l0 _).setCell l1 _).setCell l1 _).setCell l1 _).drew⟩

set_option maxRecDepth 100000 in
set_option maxHeartbeats 3200000 in
theorem dmo_any {w : World} (a : Option Addr) (len cap : Nat) (hl4 : len ≤ 4096) (hr : RdB w w.heap.size a len) : Calls Try.prog 5 #[.slice a len cap] w (MvR w) := by
  have hl : len ≤ 9223372036854775807 := by omega
  have a1 : Below w.heap.size w (w.alloc (.cells #[.int .i64 0, .int .i64 0, .slice none 0 0] 26)) := (Below.refl _ _).alloc (Nat.le_refl _) _
  have r1 := P3.new w 26 0 0 (.slice none 0 0)
  have z1 := Deep.nblk_alloc w (.cells #[.int .i64 0, .int .i64 0, .slice none 0 0] 26)
  have hr' := hide hr
  clear hr
  go_enter Try.func5, Try.ntmps5
  go_wp2_with fail
  generalize w.alloc (.cells #[.int .i64 0, .int .i64 0, .slice none 0 0] 26) = w1 at *
  have a2 : Below w1.heap.size w1 (w1.alloc (.cells #[.int .i64 0, .int .i64 0, .slice none 0 0] 26)) := (Below.refl _ _).alloc (Nat.le_refl _) _
  have r2 := P3.new w1 26 0 0 (.slice none 0 0)
  rw [z1] at r2
  have z2 := Deep.nblk_alloc w1 (.cells #[.int .i64 0, .int .i64 0, .slice none 0 0] 26)
  rw [z1] at z2
  have S0 : Hid (Below w.heap.size w (w1.alloc (.cells #[.int .i64 0, .int .i64 0, .slice none 0 0] 26)) ∧ P3 (w1.alloc (.cells #[.int .i64 0, .int .i64 0, .slice none 0 0] 26)) w.heap.size 26 0 0 (.slice none 0 0) ∧ P3 (w1.alloc (.cells #[.int .i64 0, .int .i64 0, .slice none 0 0] 26)) (w.heap.size + 1) 26 0 0 (.slice none 0 0)) := hide ⟨laterB a1 a2, r1.later a2, r2⟩
  generalize w1.alloc (.cells #[.int .i64 0, .int .i64 0, .slice none 0 0] 26) = w2 at *
  clear a1 a2 r1 r2 z1 w1
  have R2 := hide ((unhide hr').belowB (unhide S0).1 (Nat.le_refl _))
  have R2' : Hid (RdB w2 w2.heap.size a len) := hide (fun j hj => by
    obtain ⟨b, o, z, e, h1, h2⟩ := unhide R2 j hj
    exact ⟨b, o, z, e, by omega, h2⟩)
  have z2' := hide z2
  clear z2
  refine (new_any a len cap _ hl (by omega) (unhide R2')).mono ?_
  rintro e w3 ⟨g, rfl, hg2, k3, b3⟩
  have z2 := unhide z2'
  have hgg : w.heap.size + 1 < g := by omega
  have hg3 := k3.lt
  have S1 := hide (⟨k3, (unhide R2).belowB b3 (by omega), laterB (unhide S0).1 b3, (unhide S0).2.1.later b3, (unhide S0).2.2.later b3⟩ : CurAt w3 g a len cap ∧ RdB w3 w.heap.size a len ∧ Below w.heap.size w w3 ∧ P3 w3 w.heap.size 26 0 0 (.slice none 0 0) ∧ P3 w3 (w.heap.size + 1) 26 0 0 (.slice none 0 0))
  clear k3 b3 S0 R2 R2' hr' z2 z2'
  have hw3 := (unhide S1).2.2.1.size
  go_wp2_with fail
  refine (dtw_any w.heap.size g a len cap _ (by omega) (by omega) hl (unhide S1).1 (unhide S1).2.1).mono ?_
  rintro e w4 ⟨x6, y6, x7, y7, A6, A7, n6, n7, c6, c7, L6, L7, rfl, hL6, hL7, hn6, hn7, f4⟩
  have b6 : Hid (∀ b o, A6 = some ⟨b, o, none⟩ → w.heap.size + 2 ≤ b) := hide (fun b o e => by have := (f4.a6 b o e).2.2; omega)
  have b7 : Hid (∀ b o, A7 = some ⟨b, o, none⟩ → w.heap.size + 2 ≤ b) := hide (fun b o e => by have := (f4.a7 b o e).2.2; omega)
  have g6 : Hid (∀ b o, A6 = some ⟨b, o, none⟩ → b ≠ g) := hide (fun b o e => by have := (f4.a6 b o e).2.2; omega)
  have g7 : Hid (∀ b o, A7 = some ⟨b, o, none⟩ → b ≠ g) := hide (fun b o e => by have := (f4.a7 b o e).2.2; omega)
  have S2 := hide (⟨f4.ds.cur, f4.ds.rd, below_grown (unhide S1).2.2.1 f4.ds.gr (by omega), (unhide S1).2.2.2.1.kept f4.ds.gr (by omega), (unhide S1).2.2.2.2.kept f4.ds.gr (by omega), f4.i6, f4.i7⟩ : CurAt w4 g a len cap ∧ RdB w4 w.heap.size a len ∧ Below w.heap.size w w4 ∧ P3 w4 w.heap.size 26 0 0 (.slice none 0 0) ∧ P3 w4 (w.heap.size + 1) 26 0 0 (.slice none 0 0) ∧ Ins w4 A6 L6 ∧ Ins w4 A7 L7)
  have hg4 := f4.ds.cur.lt
  clear f4 S1
  have q1 : Below w4.heap.size w4 (w4.alloc (.cells #[.int .i64 x6, .int .i64 y6, .slice A6 n6 c6] 26)) := (Below.refl _ _).alloc (Nat.le_refl _) _
  have q2 : Below w4.heap.size w4 ((w4.alloc (.cells #[.int .i64 x6, .int .i64 y6, .slice A6 n6 c6] 26)).alloc (.cells #[.int .i64 x7, .int .i64 y7, .slice A7 n7 c7] 26)) := q1.alloc (by simp) _
  have MM : Hid (Mz w g a len cap w4.heap.size (w4.heap.size + 1) x6 y6 x7 y7 A6 A7 n6 n7 c6 c7 L6 L7 ((w4.alloc (.cells #[.int .i64 x6, .int .i64 y6, .slice A6 n6 c6] 26)).alloc (.cells #[.int .i64 x7, .int .i64 y7, .slice A7 n7 c7] 26))) := hide ⟨(unhide S2).1.below q2, (unhide S2).2.1.belowB q2 (unhide S2).2.2.1.size, laterB (unhide S2).2.2.1 q2, (unhide S2).2.2.2.1.later q2, (unhide S2).2.2.2.2.1.later q2, (P3.new _ _ _ _ _).later ((Below.refl _ _).alloc (Nat.le_refl _) _), by
    have h := P3.new (w4.alloc (.cells #[.int .i64 x6, .int .i64 y6, .slice A6 n6 c6] 26)) 26 x7 y7 (.slice A7 n7 c7)
    rw [Deep.nblk_alloc] at h
    exact h, (unhide S2).2.2.2.2.2.1.below q2, (unhide S2).2.2.2.2.2.2.below q2⟩
  clear q1 q2 S2
  go_wp2_with fail
  generalize (w4.alloc (.cells #[.int .i64 x6, .int .i64 y6, .slice A6 n6 c6] 26)).alloc (.cells #[.int .i64 x7, .int .i64 y7, .slice A7 n7 c7] 26) = w5 at *
  generalize w4.heap.size = k6 at *
  clear w4
  have kg6 : k6 ≠ g := by omega
  have kg7 : k6 + 1 ≠ g := by omega
  refine (below_any w.heap.size g a len cap 9 _ (by omega) hl (unhide MM).cur (unhide MM).rd (by omega)).mono ?_
  rintro e w6 ⟨n, rfl, n0, n1, k3, g3⟩
  have M2 := hide ((unhide MM).call hgg kg6 kg7 (unhide g6) (unhide g7) k3 g3)
  clear MM k3 g3
  go_wp2_with fail
  refine (once_any w.heap.size g a len cap 16 _ (by omega) hl (unhide M2).cur (unhide M2).rd (by omega)).mono ?_
  rintro e w7 ⟨o, rfl, k3, g3⟩
  have MM := hide ((unhide M2).call hgg kg6 kg7 (unhide g6) (unhide g7) k3 g3)
  clear M2 k3 g3
  cases o
  · skip
    have FZ := hide ((unhide MM).fin (unhide b6) (unhide b7) (.int .i64 x6) (.int .i64 y6) (.slice A6 n6 c6) (.int .i64 x7) (.int .i64 y7) (.slice A7 n7 c7))
    obtain ⟨c0, c1, c2⟩ := (unhide MM).p6.cells
    obtain ⟨d0, d1, d2⟩ := (unhide MM).p7.cells
    obtain ⟨a0, a1, a2⟩ := (unhide MM).r2.cells
    have af0 := (unhide MM).r2.fz 0
    have af1 := (unhide MM).r2.fz 1
    have af2 := (unhide MM).r2.fz 2
    obtain ⟨b0, b1, b2⟩ := (unhide MM).r3.cells
    have bf0 := (unhide MM).r3.fz 0
    have bf1 := (unhide MM).r3.fz 1
    have bf2 := (unhide MM).r3.fz 2
    have hn23 : ¬ (w.heap.size = w.heap.size + 1) := by omega
    go_wp2_with fail
    go_region
    go_wp2
    exact bodyPost_ret (v := .tuple #[pcv x6 y6 A6 n6 c6, pcv x7 y7 A7 n7 c7, .int .i64 n]) (by simp [results, Try.results5, go_sem, a0, a1, a2, b0, b1, b2]) rfl ⟨x6, y6, x7, y7, n, A6, A7, n6, n7, c6, c7, L6, L7, rfl, hL6, hL7, hn6, hn7, (unhide FZ).1, (unhide FZ).2.1, (unhide FZ).2.2⟩
  have hgw : g < w7.heap.size := (unhide MM).cur.lt
  have M2 := hide ((unhide MM).later ((Below.refl _ _).alloc (Nat.le_refl _) (.cells #[.int .i64 (-1), .int .i64 16, .int .i64 4611686018427387904] 2)))
  clear MM
  go_wp2_with fail
  refine (below_any w.heap.size g a len cap 3 _ (by omega) hl (unhide M2).cur (unhide M2).rd (by omega)).mono ?_
  rintro e w8 ⟨y, rfl, y0, y1, k3, g3⟩
  obtain ⟨y, rfl⟩ : ∃ y' : Nat, y = y' := ⟨y.toNat, by omega⟩
  obtain ⟨v, hv⟩ := lit_at3 (w := w7) (T := 2) (a0 := -1) (a1 := 16) (a2 := 4611686018427387904) y (by omega)
  have hv6 := grown_cell g3 (by omega) hv
  have MM := hide ((unhide M2).call hgg kg6 kg7 (unhide g6) (unhide g7) k3 g3)
  clear M2 k3 g3 hv
  have FZ := hide ((unhide MM).fin (unhide b6) (unhide b7) (.int .i64 x6) (.int .i64 y6) (.slice A6 n6 c6) (.int .i64 x7) (.int .i64 y7) (.slice A7 n7 c7))
  obtain ⟨c0, c1, c2⟩ := (unhide MM).p6.cells
  obtain ⟨d0, d1, d2⟩ := (unhide MM).p7.cells
  obtain ⟨a0, a1, a2⟩ := (unhide MM).r2.cells
  have af0 := (unhide MM).r2.fz 0
  have af1 := (unhide MM).r2.fz 1
  have af2 := (unhide MM).r2.fz 2
  obtain ⟨b0, b1, b2⟩ := (unhide MM).r3.cells
  have bf0 := (unhide MM).r3.fz 0
  have bf1 := (unhide MM).r3.fz 1
  have bf2 := (unhide MM).r3.fz 2
  have hn23 : ¬ (w.heap.size = w.heap.size + 1) := by omega
  go_wp2_with fail
  go_region
  go_wp2
  exact bodyPost_ret (v := .tuple #[pcv x6 y6 A6 n6 c6, pcv x7 y7 A7 n7 c7, .int .i64 v]) (by simp [results, Try.results5, go_sem, a0, a1, a2, b0, b1, b2]) rfl ⟨x6, y6, x7, y7, v, A6, A7, n6, n7, c6, c7, L6, L7, rfl, hL6, hL7, hn6, hn7, (unhide FZ).1, (unhide FZ).2.1, (unhide FZ).2.2⟩

theorem dif_nn (f g : Nat → Int) (k : Nat) : 0 ≤ dif f g k := by
  induction k with
  | zero => exact Int.le_refl _
  | succ k ih => unfold dif; omega
theorem best_self {W H : Int} {l : List Int} {n p q : Int} (h : Best (mdif W H l l n) p q) : p = 0 ∧ q = 0 := by
  refine h.uniq ⟨inM0, fun c d hcd => ?_⟩
  have h0 : mdif W H l l n 0 0 = 0 := dif_self _ _
  have h1 : 0 ≤ mdif W H l l n c d := dif_nn _ _ _
  unfold InM at hcd
  have hl : len2 0 0 < len2 c d ∨ (c = 0 ∧ d = 0) := by
    have hc : c = -2 ∨ c = -1 ∨ c = 0 ∨ c = 1 ∨ c = 2 := by omega
    have hd : d = -2 ∨ d = -1 ∨ d = 0 ∨ d = 1 ∨ d = 2 := by omega
    unfold len2
    rcases hc with rfl | rfl | rfl | rfl | rfl <;> rcases hd with rfl | rfl | rfl | rfl | rfl <;> simp
  unfold NoW
  rcases hl with hl | ⟨rfl, rfl⟩
  · omega
  · exact NoW.refl _ _ _

end Go.Proofs.Ytdppnjafkbopiaa
