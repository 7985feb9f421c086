/-
  Contracts of the model's draws of one pixel, of bytes that came in: each answers; nothing that was there is written.
-/
import Derived.Test.YteabmbggljpmoaaDrX
import Derived.Test.YteabmbggljpmoaaDrM
namespace Go.Proofs.Yteabmbggljpmoaa
open Go.RowKit
set_option linter.unusedVariables false
set_option linter.unusedSimpArgs false

theorem RdB.up {w : World} {B B' : Nat} {a : Option Addr} {len : Nat} (h : RdB w B a len) (hB : B ≤ B') : RdB w B' a len := by
  intro j hj
  obtain ⟨b, o, z, e, h1, h2⟩ := h j hj
  exact ⟨b, o, z, e, by omega, h2⟩
/-- a pixel that was drawn -/
def PxR (W : World) (e : Ending) (w' : World) : Prop := ∃ x y z u, e = .returned (ag4 x y z u) ∧ Below W.heap.size W w'
set_option maxHeartbeats 3200000 in
theorem dok_any {W : World} (a : Option Addr) (len cap : Nat) (hl : len ≤ 4096) (hr : RdB W W.heap.size a len) : Calls Try.prog 52 #[.slice a len cap] W (PxR W) := by
  have hl9 : len ≤ 9223372036854775807 := by omega
  have hal : Below W.heap.size W (W.alloc (.cells #[.int .i64 0, .int .i64 0, .int .i64 0, .int .i64 0] 25)) := (Below.refl _ _).alloc (Nat.le_refl _) _
  have hr1 : Hid (RdB (W.alloc (.cells #[.int .i64 0, .int .i64 0, .int .i64 0, .int .i64 0] 25)) W.heap.size a len) := hide (hr.belowB hal (Nat.le_refl _))
  have hE0 := hide hal
  have hr2 : Hid (RdB (W.alloc (.cells #[.int .i64 0, .int .i64 0, .int .i64 0, .int .i64 0] 25)) (W.alloc (.cells #[.int .i64 0, .int .i64 0, .int .i64 0, .int .i64 0] 25)).heap.size a len) := hide ((unhide hr1).up (by simp))
  have hR0 : Hid (Bx (W.alloc (.cells #[.int .i64 0, .int .i64 0, .int .i64 0, .int .i64 0] 25)) W.heap.size 0 0 0 0) := hide (Bx.new _ _ _ _ _ _)
  clear hr hal
  go_enter Try.func52, Try.ntmps52
  go_wp2_with fail
  refine (new_any a len cap _ hl9 (by omega) (unhide hr2)).mono ?_
  rintro e w1 ⟨g, rfl, hg, hc, hb⟩
  have hg2 : W.heap.size < g := by simp at hg; omega
  have C1 := hide hc
  have R1 := hide ((unhide hR0).below hb)
  have D1 := hide ((unhide hr1).belowB hb (by simp))
  have E1 := hide ((unhide hE0).trans (hb.mono (by simp)))
  clear hc hb hr1 hr2 hR0 hE0 hg
  go_wp2_with fail
  refine (dpx_any W.heap.size g a len cap _ (by omega) (unhide E1).size hl9 (unhide C1) (unhide D1)).mono ?_
  rintro e w2 ⟨x, y, z, u, rfl, hD⟩
  obtain ⟨r0, r1, r2, r3, q0, q1, q2, q3⟩ := (unhide R1).grown hD.gr (by omega)
  have E2 := hide (below_grown (unhide E1) hD.gr (by omega))
  clear hD
  go_wp2
  exact bodyPost_ret (v := ag4 x y z u) (by simp [results, Try.results52, go_sem, r0, r1, r2, r3]) rfl ⟨x, y, z, u, rfl, set4_below (unhide E2) (Nat.le_refl _)⟩
set_option maxHeartbeats 3200000 in
theorem dpl_any {W : World} (a : Option Addr) (len cap : Nat) (hl : len ≤ 4096) (hr : RdB W W.heap.size a len) : Calls Try.prog 26 #[.slice a len cap] W (PxR W) := by
  have hal : Below W.heap.size W (W.alloc (.cells #[.int .i64 0, .int .i64 0, .int .i64 0, .int .i64 0] 25)) := (Below.refl _ _).alloc (Nat.le_refl _) _
  have hr2 : Hid (RdB (W.alloc (.cells #[.int .i64 0, .int .i64 0, .int .i64 0, .int .i64 0] 25)) (W.alloc (.cells #[.int .i64 0, .int .i64 0, .int .i64 0, .int .i64 0] 25)).heap.size a len) := hide ((hr.belowB hal (Nat.le_refl _)).up (by simp))
  have hE0 := hide hal
  have hR0 : Hid (Bx (W.alloc (.cells #[.int .i64 0, .int .i64 0, .int .i64 0, .int .i64 0] 25)) W.heap.size 0 0 0 0) := hide (Bx.new _ _ _ _ _ _)
  clear hr hal
  go_enter Try.func26, Try.ntmps26
  go_wp2_with fail
  refine (dok_any a len cap hl (unhide hr2)).mono ?_
  rintro e w2 ⟨x, y, z, u, rfl, hb⟩
  obtain ⟨r0, r1, r2, r3, q0, q1, q2, q3⟩ := (unhide hR0).below hb
  have E2 := hide ((unhide hE0).trans (hb.mono (by simp)))
  clear hb
  go_wp2
  exact bodyPost_ret (v := ag4 x y z u) (by simp [results, Try.results26, go_sem, r0, r1, r2, r3]) rfl ⟨x, y, z, u, rfl, set4_below (unhide E2) (Nat.le_refl _)⟩

set_option maxHeartbeats 3200000 in
theorem dpm_any {W : World} (a : Option Addr) (len cap : Nat) (hl : len ≤ 4096) (hr : RdB W W.heap.size a len) : Calls Try.prog 30 #[.slice a len cap] W (PxR W) := by
  have hl9 : len ≤ 9223372036854775807 := by omega
  have hal : Below W.heap.size W (W.alloc (.cells #[.int .i64 0, .int .i64 0, .int .i64 0, .int .i64 0] 25)) := (Below.refl _ _).alloc (Nat.le_refl _) _
  have hr1 : Hid (RdB (W.alloc (.cells #[.int .i64 0, .int .i64 0, .int .i64 0, .int .i64 0] 25)) W.heap.size a len) := hide (hr.belowB hal (Nat.le_refl _))
  have hE0 := hide hal
  have hr2 : Hid (RdB (W.alloc (.cells #[.int .i64 0, .int .i64 0, .int .i64 0, .int .i64 0] 25)) (W.alloc (.cells #[.int .i64 0, .int .i64 0, .int .i64 0, .int .i64 0] 25)).heap.size a len) := hide ((unhide hr1).up (by simp))
  have hR0 : Hid (Bx (W.alloc (.cells #[.int .i64 0, .int .i64 0, .int .i64 0, .int .i64 0] 25)) W.heap.size 0 0 0 0) := hide (Bx.new _ _ _ _ _ _)
  clear hr hal
  go_enter Try.func30, Try.ntmps30
  go_wp2_with fail
  refine (new_any a len cap _ hl9 (by omega) (unhide hr2)).mono ?_
  rintro e w1 ⟨g, rfl, hg, hc, hb⟩
  have hg2 : W.heap.size < g := by simp at hg; omega
  have hWg : W.heap.size ≤ g := by omega
  have S : Hid (CurAt w1 g a len cap ∧ RdB w1 W.heap.size a len ∧ Below W.heap.size W w1 ∧ Bx w1 W.heap.size 0 0 0 0) := hide ⟨hc, (unhide hr1).belowB hb (by simp), (unhide hE0).trans (hb.mono (by simp)), (unhide hR0).below hb⟩
  clear hc hb hr1 hr2 hR0 hE0 hg
  go_wp2_with fail
  refine (below_any W.heap.size g a len cap 256 _ hWg hl9 (unhide S).1 (unhide S).2.1 (by omega)).mono ?_
  rintro e w2 ⟨x0, rfl, _, _, k1, g1⟩
  have S1 := hide (And.intro k1 (And.intro ((unhide S).2.1.grown g1 hWg) (And.intro (below_grown (unhide S).2.2.1 g1 hWg) ((unhide S).2.2.2.grown g1 (by omega)))))
  clear S k1 g1
  have S := S1
  clear S1
  go_wp2_with fail
  refine (below_any W.heap.size g a len cap 256 _ hWg hl9 (unhide S).1 (unhide S).2.1 (by omega)).mono ?_
  rintro e w2 ⟨x1, rfl, _, _, k1, g1⟩
  have S1 := hide (And.intro k1 (And.intro ((unhide S).2.1.grown g1 hWg) (And.intro (below_grown (unhide S).2.2.1 g1 hWg) ((unhide S).2.2.2.grown g1 (by omega)))))
  clear S k1 g1
  have S := S1
  clear S1
  go_wp2_with fail
  refine (below_any W.heap.size g a len cap 256 _ hWg hl9 (unhide S).1 (unhide S).2.1 (by omega)).mono ?_
  rintro e w2 ⟨x2, rfl, _, _, k1, g1⟩
  have S1 := hide (And.intro k1 (And.intro ((unhide S).2.1.grown g1 hWg) (And.intro (below_grown (unhide S).2.2.1 g1 hWg) ((unhide S).2.2.2.grown g1 (by omega)))))
  clear S k1 g1
  have S := S1
  clear S1
  go_wp2_with fail
  refine (below_any W.heap.size g a len cap 256 _ hWg hl9 (unhide S).1 (unhide S).2.1 (by omega)).mono ?_
  rintro e w2 ⟨x3, rfl, _, _, k1, g1⟩
  have S1 := hide (And.intro k1 (And.intro ((unhide S).2.1.grown g1 hWg) (And.intro (below_grown (unhide S).2.2.1 g1 hWg) ((unhide S).2.2.2.grown g1 (by omega)))))
  clear S k1 g1
  have S := S1
  clear S1
  have hkw : W.heap.size < w2.heap.size := (unhide S).2.2.2.lt
  have hgw : g < w2.heap.size := (unhide S).1.lt
  have hal : Below w2.heap.size w2 (w2.alloc (.cells #[.int .i64 x0, .int .i64 x1, .int .i64 x2, .int .i64 x3] 25)) := (Below.refl _ _).alloc (Nat.le_refl _) _
  have S2 : Hid (CurAt (w2.alloc (.cells #[.int .i64 x0, .int .i64 x1, .int .i64 x2, .int .i64 x3] 25)) g a len cap ∧ RdB (w2.alloc (.cells #[.int .i64 x0, .int .i64 x1, .int .i64 x2, .int .i64 x3] 25)) W.heap.size a len ∧ Below W.heap.size W (w2.alloc (.cells #[.int .i64 x0, .int .i64 x1, .int .i64 x2, .int .i64 x3] 25)) ∧ Bx (w2.alloc (.cells #[.int .i64 x0, .int .i64 x1, .int .i64 x2, .int .i64 x3] 25)) W.heap.size 0 0 0 0 ∧ Bx (w2.alloc (.cells #[.int .i64 x0, .int .i64 x1, .int .i64 x2, .int .i64 x3] 25)) w2.heap.size x0 x1 x2 x3) := hide ⟨(unhide S).1.below hal, (unhide S).2.1.belowB hal (by omega), laterB (unhide S).2.2.1 hal, (unhide S).2.2.2.below hal, Bx.new _ _ _ _ _ _⟩
  have hkg : w2.heap.size ≠ g := by omega
  clear S hal
  go_wp2_with fail
  refine (once_any W.heap.size g a len cap 12 _ hWg hl9 (unhide S2).1 (unhide S2).2.1 (by omega)).mono ?_
  rintro e w5 ⟨o, rfl, k1, g1⟩
  have S3 := hide (And.intro k1 (And.intro ((unhide S2).2.1.grown g1 hWg) (And.intro (below_grown (unhide S2).2.2.1 g1 hWg) (And.intro ((unhide S2).2.2.2.1.grown g1 (by omega)) ((unhide S2).2.2.2.2.grown g1 hkg)))))
  clear S2 k1 g1
  have hn1 : ¬ (W.heap.size = w2.heap.size) := by omega
  have hn2 : ¬ (w2.heap.size = W.heap.size) := by omega
  generalize w2.heap.size = kb at *
  cases o
  · obtain ⟨_, _, hE, ⟨r0, r1, r2, r3, q0, q1, q2, q3⟩, ⟨p0, p1, p2, p3, _, _, _, _⟩⟩ := unhide S3
    have hE' := hide hE
    clear hE S3
    go_wp2
    exact bodyPost_ret (v := ag4 x0 x1 x2 x3) (by simp [results, Try.results30, go_sem, r0, r1, r2, r3]) rfl ⟨x0, x1, x2, x3, rfl, set4_below (unhide hE') (Nat.le_refl _)⟩
  · go_wp2_with fail
    refine (dpx_any W.heap.size g a len cap _ hWg (unhide S3).2.2.1.size hl9 (unhide S3).1 (unhide S3).2.1).mono ?_
    rintro e w6 ⟨x, y, z, u, rfl, hD⟩
    have hR := hide ((unhide S3).2.2.2.1.grown hD.gr (by omega))
    have hP := hide ((unhide S3).2.2.2.2.grown hD.gr hkg)
    have hE := hide (below_grown (unhide S3).2.2.1 hD.gr (by omega))
    clear S3 hD
    have hP2 := hide ((unhide hP).set4 x y z u)
    have hR2 := hide (((((unhide hR).other (b := kb) (i := 0) (v := .int .i64 x) hn1).other (b := kb) (i := 1) (v := .int .i64 y) hn1).other (b := kb) (i := 2) (v := .int .i64 z) hn1).other (b := kb) (i := 3) (v := .int .i64 u) hn1)
    have hE2 := hide (set4_below (u := .int .i64 x) (v := .int .i64 y) (s := .int .i64 z) (t := .int .i64 u) (unhide hE) (show W.heap.size ≤ kb by omega))
    obtain ⟨p0, p1, p2, p3, f0, f1, f2, f3⟩ := unhide hP
    go_upto_region 5 with fail
    clear p0 p1 p2 p3 f0 f1 f2 f3 hP hR hE
    generalize ((((w6.setCell ⟨kb, 0, none⟩ (.int .i64 x)).setCell ⟨kb, 1, none⟩ (.int .i64 y)).setCell ⟨kb, 2, none⟩ (.int .i64 z)).setCell ⟨kb, 3, none⟩ (.int .i64 u)) = w7 at *
    obtain ⟨r0, r1, r2, r3, q0, q1, q2, q3⟩ := unhide hR2
    obtain ⟨p0, p1, p2, p3, _, _, _, _⟩ := unhide hP2
    go_wp2
    exact bodyPost_ret (v := ag4 x y z u) (by simp [results, Try.results30, go_sem, r0, r1, r2, r3]) rfl ⟨x, y, z, u, rfl, set4_below (unhide hE2) (Nat.le_refl _)⟩

end Go.Proofs.Yteabmbggljpmoaa
