/-
  For every list of squares and every two bounds Loud of the program answers as its model does, all NaNs one, and the law's arguments read behind the call as they read before; no conditions.
-/
import Derived.Test.YtdemcjppokhonaaAb
import Derived.Test.YtdemcjppokhonaaKp
import Derived.Outline
namespace Go.Proofs.Ytdemcjppokhonaa
open Go.RowKit
set_option linter.unusedVariables false
set_option linter.unusedSimpArgs false

set_option maxHeartbeats 3200000 in
theorem lawLd {W : World} (a : Option Addr) (ca : Nat) (l : List Nat) (hl0 : l.length ≤ maxLen) (ha : Fls false 0 W.heap.size W a l) (x0 : Nat) (x1 : Nat) :
    Calls Try.prog 10 #[.slice a l.length ca, .float .f64 x0, .float .f64 x1] W fun e w' => e = .returned (.bool true) ∧ Below W.heap.size W w' := by
  have ha' := hide ha
  clear ha
  unfold maxLen at hl0
  by_cases hl : (1048576 : Int) < l.length
  · go_enter Try.func10, Try.ntmps10
    go_wp2
    go_ret
    exact ⟨rfl, Below.refl _ _⟩
  have hl2 : l.length ≤ 1048576 := by omega
  go_enter Try.func10, Try.ntmps10
  go_wp2_with fail
  refine (tof_any a ca l _ hl2 (unhide ha')).mono ?_
  rintro e w1 ⟨B1, rfl, q1, n1, k1⟩
  have f0 := hide (own_mono n1 (Nat.zero_le _))
  have H1 := hide k1
  clear k1 n1 q1
  go_wp2_with fail
  refine (sloud_any _ _ l x0 x1 _ (fls_ownB (unhide f0))).mono ?_
  rintro e w2 ⟨v, rfl, hv, k2⟩
  have hv' := hide hv
  have H2 := hide (laterB (unhide H1) k2)
  clear k2 hv f0 H1
  go_wp2_with fail
  refine (tof_any a ca l _ hl2 (carry (unhide ha') (unhide H2))).mono ?_
  rintro e w3 ⟨B3, rfl, q3, n3, k3⟩
  have xa := hide (own_mono n3 (Nat.zero_le _))
  have H3 := hide (laterB (unhide H2) k3)
  clear k3 n3 q3 H2
  go_wp2_with fail
  refine (iloud_any _ _ l x0 x1 _ (fls_ownB (unhide xa))).mono ?_
  rintro e w4 ⟨u, rfl, hu, k4⟩
  have hs := hide (hu.trans (unhide hv').symm)
  have xa := hide (ownsRow_below (unhide xa) k4)
  have H4 := hide (laterB (unhide H3) k4)
  clear k4 hu hv' H3
  go_wp2_with fail
  refine (same2_any _ _ (unhide hs) _).mono ?_
  rintro e w5 ⟨rfl, k5⟩
  have xa := hide (ownsRow_below (unhide xa) k5)
  have H5 := hide (laterB (unhide H4) k5)
  clear k5 H4
  go_wp2_with fail
  refine (tof_any a ca l _ hl2 (carry (unhide ha') (unhide H5))).mono ?_
  rintro e w6 ⟨B6, rfl, q6, n6, k6⟩
  have xa := hide (ownsRow_below (unhide xa) k6)
  have t := hide (own_mono n6 (Nat.zero_le _))
  have H6 := hide (laterB (unhide H5) k6)
  clear k6 n6 q6 H5
  go_wp2_with fail
  refine (eqfl_any _ _ _ _ l l _ hl2 SmL.rfl (fls_ownB (unhide xa)) (fls_ownB (unhide t))).mono ?_
  rintro e w7 ⟨rfl, k7⟩
  have H7 := hide (laterB (unhide H6) k7)
  clear k7 H6 xa t
  go_wp2
  go_ret
  exact ⟨rfl, unhide H7⟩
end Go.Proofs.Ytdemcjppokhonaa
