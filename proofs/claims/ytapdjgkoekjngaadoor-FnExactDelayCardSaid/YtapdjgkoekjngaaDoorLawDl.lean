/-
  For every list of titles and every number Delay of the program answers as its model does, its answer is memory of its own; where the library's variable lies there.
-/
import Derived.Test.YtapdjgkoekjngaaDoorDlI
import Derived.Test.YtapdjgkoekjngaaDoorMrk
import Derived.Test.YtapdjgkoekjngaaDoorSzl
namespace Go.Proofs.YtapdjgkoekjngaaDoor
open Go.RowKit
set_option linter.unusedVariables false
set_option linter.unusedSimpArgs false

set_option maxRecDepth 100000 in
set_option maxHeartbeats 3200000 in
theorem lawDl {W : World} (a : Option Addr) (cap : Nat) (l : List Kl) (hl : l.length ≤ maxLen) (hr : Kls W a l) (hsz : ∀ x ∈ l, x.2.2.size ≤ maxLen) (by' : Int) (_b0 : -9223372036854775808 ≤ by') (_b1 : by' ≤ 9223372036854775807) (hM : MaxL W) :
    Calls Tryd.prog 7 #[.slice a l.length cap, .int .i64 by'] W fun e w' => e = .returned (.bool true) ∧ Below W.heap.size W w' := by
  have hr' := hide hr
  have hM' := hide hM
  obtain ⟨R, ok, hR⟩ : ∃ R ok, dly by' l = (R, ok) := ⟨_, _, rfl⟩
  have hRl := dly_len hR
  have hR' := hide hR
  have cz := hide (szk_any a cap l W hl hr hsz)
  clear hr hsz hM hR
  go_enter Tryd.func7, Tryd.ntmps7
  go_wp2_with fail
  refine (unhide cz).mono ?_
  rintro e w1 ⟨r, rfl, h1, k1⟩
  rcases h1 with rfl | ⟨p0, p1, p2⟩
  · go_wp2
    go_ret
    exact ⟨rfl, k1⟩
  have gr : decide (r < 0) = false := decide_eq_false (by omega)
  have gv : (ok != ok) = false := by simp
  have hs' := hide p2
  clear p2
  have H0 : Hid (Below W.heap.size W w1) := hide k1
  clear k1 cz
  go_wp2_with fail
  refine (tok_any a cap l _ p1 ((unhide hr').below (unhide H0))).mono ?_
  rintro e w2 ⟨B2, rfl, q2, n2, k2⟩
  have o1 := hide (own_mono n2 (Nat.zero_le _))
  clear n2
  have z2 := (unhide H0).size
  have H2 := hide (laterB (unhide H0) k2)
  clear k2 H0
  go_wp2_with fail
  refine (sdel_any _ _ l R by' ok _ p1 (kls_own (unhide o1)) (unhide hs') (unhide hR')).mono ?_
  rintro e w3 ⟨g3, c3, rfl, q3, n3, k3⟩
  have l3o1 := own_lt (unhide o1)
  have o1 := hide (ownsRow_below (unhide o1) k3)
  have ow := hide (own_mono n3 (Nat.zero_le _))
  clear n3
  have z3 := (unhide H2).size
  have H3 := hide (laterB (unhide H2) k3)
  clear k3 H2
  clear o1
  go_wp2_with fail
  refine (tok_any a cap l _ p1 ((unhide hr').below (unhide H3))).mono ?_
  rintro e w4 ⟨B4, rfl, q4, n4, k4⟩
  have l4ow := own_lt (unhide ow)
  have ow := hide (ownsRow_below (unhide ow) k4)
  have ox := hide (own_mono n4 (Nat.zero_le _))
  clear n4
  have z4 := (unhide H3).size
  have H4 := hide (laterB (unhide H3) k4)
  clear k4 H3
  go_wp2_with fail
  refine (idel_any _ _ l R by' ok _ p1 (kls_own (unhide ox)) (unhide hs') ((unhide hM').below (unhide H4)) (unhide hR')).mono ?_
  rintro e w5 ⟨g5, c5, rfl, q5, n5, k5⟩
  have l5ow := own_lt (unhide ow)
  have ow := hide (ownsRow_below (unhide ow) k5)
  have l5ox := own_lt (unhide ox)
  have ox := hide (ownsRow_below (unhide ox) k5)
  have og := hide (own_mono n5 (Nat.zero_le _))
  clear n5
  have z5 := (unhide H4).size
  have H5 := hide (laterB (unhide H4) k5)
  clear k5 H4
  go_wp2_with fail
  refine (eqks_any _ _ _ _ R _ (by omega) (kls_own (unhide og)) (kls_own (unhide ow))).mono ?_
  rintro e w6 ⟨rfl, k6⟩
  have l6ow := own_lt (unhide ow)
  have ow := hide (ownsRow_below (unhide ow) k6)
  have l6ox := own_lt (unhide ox)
  have ox := hide (ownsRow_below (unhide ox) k6)
  have l6og := own_lt (unhide og)
  have og := hide (ownsRow_below (unhide og) k6)
  have z6 := (unhide H5).size
  have H6 := hide (laterB (unhide H5) k6)
  clear k6 H5
  go_wp2_with fail
  refine (tok_any a cap l _ p1 ((unhide hr').below (unhide H6))).mono ?_
  rintro e w7 ⟨B7, rfl, q7, n7, k7⟩
  have l7ow := own_lt (unhide ow)
  have ow := hide (ownsRow_below (unhide ow) k7)
  have l7ox := own_lt (unhide ox)
  have ox := hide (ownsRow_below (unhide ox) k7)
  have l7og := own_lt (unhide og)
  have og := hide (ownsRow_below (unhide og) k7)
  have o8 := hide (own_mono n7 (Nat.zero_le _))
  clear n7
  have z7 := (unhide H6).size
  have H7 := hide (laterB (unhide H6) k7)
  clear k7 H6
  go_wp2_with fail
  refine (eqks_any _ _ _ _ l _ p1 (kls_own (unhide ox)) (kls_own (unhide o8))).mono ?_
  rintro e w8 ⟨rfl, k8⟩
  have l8ow := own_lt (unhide ow)
  have ow := hide (ownsRow_below (unhide ow) k8)
  have l8ox := own_lt (unhide ox)
  have ox := hide (ownsRow_below (unhide ox) k8)
  have l8og := own_lt (unhide og)
  have og := hide (ownsRow_below (unhide og) k8)
  have l8o8 := own_lt (unhide o8)
  have o8 := hide (ownsRow_below (unhide o8) k8)
  have z8 := (unhide H7).size
  have H8 := hide (laterB (unhide H7) k8)
  clear k8 H7
  clear o8
  have d1 : B4 ≠ g5 := by omega
  have d2 : B4 ≠ g3 := by omega
  have d3 : g5 ≠ g3 := by omega
  have d4 : W.heap.size ≤ B4 := by omega
  have d5 : W.heap.size ≤ g5 := by omega
  go_wp2_with fail
  refine (markk_any 0 B4 l.length l.length 1 _ _ (by omega) (by omega) (by omega) (unhide ox)).mono ?_
  rintro e w9 ⟨rfl, _, k9⟩
  have ow := hide (own_kept (unhide ow) k9 (by omega))
  have og := hide (own_kept (unhide og) k9 (by omega))
  have z9 := (unhide H8).size
  have H9 := hide (below_grown (unhide H8) k9 (by omega))
  clear k9 H8
  clear ox
  have t1 : decide ((1 : Int) + (l.length : Int) * 3 < 0) = false := by simp; omega
  go_wp2_with fail
  refine (eqks_any _ _ _ _ R _ (by omega) (kls_own (unhide og)) (kls_own (unhide ow))).mono ?_
  rintro e w10 ⟨rfl, k10⟩
  have l10ow := own_lt (unhide ow)
  have ow := hide (ownsRow_below (unhide ow) k10)
  have l10og := own_lt (unhide og)
  have og := hide (ownsRow_below (unhide og) k10)
  have z10 := (unhide H9).size
  have H10 := hide (laterB (unhide H9) k10)
  clear k10 H9
  go_wp2_with fail
  refine (markk_any 0 g5 R.length c5 1 _ _ (by omega) (by omega) (by omega) (unhide og)).mono ?_
  rintro e w11 ⟨rfl, ⟨ys, hy, hmk⟩, k11⟩
  have ow := hide (own_kept (unhide ow) k11 (by omega))
  have z11 := (unhide H10).size
  have H11 := hide (below_grown (unhide H10) k11 (by omega))
  clear k11 H10
  clear og
  have og := hide hy
  have hm' := hide hmk
  clear hy hmk
  go_wp2_with fail
  refine (heldk_any 0 g5 R.length c5 1 ys _ (by omega) (by omega) (by omega) (unhide og) (unhide hm')).mono ?_
  rintro e w12 ⟨rfl, k12⟩
  have l12ow := own_lt (unhide ow)
  have ow := hide (ownsRow_below (unhide ow) k12)
  have l12og := own_lt (unhide og)
  have og := hide (ownsRow_below (unhide og) k12)
  have z12 := (unhide H11).size
  have H12 := hide (laterB (unhide H11) k12)
  clear k12 H11
  have t2 : decide ((1 : Int) + (R.length : Int) * 3 < 0) = false := by simp; omega
  have t3 : ((1 : Int) + (R.length : Int) * 3 != 1 + (R.length : Int) * 3) = false := by simp
  go_wp2_with fail
  refine (tok_any a cap l _ p1 ((unhide hr').below (unhide H12))).mono ?_
  rintro e w13 ⟨B13, rfl, q13, n13, k13⟩
  have l13ow := own_lt (unhide ow)
  have ow := hide (ownsRow_below (unhide ow) k13)
  have l13og := own_lt (unhide og)
  have og := hide (ownsRow_below (unhide og) k13)
  have o17 := hide (own_mono n13 (Nat.zero_le _))
  clear n13
  have z13 := (unhide H12).size
  have H13 := hide (laterB (unhide H12) k13)
  clear k13 H12
  go_wp2_with fail
  refine (idel_any _ _ l R by' ok _ p1 (kls_own (unhide o17)) (unhide hs') ((unhide hM').below (unhide H13)) (unhide hR')).mono ?_
  rintro e w14 ⟨g14, c14, rfl, q14, n14, k14⟩
  have l14ow := own_lt (unhide ow)
  have ow := hide (ownsRow_below (unhide ow) k14)
  have l14og := own_lt (unhide og)
  have og := hide (ownsRow_below (unhide og) k14)
  have l14o17 := own_lt (unhide o17)
  have o17 := hide (ownsRow_below (unhide o17) k14)
  have oh := hide (own_mono n14 (Nat.zero_le _))
  clear n14
  have z14 := (unhide H13).size
  have H14 := hide (laterB (unhide H13) k14)
  clear k14 H13
  clear o17
  go_wp2_with fail
  refine (eqks_any _ _ _ _ R _ (by omega) (kls_own (unhide oh)) (kls_own (unhide ow))).mono ?_
  rintro e w15 ⟨rfl, k15⟩
  have l15ow := own_lt (unhide ow)
  have ow := hide (ownsRow_below (unhide ow) k15)
  have l15og := own_lt (unhide og)
  have og := hide (ownsRow_below (unhide og) k15)
  have l15oh := own_lt (unhide oh)
  have oh := hide (ownsRow_below (unhide oh) k15)
  have z15 := (unhide H14).size
  have H15 := hide (laterB (unhide H14) k15)
  clear k15 H14
  clear oh ow
  go_wp2_with fail
  refine (heldk_any 0 g5 R.length c5 1 ys _ (by omega) (by omega) (by omega) (unhide og) (unhide hm')).mono ?_
  rintro e w16 ⟨rfl, k16⟩
  have l16og := own_lt (unhide og)
  have og := hide (ownsRow_below (unhide og) k16)
  have z16 := (unhide H15).size
  have H16 := hide (laterB (unhide H15) k16)
  clear k16 H15
  go_wp2
  go_ret
  exact ⟨rfl, unhide H16⟩

end Go.Proofs.YtapdjgkoekjngaaDoor
