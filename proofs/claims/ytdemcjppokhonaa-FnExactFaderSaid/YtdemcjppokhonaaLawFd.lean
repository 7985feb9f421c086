/-
  For every sound and every two places Fader of the program answers as its model does, all NaNs one, its answer is memory of its own, and the law's arguments read behind the call as they read before; no conditions.
-/
import Derived.Test.YtdemcjppokhonaaFj
import Derived.Outline
namespace Go.Proofs.Ytdemcjppokhonaa
open Go.RowKit
set_option linter.unusedVariables false
set_option linter.unusedSimpArgs false

set_option maxHeartbeats 3200000 in
theorem lawFd {W : World} (a : Option Addr) (ca : Nat) (l : List Nat) (hl0 : l.length ≤ maxLen) (ha : Fls false 0 W.heap.size W a l) (x0 : Int) (x1 : Int) :
    Calls Try.prog 11 #[.slice a l.length ca, .int .i64 x0, .int .i64 x1] W fun e w' => e = .returned (.bool true) ∧ Below W.heap.size W w' := by
  have ha' := hide ha
  clear ha
  unfold maxLen at hl0
  by_cases hl : (1048576 : Int) < l.length
  · go_enter Try.func11, Try.ntmps11
    go_wp2
    go_ret
    exact ⟨rfl, Below.refl _ _⟩
  have hl2 : l.length ≤ 1048576 := by omega
  obtain ⟨NN, hNN⟩ : ∃ NN, fadN l x0 x1 = NN := ⟨_, rfl⟩
  have hNN' := hide hNN
  have hNb : NN ≤ 10000000 := by rw [← hNN]; exact (Nat.le_trans (fadN_le l x0 x1) (by omega))
  clear hNN
  go_enter Try.func11, Try.ntmps11
  go_wp2_with fail
  refine (tof_any a ca l _ hl2 (unhide ha')).mono ?_
  rintro e w1 ⟨B1, rfl, q1, n1, k1⟩
  have f0 := hide (own_mono n1 (Nat.zero_le _))
  have H1 := hide k1
  clear k1 n1 q1
  go_wp2_with fail
  refine (sfad_any _ _ l x0 x1 _ (fls_ownB (unhide f0))).mono ?_
  rintro e w2 ⟨g2, c2, L, rfl, q2, n2, v2, k2⟩
  have v2' := hide (show Ls (fadE l x0 x1) NN L by rw [← unhide hNN']; exact v2)
  have Ln := hide (show L.length ≤ 10000000 by rw [(unhide v2').1]; exact hNb)
  have f0 := hide (ownsRow_below (unhide f0) k2)
  have oL := hide (own_mono n2 (Nat.zero_le _))
  have H2 := hide (laterB (unhide H1) k2)
  clear k2 n2 v2 q2 H1
  clear f0
  go_wp2_with fail
  refine (tof_any a ca l _ hl2 (carry (unhide ha') (unhide H2))).mono ?_
  rintro e w3 ⟨B3, rfl, q3, n3, k3⟩
  have gLlt := own_lt (unhide oL)
  have lt0 : g2 < B3 := by omega
  have WB0 : W.heap.size ≤ B3 := by have := (unhide H2).size; omega
  clear gLlt
  have oL := hide (ownsRow_below (unhide oL) k3)
  have xa := hide (own_mono n3 (Nat.zero_le _))
  have H3 := hide (laterB (unhide H2) k3)
  clear k3 n3 q3 H2
  go_wp2_with fail
  refine (ifad_any _ l x0 x1 _ (fls_ownB (unhide xa))).mono ?_
  rintro e w4 ⟨g4, c4, M, rfl, q4, n4, v4, k4⟩
  have v4' := hide (show Ls (fadE l x0 x1) NN M by rw [← unhide hNN']; exact v4)
  have Mn := hide (show M.length ≤ 10000000 by rw [(unhide v4').1]; exact hNb)
  have y0 : B3 < g4 := by have := own_lt (unhide xa); omega
  have oL := hide (ownsRow_below (unhide oL) k4)
  have xa := hide (ownsRow_below (unhide xa) k4)
  have oM := hide (own_mono n4 (Nat.zero_le _))
  have H4 := hide (laterB (unhide H3) k4)
  clear k4 n4 v4 q4 H3
  have hs := hide ((unhide v4').sm (unhide v2'))
  go_wp2_with fail
  refine (eqfl_any _ _ _ _ M L _ (show M.length ≤ 1048576 by rw [(unhide v4').1, ← unhide hNN']; exact (Nat.le_trans (fadN_le l x0 x1) (by omega))) (unhide hs) (fls_ownB (unhide oM)) (fls_ownB (unhide oL))).mono ?_
  rintro e w5 ⟨rfl, k5⟩
  have oL := hide (ownsRow_below (unhide oL) k5)
  have xa := hide (ownsRow_below (unhide xa) k5)
  have oM := hide (ownsRow_below (unhide oM) k5)
  have H5 := hide (laterB (unhide H4) k5)
  clear k5 H4
  go_wp2_with fail
  refine (tof_any a ca l _ hl2 (carry (unhide ha') (unhide H5))).mono ?_
  rintro e w6 ⟨B6, rfl, q6, n6, k6⟩
  have oL := hide (ownsRow_below (unhide oL) k6)
  have xa := hide (ownsRow_below (unhide xa) k6)
  have oM := hide (ownsRow_below (unhide oM) k6)
  have t := hide (own_mono n6 (Nat.zero_le _))
  have H6 := hide (laterB (unhide H5) k6)
  clear k6 n6 q6 H5
  go_wp2_with fail
  refine (eqfl_any _ _ _ _ l l _ hl2 SmL.rfl (fls_ownB (unhide xa)) (fls_ownB (unhide t))).mono ?_
  rintro e w7 ⟨rfl, k7⟩
  have oL := hide (ownsRow_below (unhide oL) k7)
  have xa := hide (ownsRow_below (unhide xa) k7)
  have oM := hide (ownsRow_below (unhide oM) k7)
  have t := hide (ownsRow_below (unhide t) k7)
  have H7 := hide (laterB (unhide H6) k7)
  clear k7 H6
  clear t
  go_wp2_with fail
  refine (markf_any 0 B3 l.length l.length (1) _ _ (by omega) (by omega) (by omega) (unhide xa)).mono ?_
  rintro e w8 ⟨rfl, _, k8⟩
  have oL := hide (own_kept (unhide oL) k8 (by omega))
  have oM := hide (own_kept (unhide oM) k8 (by omega))
  have H8 := hide (below_grown (unhide H7) k8 WB0)
  clear k8 H7 xa
  have t1 : decide ((1 + (l.length : Int) : Int) < 0) = false := by simp; omega
  go_wp2_with fail
  refine (eqfl_any _ _ _ _ M L _ (show M.length ≤ 1048576 by rw [(unhide v4').1, ← unhide hNN']; exact (Nat.le_trans (fadN_le l x0 x1) (by omega))) (unhide hs) (fls_ownB (unhide oM)) (fls_ownB (unhide oL))).mono ?_
  rintro e w9 ⟨rfl, k9⟩
  have oL := hide (ownsRow_below (unhide oL) k9)
  have oM := hide (ownsRow_below (unhide oM) k9)
  have H9 := hide (laterB (unhide H8) k9)
  clear k9 H8
  have Mb := unhide Mn
  go_wp2_with fail
  refine (markf_any 0 g4 M.length c4 (1) _ _ (by omega) (by omega) (by omega) (unhide oM)).mono ?_
  rintro e w10 ⟨rfl, ⟨ys, hy, hm⟩, k10⟩
  have oL := hide (own_kept (unhide oL) k10 (by omega))
  have H10 := hide (below_grown (unhide H9) k10 (by omega))
  have oM := hide hy
  have hm' := hide hm
  clear k10 H9 hy hm
  go_wp2_with fail
  refine (heldf_any 0 g4 M.length c4 1 ys _ (by omega) (by omega) (by omega) (unhide oM) (unhide hm')).mono ?_
  rintro e w11 ⟨rfl, rfl⟩
  have t2 : decide ((1 : Int) + (M.length : Int) < 0) = false := by simp; omega
  go_wp2_with fail
  refine (tof_any a ca l _ hl2 (carry (unhide ha') (unhide H10))).mono ?_
  rintro e w12 ⟨B12, rfl, q12, n12, k12⟩
  have oL := hide (ownsRow_below (unhide oL) k12)
  have oM := hide (ownsRow_below (unhide oM) k12)
  have f0 := hide (own_mono n12 (Nat.zero_le _))
  have H12 := hide (laterB (unhide H10) k12)
  clear k12 n12 q12 H10
  go_wp2_with fail
  refine (ifad_any _ l x0 x1 _ (fls_ownB (unhide f0))).mono ?_
  rintro e w13 ⟨g13, c13, K, rfl, q13, n13, v13, k13⟩
  have v13' := hide (show Ls (fadE l x0 x1) NN K by rw [← unhide hNN']; exact v13)
  have Kn := hide (show K.length ≤ 10000000 by rw [(unhide v13').1]; exact hNb)
  have oL := hide (ownsRow_below (unhide oL) k13)
  have oM := hide (ownsRow_below (unhide oM) k13)
  have f0 := hide (ownsRow_below (unhide f0) k13)
  have oK := hide (own_mono n13 (Nat.zero_le _))
  have H13 := hide (laterB (unhide H12) k13)
  clear k13 n13 v13 q13 H12
  clear f0
  have hs2 := hide ((unhide v13').sm (unhide v2'))
  go_wp2_with fail
  refine (eqfl_any _ _ _ _ K L _ (show K.length ≤ 1048576 by rw [(unhide v13').1, ← unhide hNN']; exact (Nat.le_trans (fadN_le l x0 x1) (by omega))) (unhide hs2) (fls_ownB (unhide oK)) (fls_ownB (unhide oL))).mono ?_
  rintro e w14 ⟨rfl, k14⟩
  have oL := hide (ownsRow_below (unhide oL) k14)
  have oM := hide (ownsRow_below (unhide oM) k14)
  have oK := hide (ownsRow_below (unhide oK) k14)
  have H14 := hide (laterB (unhide H13) k14)
  clear k14 H13
  go_wp2_with fail
  refine (heldf_any 0 g4 M.length c4 1 ys _ (by omega) (by omega) (by omega) (unhide oM) (unhide hm')).mono ?_
  rintro e w15 ⟨rfl, rfl⟩
  go_wp2
  go_ret
  exact ⟨rfl, unhide H14⟩

end Go.Proofs.Ytdemcjppokhonaa
