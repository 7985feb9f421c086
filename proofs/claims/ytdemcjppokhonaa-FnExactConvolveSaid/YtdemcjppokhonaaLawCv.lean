/-
  For every two sounds Convolve of the program answers as its model does, all NaNs one, its answer is memory of its own, and the law's arguments read behind the call as they read before; no conditions.
-/
import Derived.Test.YtdemcjppokhonaaCj
import Derived.Outline
namespace Go.Proofs.Ytdemcjppokhonaa
open Go.RowKit
set_option linter.unusedVariables false
set_option linter.unusedSimpArgs false

set_option maxHeartbeats 3200000 in
theorem lawCv {W : World} (a : Option Addr) (ca : Nat) (l : List Nat) (hl0 : l.length ≤ maxLen) (ha : Fls false 0 W.heap.size W a l) (b : Option Addr) (cb : Nat) (m : List Nat) (hm0 : m.length ≤ maxLen) (hb : Fls false 0 W.heap.size W b m)  :
    Calls Try.prog 9 #[.slice a l.length ca, .slice b m.length cb] W fun e w' => e = .returned (.bool true) ∧ Below W.heap.size W w' := by
  have ha' := hide ha
  clear ha
  have hb' := hide hb
  clear hb
  unfold maxLen at hl0 hm0
  by_cases hl : (1048576 : Int) < l.length
  · go_enter Try.func9, Try.ntmps9
    go_wp2
    go_ret
    exact ⟨rfl, Below.refl _ _⟩
  by_cases hm : (1048576 : Int) < m.length
  · go_enter Try.func9, Try.ntmps9
    go_wp2
    go_ret
    exact ⟨rfl, Below.refl _ _⟩
  have hl2 : l.length ≤ 1048576 := by omega
  have hm2 : m.length ≤ 1048576 := by omega
  obtain ⟨NN, hNN⟩ : ∃ NN, cvN l m = NN := ⟨_, rfl⟩
  have hNN' := hide hNN
  have hNb : NN ≤ 10000000 := by rw [← hNN]; exact (Nat.le_trans (cvN_le l m) (by omega))
  clear hNN
  go_enter Try.func9, Try.ntmps9
  go_wp2_with fail
  refine (tof_any a ca l _ hl2 (unhide ha')).mono ?_
  rintro e w1 ⟨B1, rfl, q1, n1, k1⟩
  have f0 := hide (own_mono n1 (Nat.zero_le _))
  have H1 := hide k1
  clear k1 n1 q1
  go_wp2_with fail
  refine (tof_any b cb m _ hm2 (carry (unhide hb') (unhide H1))).mono ?_
  rintro e w2 ⟨B2, rfl, q2, n2, k2⟩
  have f0 := hide (ownsRow_below (unhide f0) k2)
  have f1 := hide (own_mono n2 (Nat.zero_le _))
  have H2 := hide (laterB (unhide H1) k2)
  clear k2 n2 q2 H1
  go_wp2_with fail
  refine (scv_any _ _ l _ _ m  _ hl2 hm2 (fls_ownB (unhide f0)) (fls_ownB (unhide f1))).mono ?_
  rintro e w3 ⟨g3, c3, L, rfl, q3, n3, v3, k3⟩
  have v3' := hide (show Ls (cvE l m) NN L by rw [← unhide hNN']; exact v3)
  have Ln := hide (show L.length ≤ 10000000 by rw [(unhide v3').1]; exact hNb)
  have f0 := hide (ownsRow_below (unhide f0) k3)
  have f1 := hide (ownsRow_below (unhide f1) k3)
  have oL := hide (own_mono n3 (Nat.zero_le _))
  have H3 := hide (laterB (unhide H2) k3)
  clear k3 n3 v3 q3 H2
  clear f0 f1
  go_wp2_with fail
  refine (tof_any a ca l _ hl2 (carry (unhide ha') (unhide H3))).mono ?_
  rintro e w4 ⟨B4, rfl, q4, n4, k4⟩
  have gLlt := own_lt (unhide oL)
  have lt0 : g3 < B4 := by omega
  have WB0 : W.heap.size ≤ B4 := by have := (unhide H3).size; omega
  clear gLlt
  have oL := hide (ownsRow_below (unhide oL) k4)
  have xa := hide (own_mono n4 (Nat.zero_le _))
  have H4 := hide (laterB (unhide H3) k4)
  clear k4 n4 q4 H3
  go_wp2_with fail
  refine (tof_any b cb m _ hm2 (carry (unhide hb') (unhide H4))).mono ?_
  rintro e w5 ⟨B5, rfl, q5, n5, k5⟩
  have gLlt := own_lt (unhide oL)
  have lt1 : g3 < B5 := by omega
  have lx : B4 < B5 := by have := own_lt (unhide xa); omega
  have WB1 : W.heap.size ≤ B5 := by have := (unhide H4).size; omega
  clear gLlt
  have oL := hide (ownsRow_below (unhide oL) k5)
  have xa := hide (ownsRow_below (unhide xa) k5)
  have xb := hide (own_mono n5 (Nat.zero_le _))
  have H5 := hide (laterB (unhide H4) k5)
  clear k5 n5 q5 H4
  go_wp2_with fail
  refine (icv_any _ _ l _ _ m  _ hl2 hm2 (fls_ownB (unhide xa)) (fls_ownB (unhide xb))).mono ?_
  rintro e w6 ⟨g6, c6, M, rfl, q6, n6, v6, k6⟩
  have v6' := hide (show Ls (cvE l m) NN M by rw [← unhide hNN']; exact v6)
  have Mn := hide (show M.length ≤ 10000000 by rw [(unhide v6').1]; exact hNb)
  have y0 : B4 < g6 := by have := own_lt (unhide xa); omega
  have y1 : B5 < g6 := by have := own_lt (unhide xb); omega
  have oL := hide (ownsRow_below (unhide oL) k6)
  have xa := hide (ownsRow_below (unhide xa) k6)
  have xb := hide (ownsRow_below (unhide xb) k6)
  have oM := hide (own_mono n6 (Nat.zero_le _))
  have H6 := hide (laterB (unhide H5) k6)
  clear k6 n6 v6 q6 H5
  have hs := hide ((unhide v6').sm (unhide v3'))
  go_wp2_with fail
  refine (eqfl_any _ _ _ _ M L _ (show M.length ≤ 1048576 by rw [(unhide v6').1, ← unhide hNN']; exact (Nat.le_trans (cvN_le l m) (by omega))) (unhide hs) (fls_ownB (unhide oM)) (fls_ownB (unhide oL))).mono ?_
  rintro e w7 ⟨rfl, k7⟩
  have oL := hide (ownsRow_below (unhide oL) k7)
  have xa := hide (ownsRow_below (unhide xa) k7)
  have xb := hide (ownsRow_below (unhide xb) k7)
  have oM := hide (ownsRow_below (unhide oM) k7)
  have H7 := hide (laterB (unhide H6) k7)
  clear k7 H6
  go_wp2_with fail
  refine (tof_any a ca l _ hl2 (carry (unhide ha') (unhide H7))).mono ?_
  rintro e w8 ⟨B8, rfl, q8, n8, k8⟩
  have oL := hide (ownsRow_below (unhide oL) k8)
  have xa := hide (ownsRow_below (unhide xa) k8)
  have xb := hide (ownsRow_below (unhide xb) k8)
  have oM := hide (ownsRow_below (unhide oM) k8)
  have t := hide (own_mono n8 (Nat.zero_le _))
  have H8 := hide (laterB (unhide H7) k8)
  clear k8 n8 q8 H7
  go_wp2_with fail
  refine (eqfl_any _ _ _ _ l l _ hl2 SmL.rfl (fls_ownB (unhide xa)) (fls_ownB (unhide t))).mono ?_
  rintro e w9 ⟨rfl, k9⟩
  have oL := hide (ownsRow_below (unhide oL) k9)
  have xa := hide (ownsRow_below (unhide xa) k9)
  have xb := hide (ownsRow_below (unhide xb) k9)
  have oM := hide (ownsRow_below (unhide oM) k9)
  have t := hide (ownsRow_below (unhide t) k9)
  have H9 := hide (laterB (unhide H8) k9)
  clear k9 H8
  clear t
  go_wp2_with fail
  refine (tof_any b cb m _ hm2 (carry (unhide hb') (unhide H9))).mono ?_
  rintro e w10 ⟨B10, rfl, q10, n10, k10⟩
  have oL := hide (ownsRow_below (unhide oL) k10)
  have xa := hide (ownsRow_below (unhide xa) k10)
  have xb := hide (ownsRow_below (unhide xb) k10)
  have oM := hide (ownsRow_below (unhide oM) k10)
  have t := hide (own_mono n10 (Nat.zero_le _))
  have H10 := hide (laterB (unhide H9) k10)
  clear k10 n10 q10 H9
  go_wp2_with fail
  refine (eqfl_any _ _ _ _ m m _ hm2 SmL.rfl (fls_ownB (unhide xb)) (fls_ownB (unhide t))).mono ?_
  rintro e w11 ⟨rfl, k11⟩
  have oL := hide (ownsRow_below (unhide oL) k11)
  have xa := hide (ownsRow_below (unhide xa) k11)
  have xb := hide (ownsRow_below (unhide xb) k11)
  have oM := hide (ownsRow_below (unhide oM) k11)
  have t := hide (ownsRow_below (unhide t) k11)
  have H11 := hide (laterB (unhide H10) k11)
  clear k11 H10
  clear t
  go_wp2_with fail
  refine (markf_any 0 B4 l.length l.length (1) _ _ (by omega) (by omega) (by omega) (unhide xa)).mono ?_
  rintro e w12 ⟨rfl, _, k12⟩
  have oL := hide (own_kept (unhide oL) k12 (by omega))
  have xb := hide (own_kept (unhide xb) k12 (by omega))
  have oM := hide (own_kept (unhide oM) k12 (by omega))
  have H12 := hide (below_grown (unhide H11) k12 WB0)
  clear k12 H11 xa
  go_wp2_with fail
  refine (markf_any 0 B5 m.length m.length (1 + (l.length : Int)) _ _ (by omega) (by omega) (by omega) (unhide xb)).mono ?_
  rintro e w13 ⟨rfl, _, k13⟩
  have oL := hide (own_kept (unhide oL) k13 (by omega))
  have oM := hide (own_kept (unhide oM) k13 (by omega))
  have H13 := hide (below_grown (unhide H12) k13 WB1)
  clear k13 H12 xb
  have t1 : decide ((1 + (l.length : Int) + (m.length : Int) : Int) < 0) = false := by simp; omega
  go_wp2_with fail
  refine (eqfl_any _ _ _ _ M L _ (show M.length ≤ 1048576 by rw [(unhide v6').1, ← unhide hNN']; exact (Nat.le_trans (cvN_le l m) (by omega))) (unhide hs) (fls_ownB (unhide oM)) (fls_ownB (unhide oL))).mono ?_
  rintro e w14 ⟨rfl, k14⟩
  have oL := hide (ownsRow_below (unhide oL) k14)
  have oM := hide (ownsRow_below (unhide oM) k14)
  have H14 := hide (laterB (unhide H13) k14)
  clear k14 H13
  have Mb := unhide Mn
  go_wp2_with fail
  refine (markf_any 0 g6 M.length c6 (1) _ _ (by omega) (by omega) (by omega) (unhide oM)).mono ?_
  rintro e w15 ⟨rfl, ⟨ys, hy, hm⟩, k15⟩
  have oL := hide (own_kept (unhide oL) k15 (by omega))
  have H15 := hide (below_grown (unhide H14) k15 (by omega))
  have oM := hide hy
  have hm' := hide hm
  clear k15 H14 hy hm
  go_wp2_with fail
  refine (heldf_any 0 g6 M.length c6 1 ys _ (by omega) (by omega) (by omega) (unhide oM) (unhide hm')).mono ?_
  rintro e w16 ⟨rfl, rfl⟩
  have t2 : decide ((1 : Int) + (M.length : Int) < 0) = false := by simp; omega
  go_wp2_with fail
  refine (tof_any a ca l _ hl2 (carry (unhide ha') (unhide H15))).mono ?_
  rintro e w17 ⟨B17, rfl, q17, n17, k17⟩
  have oL := hide (ownsRow_below (unhide oL) k17)
  have oM := hide (ownsRow_below (unhide oM) k17)
  have f0 := hide (own_mono n17 (Nat.zero_le _))
  have H17 := hide (laterB (unhide H15) k17)
  clear k17 n17 q17 H15
  go_wp2_with fail
  refine (tof_any b cb m _ hm2 (carry (unhide hb') (unhide H17))).mono ?_
  rintro e w18 ⟨B18, rfl, q18, n18, k18⟩
  have oL := hide (ownsRow_below (unhide oL) k18)
  have oM := hide (ownsRow_below (unhide oM) k18)
  have f0 := hide (ownsRow_below (unhide f0) k18)
  have f1 := hide (own_mono n18 (Nat.zero_le _))
  have H18 := hide (laterB (unhide H17) k18)
  clear k18 n18 q18 H17
  go_wp2_with fail
  refine (icv_any _ _ l _ _ m  _ hl2 hm2 (fls_ownB (unhide f0)) (fls_ownB (unhide f1))).mono ?_
  rintro e w19 ⟨g19, c19, K, rfl, q19, n19, v19, k19⟩
  have v19' := hide (show Ls (cvE l m) NN K by rw [← unhide hNN']; exact v19)
  have Kn := hide (show K.length ≤ 10000000 by rw [(unhide v19').1]; exact hNb)
  have oL := hide (ownsRow_below (unhide oL) k19)
  have oM := hide (ownsRow_below (unhide oM) k19)
  have f0 := hide (ownsRow_below (unhide f0) k19)
  have f1 := hide (ownsRow_below (unhide f1) k19)
  have oK := hide (own_mono n19 (Nat.zero_le _))
  have H19 := hide (laterB (unhide H18) k19)
  clear k19 n19 v19 q19 H18
  clear f0 f1
  have hs2 := hide ((unhide v19').sm (unhide v3'))
  go_wp2_with fail
  refine (eqfl_any _ _ _ _ K L _ (show K.length ≤ 1048576 by rw [(unhide v19').1, ← unhide hNN']; exact (Nat.le_trans (cvN_le l m) (by omega))) (unhide hs2) (fls_ownB (unhide oK)) (fls_ownB (unhide oL))).mono ?_
  rintro e w20 ⟨rfl, k20⟩
  have oL := hide (ownsRow_below (unhide oL) k20)
  have oM := hide (ownsRow_below (unhide oM) k20)
  have oK := hide (ownsRow_below (unhide oK) k20)
  have H20 := hide (laterB (unhide H19) k20)
  clear k20 H19
  go_wp2_with fail
  refine (heldf_any 0 g6 M.length c6 1 ys _ (by omega) (by omega) (by omega) (unhide oM) (unhide hm')).mono ?_
  rintro e w21 ⟨rfl, rfl⟩
  go_wp2
  go_ret
  exact ⟨rfl, unhide H20⟩

end Go.Proofs.Ytdemcjppokhonaa
