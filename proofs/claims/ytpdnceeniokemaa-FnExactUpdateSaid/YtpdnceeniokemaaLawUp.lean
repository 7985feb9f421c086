/-
  For every two lists of assets Update of the program answers as its model does; the lists read behind the call as they read before, and the answers own their memory, behind another call too; no conditions.
-/
import Derived.Test.YtpdnceeniokemaaUs
import Derived.Test.YtpdnceeniokemaaUi
import Derived.Test.YtpdnceeniokemaaMkA
import Derived.Test.YtpdnceeniokemaaSzl
namespace Go.Proofs.Ytpdnceeniokemaa
open Go.RowKit
set_option linter.unusedVariables false
set_option linter.unusedSimpArgs false

set_option maxRecDepth 100000 in
set_option maxHeartbeats 6400000 in
theorem lawUp {W : World} (a : Option Addr) (ca : Nat) (l : List Kl) (hl : l.length ≤ maxLen) (ha : Kls W a l) (hz : SzOk l) (b : Option Addr) (cb : Nat) (m : List Kl) (hm : m.length ≤ maxLen) (hb : Kls W b m) (hy : SzOk m) :
    Calls Try.prog 8 #[.slice a l.length ca, .slice b m.length cb] W fun e w' => e = .returned (.bool true) ∧ Below W.heap.size W w' := by
  have ha' := hide ha
  have hb' := hide hb
  have zl := hide hz
  have zm := hide hy
  have hmm := hide hm
  have cz := hide (szk_any a ca l W hl ha hz 1048576 (by omega) (by omega))
  clear ha hb hz hy hl hm
  go_enter Try.func8, Try.ntmps8
  go_wp2_with fail
  refine (unhide cz).mono ?_
  rintro e u1 ⟨r1, rfl, h1, k1⟩
  rcases h1 with rfl | ⟨p0, p0', pl, sl⟩
  · go_wp2
    go_ret
    exact ⟨rfl, k1⟩
  have gr : decide (r1 < 0) = false := decide_eq_false (by omega)
  have A1 := hide k1
  have sl' := hide sl
  clear k1 cz sl
  have cz := hide (szk_any b cb m u1 (unhide hmm) ((unhide hb').below (unhide A1)) (unhide zm) r1 p0 p0')
  go_wp2_with fail
  refine (unhide cz).mono ?_
  rintro e u2 ⟨r2, rfl, h1, k1⟩
  rcases h1 with rfl | ⟨p1, p1', pm, sm⟩
  · go_wp2
    go_ret
    exact ⟨rfl, laterB (unhide A1) k1⟩
  have gr2 : decide (r2 < 0) = false := decide_eq_false (by omega)
  have H0 := hide (laterB (unhide A1) k1)
  have sm' := hide sm
  clear k1 cz sm A1 hmm
  obtain ⟨L1, hL1⟩ : ∃ L, updS l m = L := ⟨_, rfl⟩
  obtain ⟨L2, hL2⟩ : ∃ L, updG l m = L := ⟨_, rfl⟩
  have hn1 : L1.length ≤ 100 := by rw [← hL1]; exact updS_len l m
  have hn2 : L2.length ≤ 100 := by rw [← hL2]; exact updG_len l m
  have hL1' := hide hL1
  have hL2' := hide hL2
  have q1 : L1.length ≤ 1048576 := by omega
  have q2 : L2.length ≤ 1048576 := by omega
  clear hL1 hL2
  go_wp2_with fail
  refine (tok_any a ca l _ pl ((unhide ha').below (unhide H0))).mono ?_
  rintro e w1 ⟨B1, rfl, q1, n1, k1⟩
  have xa := hide (own_mono n1 (unhide H0).size)
  have H1 := hide (laterB (unhide H0) k1)
  clear H0
  clear k1 n1 q1
  go_wp2_with fail
  refine (tok_any b cb m _ pm ((unhide hb').below (unhide H1))).mono ?_
  rintro e w2 ⟨B2, rfl, q2, n2, k2⟩
  have d_B1_B2 : B1 < B2 := by have := own_lt (unhide xa); omega
  have xb := hide (own_mono n2 (unhide H1).size)
  have xa := hide (ownsRow_below (unhide xa) k2)
  have H2 := hide (laterB (unhide H1) k2)
  clear H1
  clear k2 n2 q2
  go_wp2_with fail
  refine (sup_any _ _ _ _ l m _ pl pm (unhide zl) (unhide zm) (unhide sl') (unhide sm') (kls_own (unhide xa)) (kls_own (unhide xb))).mono ?_
  rintro e w3 hS
  rw [unhide hL1', unhide hL2'] at hS
  obtain ⟨G3, c3, K3, e3, rfl, tt⟩ := hS
  have x3 := own_ge tt.o1
  have y3 := own_ge tt.o2
  have d_B1_G3 : B1 < G3 := by have := own_lt (unhide xa); omega
  have d_B2_G3 : B2 < G3 := by have := own_lt (unhide xb); omega
  have d_B1_K3 : B1 < K3 := by have := own_lt (unhide xa); omega
  have d_B2_K3 : B2 < K3 := by have := own_lt (unhide xb); omega
  have d_G3_K3 := tt.ne
  have k3 := tt.bel
  have Ow1 := hide (own_mono tt.o1 (unhide H2).size)
  have Ow2 := hide (own_mono tt.o2 (unhide H2).size)
  have xa := hide (ownsRow_below (unhide xa) k3)
  have xb := hide (ownsRow_below (unhide xb) k3)
  have H3 := hide (laterB (unhide H2) k3)
  clear H2
  clear k3 tt x3 y3
  clear xa
  clear xb
  go_wp2_with fail
  refine (tok_any a ca l _ pl ((unhide ha').below (unhide H3))).mono ?_
  rintro e w4 ⟨B4, rfl, q4, n4, k4⟩
  have d_G3_B4 : G3 < B4 := by have := own_lt (unhide Ow1); omega
  have d_K3_B4 : K3 < B4 := by have := own_lt (unhide Ow2); omega
  have x0 := hide (own_mono n4 (unhide H3).size)
  have Ow1 := hide (ownsRow_below (unhide Ow1) k4)
  have Ow2 := hide (ownsRow_below (unhide Ow2) k4)
  have H4 := hide (laterB (unhide H3) k4)
  clear H3
  clear k4 n4 q4
  go_wp2_with fail
  refine (tok_any b cb m _ pm ((unhide hb').below (unhide H4))).mono ?_
  rintro e w5 ⟨B5, rfl, q5, n5, k5⟩
  have d_G3_B5 : G3 < B5 := by have := own_lt (unhide Ow1); omega
  have d_K3_B5 : K3 < B5 := by have := own_lt (unhide Ow2); omega
  have d_B4_B5 : B4 < B5 := by have := own_lt (unhide x0); omega
  have x1 := hide (own_mono n5 (unhide H4).size)
  have Ow1 := hide (ownsRow_below (unhide Ow1) k5)
  have Ow2 := hide (ownsRow_below (unhide Ow2) k5)
  have x0 := hide (ownsRow_below (unhide x0) k5)
  have H5 := hide (laterB (unhide H4) k5)
  clear H4
  clear k5 n5 q5
  go_wp2_with fail
  refine (iup_any _ _ _ _ l m _ pl pm (unhide zl) (unhide zm) (unhide sl') (unhide sm') (kls_own (unhide x0)) (kls_own (unhide x1))).mono ?_
  rintro e w6 hS
  rw [unhide hL1', unhide hL2'] at hS
  obtain ⟨G6, c6, K6, e6, rfl, tt⟩ := hS
  have x6 := own_ge tt.o1
  have y6 := own_ge tt.o2
  have d_G3_G6 : G3 < G6 := by have := own_lt (unhide Ow1); omega
  have d_K3_G6 : K3 < G6 := by have := own_lt (unhide Ow2); omega
  have d_B4_G6 : B4 < G6 := by have := own_lt (unhide x0); omega
  have d_B5_G6 : B5 < G6 := by have := own_lt (unhide x1); omega
  have d_G3_K6 : G3 < K6 := by have := own_lt (unhide Ow1); omega
  have d_K3_K6 : K3 < K6 := by have := own_lt (unhide Ow2); omega
  have d_B4_K6 : B4 < K6 := by have := own_lt (unhide x0); omega
  have d_B5_K6 : B5 < K6 := by have := own_lt (unhide x1); omega
  have d_G6_K6 := tt.ne
  have k6 := tt.bel
  have Og1 := hide (own_mono tt.o1 (unhide H5).size)
  have Og2 := hide (own_mono tt.o2 (unhide H5).size)
  have Ow1 := hide (ownsRow_below (unhide Ow1) k6)
  have Ow2 := hide (ownsRow_below (unhide Ow2) k6)
  have x0 := hide (ownsRow_below (unhide x0) k6)
  have x1 := hide (ownsRow_below (unhide x1) k6)
  have H6 := hide (laterB (unhide H5) k6)
  clear H5
  clear k6 tt x6 y6
  go_wp2_with fail
  refine (eqS_any _ _ _ _ L1 _ q1 (sts_own (unhide Og1)) (sts_own (unhide Ow1))).mono ?_
  rintro e w7 ⟨rfl, k7⟩
  have Ow1 := hide (ownsRow_below (unhide Ow1) k7)
  have Ow2 := hide (ownsRow_below (unhide Ow2) k7)
  have x0 := hide (ownsRow_below (unhide x0) k7)
  have x1 := hide (ownsRow_below (unhide x1) k7)
  have Og1 := hide (ownsRow_below (unhide Og1) k7)
  have Og2 := hide (ownsRow_below (unhide Og2) k7)
  have H7 := hide (laterB (unhide H6) k7)
  clear H6
  clear k7
  go_wp2_with fail
  refine (eqS_any _ _ _ _ L2 _ q2 (sts_own (unhide Og2)) (sts_own (unhide Ow2))).mono ?_
  rintro e w8 ⟨rfl, k8⟩
  have Ow1 := hide (ownsRow_below (unhide Ow1) k8)
  have Ow2 := hide (ownsRow_below (unhide Ow2) k8)
  have x0 := hide (ownsRow_below (unhide x0) k8)
  have x1 := hide (ownsRow_below (unhide x1) k8)
  have Og1 := hide (ownsRow_below (unhide Og1) k8)
  have Og2 := hide (ownsRow_below (unhide Og2) k8)
  have H8 := hide (laterB (unhide H7) k8)
  clear H7
  clear k8
  go_wp2_with fail
  refine (tok_any a ca l _ pl ((unhide ha').below (unhide H8))).mono ?_
  rintro e w9 ⟨B9, rfl, q9, n9, k9⟩
  have d_G3_B9 : G3 < B9 := by have := own_lt (unhide Ow1); omega
  have d_K3_B9 : K3 < B9 := by have := own_lt (unhide Ow2); omega
  have d_B4_B9 : B4 < B9 := by have := own_lt (unhide x0); omega
  have d_B5_B9 : B5 < B9 := by have := own_lt (unhide x1); omega
  have d_G6_B9 : G6 < B9 := by have := own_lt (unhide Og1); omega
  have d_K6_B9 : K6 < B9 := by have := own_lt (unhide Og2); omega
  have xc := hide (own_mono n9 (unhide H8).size)
  have Ow1 := hide (ownsRow_below (unhide Ow1) k9)
  have Ow2 := hide (ownsRow_below (unhide Ow2) k9)
  have x0 := hide (ownsRow_below (unhide x0) k9)
  have x1 := hide (ownsRow_below (unhide x1) k9)
  have Og1 := hide (ownsRow_below (unhide Og1) k9)
  have Og2 := hide (ownsRow_below (unhide Og2) k9)
  have H9 := hide (laterB (unhide H8) k9)
  clear H8
  clear k9 n9 q9
  go_wp2_with fail
  refine (eqks_any _ _ _ _ l _ pl (kls_own (unhide x0)) (kls_own (unhide xc))).mono ?_
  rintro e w10 ⟨rfl, k10⟩
  have Ow1 := hide (ownsRow_below (unhide Ow1) k10)
  have Ow2 := hide (ownsRow_below (unhide Ow2) k10)
  have x0 := hide (ownsRow_below (unhide x0) k10)
  have x1 := hide (ownsRow_below (unhide x1) k10)
  have Og1 := hide (ownsRow_below (unhide Og1) k10)
  have Og2 := hide (ownsRow_below (unhide Og2) k10)
  have xc := hide (ownsRow_below (unhide xc) k10)
  have H10 := hide (laterB (unhide H9) k10)
  clear H9
  clear k10
  clear xc
  go_wp2_with fail
  refine (tok_any b cb m _ pm ((unhide hb').below (unhide H10))).mono ?_
  rintro e w11 ⟨B11, rfl, q11, n11, k11⟩
  have d_G3_B11 : G3 < B11 := by have := own_lt (unhide Ow1); omega
  have d_K3_B11 : K3 < B11 := by have := own_lt (unhide Ow2); omega
  have d_B4_B11 : B4 < B11 := by have := own_lt (unhide x0); omega
  have d_B5_B11 : B5 < B11 := by have := own_lt (unhide x1); omega
  have d_G6_B11 : G6 < B11 := by have := own_lt (unhide Og1); omega
  have d_K6_B11 : K6 < B11 := by have := own_lt (unhide Og2); omega
  have xd := hide (own_mono n11 (unhide H10).size)
  have Ow1 := hide (ownsRow_below (unhide Ow1) k11)
  have Ow2 := hide (ownsRow_below (unhide Ow2) k11)
  have x0 := hide (ownsRow_below (unhide x0) k11)
  have x1 := hide (ownsRow_below (unhide x1) k11)
  have Og1 := hide (ownsRow_below (unhide Og1) k11)
  have Og2 := hide (ownsRow_below (unhide Og2) k11)
  have H11 := hide (laterB (unhide H10) k11)
  clear H10
  clear k11 n11 q11
  go_wp2_with fail
  refine (eqks_any _ _ _ _ m _ pm (kls_own (unhide x1)) (kls_own (unhide xd))).mono ?_
  rintro e w12 ⟨rfl, k12⟩
  have Ow1 := hide (ownsRow_below (unhide Ow1) k12)
  have Ow2 := hide (ownsRow_below (unhide Ow2) k12)
  have x0 := hide (ownsRow_below (unhide x0) k12)
  have x1 := hide (ownsRow_below (unhide x1) k12)
  have Og1 := hide (ownsRow_below (unhide Og1) k12)
  have Og2 := hide (ownsRow_below (unhide Og2) k12)
  have xd := hide (ownsRow_below (unhide xd) k12)
  have H12 := hide (laterB (unhide H11) k12)
  clear H11
  clear k12
  clear xd
  go_wp2_with fail
  refine (markA_any _ B4 l.length _ (1) _ _ (by omega) (by omega) (by omega) (unhide x0)).mono ?_
  rintro e w13 ⟨rfl, _, k13⟩
  have Ow1 := hide (own_kept (unhide Ow1) k13 (by omega))
  have Ow2 := hide (own_kept (unhide Ow2) k13 (by omega))
  have x1 := hide (own_kept (unhide x1) k13 (by omega))
  have Og1 := hide (own_kept (unhide Og1) k13 (by omega))
  have Og2 := hide (own_kept (unhide Og2) k13 (by omega))
  have H13 := hide (below_grown (unhide H12) k13 (own_ge (unhide x0)))
  clear k13 H12 x0
  have hk0 : (1 : Int) + l.length * 3 ≤ 100000000 := by omega
  go_wp2_with fail
  refine (markA_any _ B5 m.length _ (1 + l.length * 3) _ _ (by omega) (by omega) (by omega) (unhide x1)).mono ?_
  rintro e w14 ⟨rfl, _, k14⟩
  have Ow1 := hide (own_kept (unhide Ow1) k14 (by omega))
  have Ow2 := hide (own_kept (unhide Ow2) k14 (by omega))
  have Og1 := hide (own_kept (unhide Og1) k14 (by omega))
  have Og2 := hide (own_kept (unhide Og2) k14 (by omega))
  have H14 := hide (below_grown (unhide H13) k14 (own_ge (unhide x1)))
  clear k14 H13 x1
  have hk1 : decide ((1 : Int) + l.length * 3 + m.length * 3 < 0) = false := by simp; omega
  go_wp2_with fail
  refine (eqS_any _ _ _ _ L1 _ q1 (sts_own (unhide Og1)) (sts_own (unhide Ow1))).mono ?_
  rintro e w15 ⟨rfl, k15⟩
  have Ow1 := hide (ownsRow_below (unhide Ow1) k15)
  have Ow2 := hide (ownsRow_below (unhide Ow2) k15)
  have Og1 := hide (ownsRow_below (unhide Og1) k15)
  have Og2 := hide (ownsRow_below (unhide Og2) k15)
  have H15 := hide (laterB (unhide H14) k15)
  clear H14
  clear k15
  go_wp2_with fail
  refine (eqS_any _ _ _ _ L2 _ q2 (sts_own (unhide Og2)) (sts_own (unhide Ow2))).mono ?_
  rintro e w16 ⟨rfl, k16⟩
  have Ow1 := hide (ownsRow_below (unhide Ow1) k16)
  have Ow2 := hide (ownsRow_below (unhide Ow2) k16)
  have Og1 := hide (ownsRow_below (unhide Og1) k16)
  have Og2 := hide (ownsRow_below (unhide Og2) k16)
  have H16 := hide (laterB (unhide H15) k16)
  clear H15
  clear k16
  go_wp2_with fail
  refine (markS_any _ G6 L1.length _ (1) _ _ (by omega) (by omega) (by omega) (unhide Og1)).mono ?_
  rintro e w17 ⟨rfl, ⟨ysOy1, oy, my⟩, k17⟩
  have Oy1 := hide oy
  have mOy1 := hide my
  have Ow1 := hide (own_kept (unhide Ow1) k17 (by omega))
  have Ow2 := hide (own_kept (unhide Ow2) k17 (by omega))
  have Og2 := hide (own_kept (unhide Og2) k17 (by omega))
  have H17 := hide (below_grown (unhide H16) k17 (own_ge (unhide Og1)))
  clear k17 H16 Og1 oy my
  go_wp2_with fail
  refine (markS_any _ K6 L2.length _ (1 + L1.length) _ _ (by omega) (by omega) (by omega) (unhide Og2)).mono ?_
  rintro e w18 ⟨rfl, ⟨ysOy2, oy, my⟩, k18⟩
  have Oy2 := hide oy
  have mOy2 := hide my
  have Ow1 := hide (own_kept (unhide Ow1) k18 (by omega))
  have Ow2 := hide (own_kept (unhide Ow2) k18 (by omega))
  have Oy1 := hide (own_kept (unhide Oy1) k18 (by omega))
  have H18 := hide (below_grown (unhide H17) k18 (own_ge (unhide Og2)))
  clear k18 H17 Og2 oy my
  go_wp2_with fail
  refine (heldS_any _ G6 L1.length _ (1) ysOy1 _ (by omega) (by omega) (by omega) (unhide Oy1) (unhide mOy1)).mono ?_
  rintro e w19 ⟨rfl, k19⟩
  have Ow1 := hide (ownsRow_below (unhide Ow1) k19)
  have Ow2 := hide (ownsRow_below (unhide Ow2) k19)
  have Oy1 := hide (ownsRow_below (unhide Oy1) k19)
  have Oy2 := hide (ownsRow_below (unhide Oy2) k19)
  have H19 := hide (laterB (unhide H18) k19)
  clear H18
  clear k19
  have hq0 : decide ((1 : Int) + L1.length < 0) = false := by simp; omega
  go_wp2_with fail
  refine (heldS_any _ K6 L2.length _ (1 + L1.length) ysOy2 _ (by omega) (by omega) (by omega) (unhide Oy2) (unhide mOy2)).mono ?_
  rintro e w20 ⟨rfl, k20⟩
  have Ow1 := hide (ownsRow_below (unhide Ow1) k20)
  have Ow2 := hide (ownsRow_below (unhide Ow2) k20)
  have Oy1 := hide (ownsRow_below (unhide Oy1) k20)
  have Oy2 := hide (ownsRow_below (unhide Oy2) k20)
  have H20 := hide (laterB (unhide H19) k20)
  clear H19
  clear k20
  have hq2 : decide ((1 : Int) + L1.length + L2.length < 0) = false := by simp; omega
  have hq3 : (((1 : Int) + L1.length + L2.length) != (1 + L1.length + L2.length)) = false := by simp
  go_wp2_with fail
  refine (tok_any a ca l _ pl ((unhide ha').below (unhide H20))).mono ?_
  rintro e w21 ⟨B21, rfl, q21, n21, k21⟩
  have d_G3_B21 : G3 < B21 := by have := own_lt (unhide Ow1); omega
  have d_K3_B21 : K3 < B21 := by have := own_lt (unhide Ow2); omega
  have d_G6_B21 : G6 < B21 := by have := own_lt (unhide Oy1); omega
  have d_K6_B21 : K6 < B21 := by have := own_lt (unhide Oy2); omega
  have xe := hide (own_mono n21 (unhide H20).size)
  have Ow1 := hide (ownsRow_below (unhide Ow1) k21)
  have Ow2 := hide (ownsRow_below (unhide Ow2) k21)
  have Oy1 := hide (ownsRow_below (unhide Oy1) k21)
  have Oy2 := hide (ownsRow_below (unhide Oy2) k21)
  have H21 := hide (laterB (unhide H20) k21)
  clear H20
  clear k21 n21 q21
  go_wp2_with fail
  refine (tok_any b cb m _ pm ((unhide hb').below (unhide H21))).mono ?_
  rintro e w22 ⟨B22, rfl, q22, n22, k22⟩
  have d_G3_B22 : G3 < B22 := by have := own_lt (unhide Ow1); omega
  have d_K3_B22 : K3 < B22 := by have := own_lt (unhide Ow2); omega
  have d_G6_B22 : G6 < B22 := by have := own_lt (unhide Oy1); omega
  have d_K6_B22 : K6 < B22 := by have := own_lt (unhide Oy2); omega
  have d_B21_B22 : B21 < B22 := by have := own_lt (unhide xe); omega
  have xf := hide (own_mono n22 (unhide H21).size)
  have Ow1 := hide (ownsRow_below (unhide Ow1) k22)
  have Ow2 := hide (ownsRow_below (unhide Ow2) k22)
  have Oy1 := hide (ownsRow_below (unhide Oy1) k22)
  have Oy2 := hide (ownsRow_below (unhide Oy2) k22)
  have xe := hide (ownsRow_below (unhide xe) k22)
  have H22 := hide (laterB (unhide H21) k22)
  clear H21
  clear k22 n22 q22
  go_wp2_with fail
  refine (iup_any _ _ _ _ l m _ pl pm (unhide zl) (unhide zm) (unhide sl') (unhide sm') (kls_own (unhide xe)) (kls_own (unhide xf))).mono ?_
  rintro e w23 hS
  rw [unhide hL1', unhide hL2'] at hS
  obtain ⟨G23, c23, K23, e23, rfl, tt⟩ := hS
  have x23 := own_ge tt.o1
  have y23 := own_ge tt.o2
  have d_G3_G23 : G3 < G23 := by have := own_lt (unhide Ow1); omega
  have d_K3_G23 : K3 < G23 := by have := own_lt (unhide Ow2); omega
  have d_G6_G23 : G6 < G23 := by have := own_lt (unhide Oy1); omega
  have d_K6_G23 : K6 < G23 := by have := own_lt (unhide Oy2); omega
  have d_B21_G23 : B21 < G23 := by have := own_lt (unhide xe); omega
  have d_B22_G23 : B22 < G23 := by have := own_lt (unhide xf); omega
  have d_G3_K23 : G3 < K23 := by have := own_lt (unhide Ow1); omega
  have d_K3_K23 : K3 < K23 := by have := own_lt (unhide Ow2); omega
  have d_G6_K23 : G6 < K23 := by have := own_lt (unhide Oy1); omega
  have d_K6_K23 : K6 < K23 := by have := own_lt (unhide Oy2); omega
  have d_B21_K23 : B21 < K23 := by have := own_lt (unhide xe); omega
  have d_B22_K23 : B22 < K23 := by have := own_lt (unhide xf); omega
  have d_G23_K23 := tt.ne
  have k23 := tt.bel
  have Oh1 := hide (own_mono tt.o1 (unhide H22).size)
  have Oh2 := hide (own_mono tt.o2 (unhide H22).size)
  have Ow1 := hide (ownsRow_below (unhide Ow1) k23)
  have Ow2 := hide (ownsRow_below (unhide Ow2) k23)
  have Oy1 := hide (ownsRow_below (unhide Oy1) k23)
  have Oy2 := hide (ownsRow_below (unhide Oy2) k23)
  have xe := hide (ownsRow_below (unhide xe) k23)
  have xf := hide (ownsRow_below (unhide xf) k23)
  have H23 := hide (laterB (unhide H22) k23)
  clear H22
  clear k23 tt x23 y23
  clear xe
  clear xf
  go_wp2_with fail
  refine (eqS_any _ _ _ _ L1 _ q1 (sts_own (unhide Oh1)) (sts_own (unhide Ow1))).mono ?_
  rintro e w24 ⟨rfl, k24⟩
  have Ow1 := hide (ownsRow_below (unhide Ow1) k24)
  have Ow2 := hide (ownsRow_below (unhide Ow2) k24)
  have Oy1 := hide (ownsRow_below (unhide Oy1) k24)
  have Oy2 := hide (ownsRow_below (unhide Oy2) k24)
  have Oh1 := hide (ownsRow_below (unhide Oh1) k24)
  have Oh2 := hide (ownsRow_below (unhide Oh2) k24)
  have H24 := hide (laterB (unhide H23) k24)
  clear H23
  clear k24
  go_wp2_with fail
  refine (eqS_any _ _ _ _ L2 _ q2 (sts_own (unhide Oh2)) (sts_own (unhide Ow2))).mono ?_
  rintro e w25 ⟨rfl, k25⟩
  have Ow1 := hide (ownsRow_below (unhide Ow1) k25)
  have Ow2 := hide (ownsRow_below (unhide Ow2) k25)
  have Oy1 := hide (ownsRow_below (unhide Oy1) k25)
  have Oy2 := hide (ownsRow_below (unhide Oy2) k25)
  have Oh1 := hide (ownsRow_below (unhide Oh1) k25)
  have Oh2 := hide (ownsRow_below (unhide Oh2) k25)
  have H25 := hide (laterB (unhide H24) k25)
  clear H24
  clear k25
  go_wp2_with fail
  refine (heldS_any _ G6 L1.length _ (1) ysOy1 _ (by omega) (by omega) (by omega) (unhide Oy1) (unhide mOy1)).mono ?_
  rintro e w26 ⟨rfl, k26⟩
  have Ow1 := hide (ownsRow_below (unhide Ow1) k26)
  have Ow2 := hide (ownsRow_below (unhide Ow2) k26)
  have Oy1 := hide (ownsRow_below (unhide Oy1) k26)
  have Oy2 := hide (ownsRow_below (unhide Oy2) k26)
  have Oh1 := hide (ownsRow_below (unhide Oh1) k26)
  have Oh2 := hide (ownsRow_below (unhide Oh2) k26)
  have H26 := hide (laterB (unhide H25) k26)
  clear H25
  clear k26
  go_wp2_with fail
  refine (heldS_any _ K6 L2.length _ (1 + L1.length) ysOy2 _ (by omega) (by omega) (by omega) (unhide Oy2) (unhide mOy2)).mono ?_
  rintro e w27 ⟨rfl, k27⟩
  have Ow1 := hide (ownsRow_below (unhide Ow1) k27)
  have Ow2 := hide (ownsRow_below (unhide Ow2) k27)
  have Oy1 := hide (ownsRow_below (unhide Oy1) k27)
  have Oy2 := hide (ownsRow_below (unhide Oy2) k27)
  have Oh1 := hide (ownsRow_below (unhide Oh1) k27)
  have Oh2 := hide (ownsRow_below (unhide Oh2) k27)
  have H27 := hide (laterB (unhide H26) k27)
  clear H26
  clear k27
  go_wp2
  go_ret
  exact ⟨rfl, unhide H27⟩

end Go.Proofs.Ytpdnceeniokemaa
