/-
  For any two lists of samples Merge of the program answers as its model does, its answer is memory of its own, and the law's arguments read behind the call as they read before; no conditions.
-/
import Derived.Test.YtmpbcmpjfcddoaaSMg
import Derived.Test.YtmpbcmpjfcddoaaIMg
namespace Go.Proofs.Ytmpbcmpjfcddoaa
open Go.RowKit
set_option linter.unusedVariables false
set_option linter.unusedSimpArgs false
namespace D

set_option maxHeartbeats 400000 in
theorem szg_any (a : Option Addr) (len cap : Nat) (R : Int) (w : World) (hl : len ≤ maxLen) (h0 : 0 ≤ R) (h1 : R ≤ 1048576) :
    Calls Try.prog 12 #[.slice a len cap, .int .i64 R] w fun e w' => ∃ r, e = .returned (.int .i64 r) ∧ (r = -1 ∨ (0 ≤ r ∧ r ≤ 1048576 ∧ len ≤ 1048576)) ∧ w' = w := by
  unfold maxLen at hl
  have tw : IntKind.i64.wrap (R - len) = R - len := by rw [IntKind.wrap_i64]; omega
  by_cases h : R - len < 0
  · have td : decide (R - (len : Int) < 0) = true := by simpa using h
    go_enter Try.func12, Try.ntmps12
    go_wp2
    go_ret
    exact ⟨_, rfl, by omega, rfl⟩
  · have td : decide (R - (len : Int) < 0) = false := by simpa using h
    go_enter Try.func12, Try.ntmps12
    go_wp2
    go_ret
    exact ⟨_, rfl, by omega, rfl⟩
theorem mrg_len (l m : List Kl) : (mrg l m).length ≤ 200 := by
  unfold mrg
  split
  · rename_i h
    simp at h
    rw [srt_len, List.length_append]; omega
  · simp

set_option maxRecDepth 100000 in
set_option maxHeartbeats 3200000 in
theorem lawMerge {W : World} (a : Option Addr) (ca : Nat) (l : List Kl) (hl0 : l.length ≤ maxLen) (ha : Kls W a l) (b : Option Addr) (cb : Nat) (m : List Kl) (hm0 : m.length ≤ maxLen) (hb : Kls W b m) :
    Calls Try.prog 5 #[.slice a l.length ca, .slice b m.length cb] W fun e w' => e = .returned (.bool true) ∧ Below W.heap.size W w' := by
  have ha' := hide ha
  have hb' := hide hb
  clear ha hb
  go_enter Try.func5, Try.ntmps5
  go_wp2_with fail
  refine (szg_any a l.length ca 1048576 W hl0 (by omega) (by omega)).mono ?_
  rintro e w0 ⟨r, rfl, hr, hw0⟩
  have hw1 := hw0.symm
  subst hw1
  rcases hr with rfl | ⟨hr0, hr1, hl⟩
  · go_wp2
    go_ret
    exact ⟨rfl, Below.refl _ _⟩
  have hrd : decide (r < 0) = false := by simp; omega
  clear hl0
  go_wp2_with fail
  refine (szg_any b m.length cb r W hm0 hr0 hr1).mono ?_
  rintro e w0 ⟨r2, rfl, hr, hw0⟩
  have hw1 := hw0.symm
  subst hw1
  rcases hr with rfl | ⟨hr2, hr3, hm⟩
  · go_wp2
    go_ret
    exact ⟨rfl, Below.refl _ _⟩
  have hrd2 : decide (r2 < 0) = false := by simp; omega
  clear hm0
  obtain ⟨L, hL⟩ : ∃ L, mrg l m = L := ⟨_, rfl⟩
  have hLl : L.length ≤ 200 := by rw [← hL]; exact mrg_len _ _
  have hL' := hide hL
  have H0 : Hid (Below W.heap.size W W) := hide (Below.refl _ _)
  clear hL
  go_wp2_with fail
  refine (tok_any a ca l _ hl ((unhide ha').below (unhide H0))).mono ?_
  rintro e w1 ⟨B1, rfl, q1, n1, k1⟩
  have o1 := hide (own_mono n1 (Nat.zero_le _))
  have H1 := hide (laterB (unhide H0) k1)
  have z1 := (unhide H0).size
  clear k1 n1 H0
  go_wp2_with fail
  refine (tok_any b cb m _ hm ((unhide hb').below (unhide H1))).mono ?_
  rintro e w2 ⟨B2, rfl, q2, n2, k2⟩
  have l2o1 := own_lt (unhide o1)
  have o1 := hide (ownsRow_below (unhide o1) k2)
  have o2 := hide (own_mono n2 (Nat.zero_le _))
  have H2 := hide (laterB (unhide H1) k2)
  have z2 := (unhide H1).size
  clear k2 n2 H1
  go_wp2_with fail
  refine (smerge_any 0 _ _ _ _ _ _ l m _ (unhide o1) (unhide o2) (by omega) (by omega)).mono ?_
  rintro e w3 hE
  rw [unhide hL'] at hE
  obtain ⟨g3, c3, N, rfl, rfl, n3, k3⟩ := hE
  have q3 := own_ge n3
  have l3o1 := own_lt (unhide o1)
  have l3o2 := own_lt (unhide o2)
  have o1 := hide (ownsRow_below (unhide o1) k3)
  have o2 := hide (ownsRow_below (unhide o2) k3)
  have ow := hide (own_mono n3 (Nat.zero_le _))
  have H3 := hide (laterB (unhide H2) k3)
  have z3 := (unhide H2).size
  clear k3 n3 H2
  clear o1 o2
  go_wp2_with fail
  refine (tok_any a ca l _ hl ((unhide ha').below (unhide H3))).mono ?_
  rintro e w4 ⟨B4, rfl, q4, n4, k4⟩
  have l4ow := own_lt (unhide ow)
  have ow := hide (ownsRow_below (unhide ow) k4)
  have ox := hide (own_mono n4 (Nat.zero_le _))
  have H4 := hide (laterB (unhide H3) k4)
  have z4 := (unhide H3).size
  clear k4 n4 H3
  go_wp2_with fail
  refine (tok_any b cb m _ hm ((unhide hb').below (unhide H4))).mono ?_
  rintro e w5 ⟨B5, rfl, q5, n5, k5⟩
  have l5ow := own_lt (unhide ow)
  have l5ox := own_lt (unhide ox)
  have ow := hide (ownsRow_below (unhide ow) k5)
  have ox := hide (ownsRow_below (unhide ox) k5)
  have oy := hide (own_mono n5 (Nat.zero_le _))
  have H5 := hide (laterB (unhide H4) k5)
  have z5 := (unhide H4).size
  clear k5 n5 H4
  go_wp2_with fail
  refine (imerge_any 0 _ _ _ _ _ _ l m _ (unhide ox) (unhide oy) (by omega) (by omega)).mono ?_
  rintro e w6 hE
  rw [unhide hL'] at hE
  obtain ⟨g6, c6, N, rfl, rfl, n6, k6⟩ := hE
  have q6 := own_ge n6
  have l6ow := own_lt (unhide ow)
  have l6ox := own_lt (unhide ox)
  have l6oy := own_lt (unhide oy)
  have ow := hide (ownsRow_below (unhide ow) k6)
  have ox := hide (ownsRow_below (unhide ox) k6)
  have oy := hide (ownsRow_below (unhide oy) k6)
  have og := hide (own_mono n6 (Nat.zero_le _))
  have H6 := hide (laterB (unhide H5) k6)
  have z6 := (unhide H5).size
  clear k6 n6 H5
  go_wp2_with fail
  refine (eqks_any _ _ _ _ L _ (by omega) (kls_own (unhide og)) (kls_own (unhide ow))).mono ?_
  rintro e w7 ⟨rfl, k7⟩
  have ow := hide (ownsRow_below (unhide ow) k7)
  have ox := hide (ownsRow_below (unhide ox) k7)
  have oy := hide (ownsRow_below (unhide oy) k7)
  have og := hide (ownsRow_below (unhide og) k7)
  have H7 := hide (laterB (unhide H6) k7)
  clear k7 H6
  go_wp2_with fail
  refine (tok_any a ca l _ hl ((unhide ha').below (unhide H7))).mono ?_
  rintro e w8 ⟨B8, rfl, q8, n8, k8⟩
  have l8ow := own_lt (unhide ow)
  have l8ox := own_lt (unhide ox)
  have l8oy := own_lt (unhide oy)
  have l8og := own_lt (unhide og)
  have ow := hide (ownsRow_below (unhide ow) k8)
  have ox := hide (ownsRow_below (unhide ox) k8)
  have oy := hide (ownsRow_below (unhide oy) k8)
  have og := hide (ownsRow_below (unhide og) k8)
  have o8 := hide (own_mono n8 (Nat.zero_le _))
  have H8 := hide (laterB (unhide H7) k8)
  have z8 := (unhide H7).size
  clear k8 n8 H7
  go_wp2_with fail
  refine (eqks_any _ _ _ _ l _ hl (kls_own (unhide ox)) (kls_own (unhide o8))).mono ?_
  rintro e w9 ⟨rfl, k9⟩
  have ow := hide (ownsRow_below (unhide ow) k9)
  have ox := hide (ownsRow_below (unhide ox) k9)
  have oy := hide (ownsRow_below (unhide oy) k9)
  have og := hide (ownsRow_below (unhide og) k9)
  have o8 := hide (ownsRow_below (unhide o8) k9)
  have H9 := hide (laterB (unhide H8) k9)
  clear k9 H8
  clear o8
  go_wp2_with fail
  refine (tok_any b cb m _ hm ((unhide hb').below (unhide H9))).mono ?_
  rintro e w10 ⟨B10, rfl, q10, n10, k10⟩
  have l10ow := own_lt (unhide ow)
  have l10ox := own_lt (unhide ox)
  have l10oy := own_lt (unhide oy)
  have l10og := own_lt (unhide og)
  have ow := hide (ownsRow_below (unhide ow) k10)
  have ox := hide (ownsRow_below (unhide ox) k10)
  have oy := hide (ownsRow_below (unhide oy) k10)
  have og := hide (ownsRow_below (unhide og) k10)
  have o10 := hide (own_mono n10 (Nat.zero_le _))
  have H10 := hide (laterB (unhide H9) k10)
  have z10 := (unhide H9).size
  clear k10 n10 H9
  go_wp2_with fail
  refine (eqks_any _ _ _ _ m _ hm (kls_own (unhide oy)) (kls_own (unhide o10))).mono ?_
  rintro e w11 ⟨rfl, k11⟩
  have ow := hide (ownsRow_below (unhide ow) k11)
  have ox := hide (ownsRow_below (unhide ox) k11)
  have oy := hide (ownsRow_below (unhide oy) k11)
  have og := hide (ownsRow_below (unhide og) k11)
  have o10 := hide (ownsRow_below (unhide o10) k11)
  have H11 := hide (laterB (unhide H10) k11)
  clear k11 H10
  clear o10
  have dxy : B4 ≠ B5 := by omega
  have dxw : g3 ≠ B4 := by omega
  have dyw : g3 ≠ B5 := by omega
  have dxg : g6 ≠ B4 := by omega
  have dyg : g6 ≠ B5 := by omega
  have dgw : g3 ≠ g6 := by omega
  have WB4 : W.heap.size ≤ B4 := by omega
  have WB5 : W.heap.size ≤ B5 := by omega
  have WB6 : W.heap.size ≤ g6 := by omega
  go_wp2_with fail
  refine (markk_any 0 B4 l.length l.length 1 _ _ (by omega) (by omega) (by omega) (unhide ox)).mono ?_
  rintro e w12 ⟨rfl, _, k12⟩
  have ow := hide (own_kept (unhide ow) k12 dxw)
  have og := hide (own_kept (unhide og) k12 dxg)
  have oy := hide (own_kept (unhide oy) k12 (Ne.symm dxy))
  have H12 := hide (below_grown (unhide H11) k12 WB4)
  clear k12 H11 ox
  go_wp2_with fail
  refine (markk_any 0 B5 m.length m.length (1 + (l.length : Int) * 5) _ _ (by omega) (by omega) (by omega) (unhide oy)).mono ?_
  rintro e w13 ⟨rfl, _, k13⟩
  have ow := hide (own_kept (unhide ow) k13 dyw)
  have og := hide (own_kept (unhide og) k13 dyg)
  have H13 := hide (below_grown (unhide H12) k13 WB5)
  clear k13 H12 oy
  have t1 : decide ((1 : Int) + (l.length : Int) * 5 + (m.length : Int) * 5 < 0) = false := by simp; omega
  go_wp2_with fail
  refine (eqks_any _ _ _ _ L _ (by omega) (kls_own (unhide og)) (kls_own (unhide ow))).mono ?_
  rintro e w14 ⟨rfl, k14⟩
  have ow := hide (ownsRow_below (unhide ow) k14)
  have og := hide (ownsRow_below (unhide og) k14)
  have H14 := hide (laterB (unhide H13) k14)
  clear k14 H13
  go_wp2_with fail
  refine (markk_any 0 g6 L.length c6 1 _ _ (by omega) (by omega) (by omega) (unhide og)).mono ?_
  rintro e w15 ⟨rfl, ⟨ys, hy, hmk⟩, k15⟩
  have ow := hide (own_kept (unhide ow) k15 dgw)
  have og := hide hy
  have hm' := hide hmk
  have H15 := hide (below_grown (unhide H14) k15 WB6)
  clear k15 H14 hy hmk
  go_wp2_with fail
  refine (heldk_any 0 g6 L.length c6 1 ys _ (by omega) (by omega) (by omega) (unhide og) (unhide hm')).mono ?_
  rintro e w16 ⟨rfl, rfl⟩
  have t2 : decide ((1 : Int) + (L.length : Int) * 5 < 0) = false := by simp; omega
  go_wp2_with fail
  refine (tok_any a ca l _ hl ((unhide ha').below (unhide H15))).mono ?_
  rintro e w17 ⟨B17, rfl, q17, n17, k17⟩
  have l17ow := own_lt (unhide ow)
  have l17og := own_lt (unhide og)
  have ow := hide (ownsRow_below (unhide ow) k17)
  have og := hide (ownsRow_below (unhide og) k17)
  have o17 := hide (own_mono n17 (Nat.zero_le _))
  have H17 := hide (laterB (unhide H15) k17)
  have z17 := (unhide H15).size
  clear k17 n17 H15
  go_wp2_with fail
  refine (tok_any b cb m _ hm ((unhide hb').below (unhide H17))).mono ?_
  rintro e w18 ⟨B18, rfl, q18, n18, k18⟩
  have l18ow := own_lt (unhide ow)
  have l18og := own_lt (unhide og)
  have l18o17 := own_lt (unhide o17)
  have ow := hide (ownsRow_below (unhide ow) k18)
  have og := hide (ownsRow_below (unhide og) k18)
  have o17 := hide (ownsRow_below (unhide o17) k18)
  have o18 := hide (own_mono n18 (Nat.zero_le _))
  have H18 := hide (laterB (unhide H17) k18)
  have z18 := (unhide H17).size
  clear k18 n18 H17
  go_wp2_with fail
  refine (imerge_any 0 _ _ _ _ _ _ l m _ (unhide o17) (unhide o18) (by omega) (by omega)).mono ?_
  rintro e w19 hE
  rw [unhide hL'] at hE
  obtain ⟨g19, c19, N, rfl, rfl, n19, k19⟩ := hE
  have q19 := own_ge n19
  have l19ow := own_lt (unhide ow)
  have l19og := own_lt (unhide og)
  have l19o17 := own_lt (unhide o17)
  have l19o18 := own_lt (unhide o18)
  have ow := hide (ownsRow_below (unhide ow) k19)
  have og := hide (ownsRow_below (unhide og) k19)
  have o17 := hide (ownsRow_below (unhide o17) k19)
  have o18 := hide (ownsRow_below (unhide o18) k19)
  have oh := hide (own_mono n19 (Nat.zero_le _))
  have H19 := hide (laterB (unhide H18) k19)
  have z19 := (unhide H18).size
  clear k19 n19 H18
  clear o17 o18
  go_wp2_with fail
  refine (eqks_any _ _ _ _ L _ (by omega) (kls_own (unhide oh)) (kls_own (unhide ow))).mono ?_
  rintro e w20 ⟨rfl, k20⟩
  have ow := hide (ownsRow_below (unhide ow) k20)
  have og := hide (ownsRow_below (unhide og) k20)
  have oh := hide (ownsRow_below (unhide oh) k20)
  have H20 := hide (laterB (unhide H19) k20)
  clear k20 H19
  clear oh ow
  go_wp2_with fail
  refine (heldk_any 0 g6 L.length c6 1 ys _ (by omega) (by omega) (by omega) (unhide og) (unhide hm')).mono ?_
  rintro e w21 ⟨rfl, rfl⟩
  go_wp2
  go_ret
  exact ⟨rfl, unhide H20⟩

end D
end Go.Proofs.Ytmpbcmpjfcddoaa
