/-
  For every list of clips and every list of changes Turned of the program answers as its model does, its answer is memory of its own, and the law's arguments read behind the call as they read before; no conditions.
-/
import Derived.Test.YtipabjijbnhhpaaSTn
import Derived.Test.YtipabjijbnhhpaaITn
namespace Go.Proofs.Ytipabjijbnhhpaa
open Go.RowKit
set_option linter.unusedVariables false
set_option linter.unusedSimpArgs false

set_option maxHeartbeats 6400000 in
theorem lawTrn {W : World} (a : Option Addr) (ca : Nat) (l : List Kl) (hl0 : l.length ≤ maxLen) (ha : Kls W a l) (b : Option Addr) (cb : Nat) (cs : List Ch) (hc0 : cs.length ≤ maxLen) (hb : Chs W b cs) :
    Calls Try.prog 4 #[.slice a l.length ca, .slice b cs.length cb] W fun e w' => e = .returned (.bool true) ∧ Below W.heap.size W w' := by
  have ha' := hide ha
  have hb' := hide hb
  clear ha hb
  go_enter Try.func4, Try.ntmps4
  go_wp2_with fail
  refine (szk2_any a l.length ca 1048576 W hl0 (by omega) (by omega)).mono ?_
  rintro e w0 ⟨r, rfl, hr, hw0⟩
  have hw1 := hw0.symm
  subst hw1
  rcases hr with rfl | ⟨hr0, hr9, hl⟩
  · go_wp2
    go_ret
    exact ⟨rfl, Below.refl _ _⟩
  have hr1 : decide (r < 0) = false := by simp; omega
  clear hl0
  go_wp2_with fail
  refine (szc_any b cs.length cb r W hc0 hr0 hr9).mono ?_
  rintro e w0 ⟨r2, rfl, hr2, hw0⟩
  have hw1 := hw0.symm
  subst hw1
  rcases hr2 with rfl | ⟨hr3, hr8, hlc⟩
  · go_wp2
    go_ret
    exact ⟨rfl, Below.refl _ _⟩
  have hr4 : decide (r2 < 0) = false := by simp; omega
  clear hc0
  obtain ⟨R, hR⟩ : ∃ R, R = turnedOf l cs := ⟨_, rfl⟩
  have hR' := hide hR
  obtain ⟨L, hL⟩ : ∃ L, L = outC R := ⟨_, rfl⟩
  obtain ⟨v, hv⟩ : ∃ v, v = R.isSome := ⟨_, rfl⟩
  have hLl : L.length ≤ 100000 := by rw [hL, hR]; exact turned_len l cs
  have hL' := hide hL
  have hv' := hide hv
  have hvv : (v != v) = false := by simp
  clear hR hL hv
  have hmx : l.length ≤ maxLen := by unfold maxLen; omega
  have hmc : cs.length ≤ maxLen := by unfold maxLen; omega
  go_wp2_with fail
  refine (tok_any a ca l _ hl (unhide ha')).mono ?_
  rintro e w0t ⟨B0, rfl, q0, n0, k0⟩
  have oa := hide (own_mono n0 (Nat.zero_le _))
  have H1 := hide (k0)
  have oaB : W.heap.size ≤ B0 := by omega
  clear k0 n0 q0
  have oalt := own_lt (unhide oa)
  go_wp2_with fail
  refine (toc_any b cb cs _ hlc ((unhide hb').below (unhide H1))).mono ?_
  rintro e w1t ⟨B1, rfl, q1, n1, k1⟩
  have oa := hide (ownsRow_below (unhide oa) k1)
  have ob := hide (own_mono n1 (Nat.zero_le _))
  have z1 := (unhide H1).size
  have H2 := hide (laterB (unhide H1) k1)
  have obB : W.heap.size ≤ B1 := by omega
  have oboa : B1 ≠ B0 := by omega
  clear k1 n1 q1
  clear H1
  clear oalt
  have oalt := own_lt (unhide oa)
  have oblt := own_lt (unhide ob)
  go_wp2_with fail
  refine (sturned_any (some ⟨B0, 0, none⟩) (some ⟨B1, 0, none⟩) _ _ l cs _ hmx hmc (kls_own (unhide oa)) (chs_own (unhide ob))).mono ?_
  rintro e w2t hE
  rw [← unhide hR'] at hE
  obtain ⟨g2, c2, rfl, q2, n2, k2⟩ := hE
  rw [← unhide hL'] at n2 ⊢
  rw [← unhide hv']
  have oa := hide (ownsRow_below (unhide oa) k2)
  have ob := hide (ownsRow_below (unhide ob) k2)
  have ow := hide (own_mono n2 (Nat.zero_le _))
  have z2 := (unhide H2).size
  have H3 := hide (laterB (unhide H2) k2)
  have owB : W.heap.size ≤ g2 := by omega
  have owoa : g2 ≠ B0 := by omega
  have owob : g2 ≠ B1 := by omega
  clear k2 n2 q2 H2
  clear oalt oblt
  clear oa ob
  have owlt := own_lt (unhide ow)
  go_wp2_with fail
  refine (tok_any a ca l _ hl ((unhide ha').below (unhide H3))).mono ?_
  rintro e w3t ⟨B3, rfl, q3, n3, k3⟩
  have ow := hide (ownsRow_below (unhide ow) k3)
  have ox := hide (own_mono n3 (Nat.zero_le _))
  have z3 := (unhide H3).size
  have H4 := hide (laterB (unhide H3) k3)
  have oxB : W.heap.size ≤ B3 := by omega
  have oxow : B3 ≠ g2 := by omega
  clear k3 n3 q3
  clear H3
  clear owlt
  have owlt := own_lt (unhide ow)
  have oxlt := own_lt (unhide ox)
  go_wp2_with fail
  refine (toc_any b cb cs _ hlc ((unhide hb').below (unhide H4))).mono ?_
  rintro e w4t ⟨B4, rfl, q4, n4, k4⟩
  have ow := hide (ownsRow_below (unhide ow) k4)
  have ox := hide (ownsRow_below (unhide ox) k4)
  have oc := hide (own_mono n4 (Nat.zero_le _))
  have z4 := (unhide H4).size
  have H5 := hide (laterB (unhide H4) k4)
  have ocB : W.heap.size ≤ B4 := by omega
  have ocow : B4 ≠ g2 := by omega
  have ocox : B4 ≠ B3 := by omega
  clear k4 n4 q4
  clear H4
  clear owlt oxlt
  have owlt := own_lt (unhide ow)
  have oxlt := own_lt (unhide ox)
  have oclt := own_lt (unhide oc)
  go_wp2_with fail
  refine (iturned_any (some ⟨B3, 0, none⟩) (some ⟨B4, 0, none⟩) _ _ l cs _ hmx hmc (kls_own (unhide ox)) (chs_own (unhide oc))).mono ?_
  rintro e w5t hE
  rw [← unhide hR'] at hE
  obtain ⟨g5, c5, rfl, q5, n5, k5⟩ := hE
  rw [← unhide hL'] at n5 ⊢
  rw [← unhide hv']
  have ow := hide (ownsRow_below (unhide ow) k5)
  have ox := hide (ownsRow_below (unhide ox) k5)
  have oc := hide (ownsRow_below (unhide oc) k5)
  have og := hide (own_mono n5 (Nat.zero_le _))
  have z5 := (unhide H5).size
  have H6 := hide (laterB (unhide H5) k5)
  have ogB : W.heap.size ≤ g5 := by omega
  have ogow : g5 ≠ g2 := by omega
  have ogox : g5 ≠ B3 := by omega
  have ogoc : g5 ≠ B4 := by omega
  clear k5 n5 q5 H5
  clear owlt oxlt oclt
  go_wp2_with fail
  refine (eqcs_any _ _ _ _ L _ (by omega) (chs_own (unhide og)) (chs_own (unhide ow))).mono ?_
  rintro e w6t ⟨rfl, k6⟩
  have ow := hide (ownsRow_below (unhide ow) k6)
  have ox := hide (ownsRow_below (unhide ox) k6)
  have oc := hide (ownsRow_below (unhide oc) k6)
  have og := hide (ownsRow_below (unhide og) k6)
  have H7 := hide (laterB (unhide H6) k6)
  clear k6 H6
  have owlt := own_lt (unhide ow)
  have oxlt := own_lt (unhide ox)
  have oclt := own_lt (unhide oc)
  have oglt := own_lt (unhide og)
  go_wp2_with fail
  refine (tok_any a ca l _ hl ((unhide ha').below (unhide H7))).mono ?_
  rintro e w7t ⟨B7, rfl, q7, n7, k7⟩
  have ow := hide (ownsRow_below (unhide ow) k7)
  have ox := hide (ownsRow_below (unhide ox) k7)
  have oc := hide (ownsRow_below (unhide oc) k7)
  have og := hide (ownsRow_below (unhide og) k7)
  have od := hide (own_mono n7 (Nat.zero_le _))
  have z7 := (unhide H7).size
  have H8 := hide (laterB (unhide H7) k7)
  have odB : W.heap.size ≤ B7 := by omega
  have odow : B7 ≠ g2 := by omega
  have odox : B7 ≠ B3 := by omega
  have odoc : B7 ≠ B4 := by omega
  have odog : B7 ≠ g5 := by omega
  clear k7 n7 q7
  clear H7
  clear owlt oxlt oclt oglt
  go_wp2_with fail
  refine (eqks_any _ _ _ _ l _ hl (kls_own (unhide ox)) (kls_own (unhide od))).mono ?_
  rintro e w8t ⟨rfl, k8⟩
  have ow := hide (ownsRow_below (unhide ow) k8)
  have ox := hide (ownsRow_below (unhide ox) k8)
  have oc := hide (ownsRow_below (unhide oc) k8)
  have og := hide (ownsRow_below (unhide og) k8)
  have od := hide (ownsRow_below (unhide od) k8)
  have H9 := hide (laterB (unhide H8) k8)
  clear k8 H8
  clear od
  have owlt := own_lt (unhide ow)
  have oxlt := own_lt (unhide ox)
  have oclt := own_lt (unhide oc)
  have oglt := own_lt (unhide og)
  go_wp2_with fail
  refine (toc_any b cb cs _ hlc ((unhide hb').below (unhide H9))).mono ?_
  rintro e w9t ⟨B9, rfl, q9, n9, k9⟩
  have ow := hide (ownsRow_below (unhide ow) k9)
  have ox := hide (ownsRow_below (unhide ox) k9)
  have oc := hide (ownsRow_below (unhide oc) k9)
  have og := hide (ownsRow_below (unhide og) k9)
  have oe := hide (own_mono n9 (Nat.zero_le _))
  have z9 := (unhide H9).size
  have H10 := hide (laterB (unhide H9) k9)
  have oeB : W.heap.size ≤ B9 := by omega
  have oeow : B9 ≠ g2 := by omega
  have oeox : B9 ≠ B3 := by omega
  have oeoc : B9 ≠ B4 := by omega
  have oeog : B9 ≠ g5 := by omega
  clear k9 n9 q9
  clear H9
  clear owlt oxlt oclt oglt
  go_wp2_with fail
  refine (eqcs_any _ _ _ _ cs _ hlc (chs_own (unhide oc)) (chs_own (unhide oe))).mono ?_
  rintro e w10t ⟨rfl, k10⟩
  have ow := hide (ownsRow_below (unhide ow) k10)
  have ox := hide (ownsRow_below (unhide ox) k10)
  have oc := hide (ownsRow_below (unhide oc) k10)
  have og := hide (ownsRow_below (unhide og) k10)
  have oe := hide (ownsRow_below (unhide oe) k10)
  have H11 := hide (laterB (unhide H10) k10)
  clear k10 H10
  clear oe
  go_wp2_with fail
  refine (markk_any 0 B3 l.length l.length 1 _ _ (by omega) (by omega) (by omega) (unhide ox)).mono ?_
  rintro e w11t ⟨rfl, _, k11⟩
  have ow := hide (own_kept (unhide ow) k11 (by omega))
  have oc := hide (own_kept (unhide oc) k11 (by omega))
  have og := hide (own_kept (unhide og) k11 (by omega))
  have H12 := hide (below_grown (unhide H11) k11 oxB)
  clear k11 H11
  clear ox
  go_wp2_with fail
  refine (markc_any 0 B4 cs.length cs.length (1 + l.length * 3) _ _ (by omega) (by omega) (by omega) (unhide oc)).mono ?_
  rintro e w12t ⟨rfl, _, k12⟩
  have ow := hide (own_kept (unhide ow) k12 (by omega))
  have og := hide (own_kept (unhide og) k12 (by omega))
  have H13 := hide (below_grown (unhide H12) k12 ocB)
  clear k12 H12
  clear oc
  have t1 : decide ((1 : Int) + (l.length : Int) * 3 + (cs.length : Int) * 4 < 0) = false := by simp; omega
  go_wp2_with fail
  refine (eqcs_any _ _ _ _ L _ (by omega) (chs_own (unhide og)) (chs_own (unhide ow))).mono ?_
  rintro e w13t ⟨rfl, k13⟩
  have ow := hide (ownsRow_below (unhide ow) k13)
  have og := hide (ownsRow_below (unhide og) k13)
  have H14 := hide (laterB (unhide H13) k13)
  clear k13 H13
  go_wp2_with fail
  refine (markc_any 0 g5 L.length c5 1 _ _ (by omega) (by omega) (by omega) (unhide og)).mono ?_
  rintro e w14t ⟨rfl, ⟨ys, hy, hm⟩, k14⟩
  have ow := hide (own_kept (unhide ow) k14 (by omega))
  have og := hide hy
  have hm' := hide hm
  have H15 := hide (below_grown (unhide H14) k14 ogB)
  clear k14 H14 hy hm
  go_wp2_with fail
  refine (heldc_any 0 g5 L.length c5 1 ys _ (by omega) (by omega) (by omega) (unhide og) (unhide hm')).mono ?_
  rintro e wh ⟨rfl, rfl⟩
  have t2 : decide ((1 : Int) + (L.length : Int) * 4 < 0) = false := by simp; omega
  have owlt := own_lt (unhide ow)
  have oglt := own_lt (unhide og)
  go_wp2_with fail
  refine (tok_any a ca l _ hl ((unhide ha').below (unhide H15))).mono ?_
  rintro e w15t ⟨B15, rfl, q15, n15, k15⟩
  have ow := hide (ownsRow_below (unhide ow) k15)
  have og := hide (ownsRow_below (unhide og) k15)
  have oh := hide (own_mono n15 (Nat.zero_le _))
  have z15 := (unhide H15).size
  have H16 := hide (laterB (unhide H15) k15)
  have ohB : W.heap.size ≤ B15 := by omega
  have ohow : B15 ≠ g2 := by omega
  have ohog : B15 ≠ g5 := by omega
  clear k15 n15 q15
  clear H15
  clear owlt oglt
  have owlt := own_lt (unhide ow)
  have oglt := own_lt (unhide og)
  have ohlt := own_lt (unhide oh)
  go_wp2_with fail
  refine (toc_any b cb cs _ hlc ((unhide hb').below (unhide H16))).mono ?_
  rintro e w16t ⟨B16, rfl, q16, n16, k16⟩
  have ow := hide (ownsRow_below (unhide ow) k16)
  have og := hide (ownsRow_below (unhide og) k16)
  have oh := hide (ownsRow_below (unhide oh) k16)
  have oi := hide (own_mono n16 (Nat.zero_le _))
  have z16 := (unhide H16).size
  have H17 := hide (laterB (unhide H16) k16)
  have oiB : W.heap.size ≤ B16 := by omega
  have oiow : B16 ≠ g2 := by omega
  have oiog : B16 ≠ g5 := by omega
  have oioh : B16 ≠ B15 := by omega
  clear k16 n16 q16
  clear H16
  clear owlt oglt ohlt
  have owlt := own_lt (unhide ow)
  have oglt := own_lt (unhide og)
  have ohlt := own_lt (unhide oh)
  have oilt := own_lt (unhide oi)
  go_wp2_with fail
  refine (iturned_any (some ⟨B15, 0, none⟩) (some ⟨B16, 0, none⟩) _ _ l cs _ hmx hmc (kls_own (unhide oh)) (chs_own (unhide oi))).mono ?_
  rintro e w17t hE
  rw [← unhide hR'] at hE
  obtain ⟨g17, c17, rfl, q17, n17, k17⟩ := hE
  rw [← unhide hL'] at n17 ⊢
  rw [← unhide hv']
  have ow := hide (ownsRow_below (unhide ow) k17)
  have og := hide (ownsRow_below (unhide og) k17)
  have oh := hide (ownsRow_below (unhide oh) k17)
  have oi := hide (ownsRow_below (unhide oi) k17)
  have oj := hide (own_mono n17 (Nat.zero_le _))
  have z17 := (unhide H17).size
  have H18 := hide (laterB (unhide H17) k17)
  have ojB : W.heap.size ≤ g17 := by omega
  have ojow : g17 ≠ g2 := by omega
  have ojog : g17 ≠ g5 := by omega
  have ojoh : g17 ≠ B15 := by omega
  have ojoi : g17 ≠ B16 := by omega
  clear k17 n17 q17 H17
  clear owlt oglt ohlt oilt
  clear oh oi
  go_wp2_with fail
  refine (eqcs_any _ _ _ _ L _ (by omega) (chs_own (unhide oj)) (chs_own (unhide ow))).mono ?_
  rintro e w18t ⟨rfl, k18⟩
  have ow := hide (ownsRow_below (unhide ow) k18)
  have og := hide (ownsRow_below (unhide og) k18)
  have oj := hide (ownsRow_below (unhide oj) k18)
  have H19 := hide (laterB (unhide H18) k18)
  clear k18 H18
  go_wp2_with fail
  refine (heldc_any 0 g5 L.length c5 1 ys _ (by omega) (by omega) (by omega) (unhide og) (unhide hm')).mono ?_
  rintro e wh ⟨rfl, rfl⟩
  go_wp2
  go_ret
  exact ⟨rfl, unhide H19⟩

end Go.Proofs.Ytipabjijbnhhpaa
