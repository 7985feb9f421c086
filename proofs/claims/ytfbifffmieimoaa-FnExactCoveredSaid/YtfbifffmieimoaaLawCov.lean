/-
  For every two lists of reels Covered of the program answers as its model does, and the law's arguments read behind the call as they read before; no conditions.
-/
import Derived.Test.YtfbifffmieimoaaLawMis
namespace Go.Proofs.Ytfbifffmieimoaa.Rl
open Go.RowKit
open Go.Proofs.Ytfbifffmieimoaa
set_option linter.unusedVariables false
set_option linter.unusedSimpArgs false

set_option maxHeartbeats 6400000 in
theorem lawCov {W : World} (a : Option Addr) (ca : Nat) (l : List Kl) (hl0 : l.length ≤ maxLen) (ha : Kls W a l) (b : Option Addr) (cb : Nat) (cs : List Kl) (hc0 : cs.length ≤ maxLen) (hb : Kls W b cs) :
    Calls Try.prog 7 #[.slice a l.length ca, .slice b cs.length cb] W fun e w' => e = .returned (.bool true) ∧ Below W.heap.size W w' := by
  have ha' := hide ha
  have hb' := hide hb
  clear ha hb
  go_enter Try.func7, Try.ntmps7
  go_wp2_with fail
  refine (szk2_any a l.length ca 1048576 W hl0 (by omega) (by omega)).mono ?_
  rintro e w0 ⟨r, rfl, hr, hw0⟩
  have hw1 := hw0.symm
  subst hw1
  rcases hr with rfl | ⟨hr0, hr9, hl⟩
  · go_wp2
    go_ret
    exact ⟨rfl, Below.refl _ _⟩
  have hr1 : decide (r < 0) = false := by simp; omega
  clear hl0
  go_wp2_with fail
  refine (szk2_any b cs.length cb r W hc0 hr0 hr9).mono ?_
  rintro e w0 ⟨r2, rfl, hr2, hw0⟩
  have hw1 := hw0.symm
  subst hw1
  rcases hr2 with rfl | ⟨hr3, hr8, hlc⟩
  · go_wp2
    go_ret
    exact ⟨rfl, Below.refl _ _⟩
  have hr4 : decide (r2 < 0) = false := by simp; omega
  clear hc0
  have hmx : l.length ≤ maxLen := by unfold maxLen; omega
  have hmc : cs.length ≤ maxLen := by unfold maxLen; omega
  obtain ⟨V, hV⟩ : ∃ V, V = covOf l cs := ⟨_, rfl⟩
  have hV' := hide hV
  have e1 : (V != V) = false := by simp
  clear hV
  go_wp2_with fail
  refine (tok_any a ca l _ hl (unhide ha')).mono ?_
  rintro e w0t ⟨B0, rfl, q0, n0, k0⟩
  have oa := hide (own_mono n0 (Nat.zero_le _))
  have H1 := hide (k0)
  have oaB : W.heap.size ≤ B0 := by omega
  clear k0 n0 q0
  have oalt := own_lt (unhide oa)
  go_wp2_with fail
  refine (tok_any b cb cs _ hlc ((unhide hb').below (unhide H1))).mono ?_
  rintro e w1t ⟨B1, rfl, q1, n1, k1⟩
  have oa := hide (ownsRow_below (unhide oa) k1)
  have ob := hide (own_mono n1 (Nat.zero_le _))
  have z1 := (unhide H1).size
  have H2 := hide (laterB (unhide H1) k1)
  have obB : W.heap.size ≤ B1 := by omega
  have oboa : B1 ≠ B0 := by omega
  clear k1 n1 q1
  clear H1
  clear oalt
  have oalt := own_lt (unhide oa)
  have oblt := own_lt (unhide ob)
  go_wp2_with fail
  refine (scov_any (some ⟨B0, 0, none⟩) (some ⟨B1, 0, none⟩) _ _ l cs _ hmx hmc (kls_own (unhide oa)) (kls_own (unhide ob))).mono ?_
  rintro e w2t ⟨rfl, k2⟩
  have H3 := hide (laterB (unhide H2) k2)
  clear k2 H2 oalt oblt oa ob
  go_wp2_with fail
  refine (tok_any a ca l _ hl ((unhide ha').below (unhide H3))).mono ?_
  rintro e w3t ⟨B3, rfl, q3, n3, k3⟩
  have ox := hide (own_mono n3 (Nat.zero_le _))
  have H4 := hide (laterB (unhide H3) k3)
  clear k3 n3 q3 H3
  go_wp2_with fail
  refine (tok_any b cb cs _ hlc ((unhide hb').below (unhide H4))).mono ?_
  rintro e w4t ⟨B4, rfl, q4, n4, k4⟩
  have ox := hide (ownsRow_below (unhide ox) k4)
  have oc := hide (own_mono n4 (Nat.zero_le _))
  have H5 := hide (laterB (unhide H4) k4)
  clear k4 n4 q4 H4
  go_wp2_with fail
  refine (icov_any (some ⟨B3, 0, none⟩) (some ⟨B4, 0, none⟩) _ _ l cs _ hmx hmc (kls_own (unhide ox)) (kls_own (unhide oc))).mono ?_
  rintro e w5t ⟨rfl, k5⟩
  have ox := hide (ownsRow_below (unhide ox) k5)
  have oc := hide (ownsRow_below (unhide oc) k5)
  have H6 := hide (laterB (unhide H5) k5)
  clear k5 H5
  rw [← unhide hV']
  go_wp2_with fail
  refine (tok_any a ca l _ hl ((unhide ha').below (unhide H6))).mono ?_
  rintro e w7t ⟨B7, rfl, q7, n7, k7⟩
  have ox := hide (ownsRow_below (unhide ox) k7)
  have oc := hide (ownsRow_below (unhide oc) k7)
  have od := hide (own_mono n7 (Nat.zero_le _))
  have H7 := hide (laterB (unhide H6) k7)
  clear k7 n7 q7 H6
  go_wp2_with fail
  refine (eqks_any _ _ _ _ l _ hl (kls_own (unhide ox)) (kls_own (unhide od))).mono ?_
  rintro e w8t ⟨rfl, k8⟩
  have oc := hide (ownsRow_below (unhide oc) k8)
  have H8 := hide (laterB (unhide H7) k8)
  clear k8 H7 od ox
  go_wp2_with fail
  refine (tok_any b cb cs _ hlc ((unhide hb').below (unhide H8))).mono ?_
  rintro e w9t ⟨B9, rfl, q9, n9, k9⟩
  have oc := hide (ownsRow_below (unhide oc) k9)
  have oe := hide (own_mono n9 (Nat.zero_le _))
  have H9 := hide (laterB (unhide H8) k9)
  clear k9 n9 q9 H8
  go_wp2_with fail
  refine (eqks_any _ _ _ _ cs _ hlc (kls_own (unhide oc)) (kls_own (unhide oe))).mono ?_
  rintro e w10t ⟨rfl, k10⟩
  have H10 := hide (laterB (unhide H9) k10)
  clear k10 H9 oe oc
  go_wp2
  go_ret
  exact ⟨rfl, unhide H10⟩

end Go.Proofs.Ytfbifffmieimoaa.Rl
