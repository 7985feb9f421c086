/-
  For every list of changes and every number Shift of the program answers as its model does, and the law's argument reads behind the call as it read before; no conditions.
-/
import Derived.Test.YtmgiogfaahgjjaaShS
namespace Go.Proofs.Ytmgiogfaahgjjaa
open Go.RowKit
set_option linter.unusedVariables false
set_option linter.unusedSimpArgs false

set_option maxHeartbeats 1600000 in
theorem lawShf {W : World} (a : Option Addr) (ca : Nat) (l : List Ch) (hl0 : l.length ≤ maxLen) (ha : Chs W a l) (p : Int) :
    Calls Try.prog 6 #[.slice a l.length ca, .int .i64 p] W fun e w' => e = .returned (.bool true) ∧ Below W.heap.size W w' := by
  have ha' := hide ha
  clear ha
  go_enter Try.func6, Try.ntmps6
  go_wp2_with fail
  refine (szc_any a l.length ca 1048576 W hl0 (by omega) (by omega)).mono ?_
  rintro e w0 ⟨r, rfl, hr, hw0⟩
  have hw1 := hw0.symm
  subst hw1
  rcases hr with rfl | ⟨hr0, _, hl⟩
  · go_wp2
    go_ret
    exact ⟨rfl, Below.refl _ _⟩
  have hr1 : decide (r < 0) = false := by simp; omega
  have hmx : l.length ≤ maxLen := by unfold maxLen; omega
  clear hl0
  obtain ⟨v, hv⟩ : ∃ v, v = shiftOf l p := ⟨_, rfl⟩
  have hv' := hide hv
  have hvv : (v != v) = false := by simp
  clear hv
  go_wp2_with fail
  refine (toc_any a ca l _ hl (unhide ha')).mono ?_
  rintro e w1 ⟨B1, rfl, q1, n1, k1⟩
  have n1' := hide n1
  have H1 := hide k1
  clear k1 n1 q1
  go_wp2_with fail
  refine (sshift_any (some ⟨B1, 0, none⟩) _ l p _ hmx (chs_own (unhide n1'))).mono ?_
  rintro e w2 ⟨rfl, k2⟩
  rw [← unhide hv']
  have H2 := hide (laterB (unhide H1) k2)
  clear k2 H1 n1'
  go_wp2_with fail
  refine (toc_any a ca l _ hl ((unhide ha').below (unhide H2))).mono ?_
  rintro e w3 ⟨B3, rfl, q3, n3, k3⟩
  have ox := hide (own_mono n3 (Nat.zero_le _))
  have H3 := hide (laterB (unhide H2) k3)
  clear k3 n3 q3 H2
  go_wp2_with fail
  refine (ishift_any (some ⟨B3, 0, none⟩) _ l p _ hmx (chs_own (unhide ox))).mono ?_
  rintro e w4 ⟨rfl, k4⟩
  rw [← unhide hv']
  have ox := hide (ownsRow_below (unhide ox) k4)
  have H4 := hide (laterB (unhide H3) k4)
  clear k4 H3
  go_wp2_with fail
  refine (toc_any a ca l _ hl ((unhide ha').below (unhide H4))).mono ?_
  rintro e w6 ⟨B6, rfl, q6, n6, k6⟩
  have ox := hide (ownsRow_below (unhide ox) k6)
  have o6 := hide (own_mono n6 (Nat.zero_le _))
  have H6 := hide (laterB (unhide H4) k6)
  clear k6 H4 n6 q6
  go_wp2_with fail
  refine (eqcs_any _ _ _ _ l _ hl (chs_own (unhide ox)) (chs_own (unhide o6))).mono ?_
  rintro e w7 ⟨rfl, k7⟩
  go_wp2
  go_ret
  exact ⟨rfl, laterB (unhide H6) k7⟩

end Go.Proofs.Ytmgiogfaahgjjaa
