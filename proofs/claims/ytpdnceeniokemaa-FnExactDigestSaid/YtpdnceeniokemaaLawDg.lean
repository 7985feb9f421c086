/-
  For every list of bytes Digest of the program answers as its model does; the list reads behind the call as it read before; no conditions.
-/
import Derived.Test.YtpdnceeniokemaaDg
namespace Go.Proofs.Ytpdnceeniokemaa
open Go.RowKit
set_option linter.unusedVariables false
set_option linter.unusedSimpArgs false

set_option maxHeartbeats 3200000 in
theorem lawDg {W : World} (a : Option Addr) (ca : Nat) (l : List Int) (hl0 : l.length ≤ maxLen) (hc0 : l.length ≤ ca) (hc1 : ca ≤ maxLen) (hy : Byt l) (ha : Bys W a l)  :
    Calls Try.prog 4 #[.slice a l.length ca] W fun e w' => e = .returned (.bool true) ∧ Below W.heap.size W w' := by
  have ha' := hide ha
  have hy' := hide hy
  have hl1 := hide hl0
  clear ha hy
  unfold maxLen at hl0
  by_cases hbig : 1048576 < l.length
  · have g1 : decide ((1048576 : Int) < l.length) = true := by simp; omega
    go_enter Try.func4, Try.ntmps4
    go_wp2
    go_ret
    exact ⟨rfl, Below.refl _ _⟩
  have g1 : decide ((1048576 : Int) < l.length) = false := by simp; omega
  have hl : l.length ≤ 1048576 := by omega
  clear hbig hl0
  go_enter Try.func4, Try.ntmps4
  go_wp2_with fail
  refine (tob_any a ca l _ hl (unhide ha')).mono ?_
  rintro e w1 ⟨B1, rfl, q1, n1, k1⟩
  have oa := hide (own_mono n1 (Nat.le_refl _))
  have H1 := hide k1
  clear k1 n1 q1
  go_wp2_with fail
  refine (sdig_any _ _ l _ (unhide hl1) (unhide hy') (bys_own (unhide oa))).mono ?_
  rintro e w3 ⟨rfl, hw0⟩
  have hw1 := hw0.symm
  subst hw1
  clear oa
  go_wp2_with fail
  refine (tob_any a ca l _ hl ((unhide ha').below (unhide H1))).mono ?_
  rintro e w4 ⟨B4, rfl, q4, n4, k4⟩
  have ox := hide (own_mono n4 (unhide H1).size)
  have H4 := hide (laterB (unhide H1) k4)
  clear H1
  clear k4 n4 q4
  go_wp2_with fail
  refine (idig_any _ _ l _ (unhide hl1) (Nat.le_refl _) (unhide hl1) (unhide hy') (bys_own (unhide ox))).mono ?_
  rintro e w5 ⟨rfl, hw0⟩
  have hw1 := hw0.symm
  subst hw1
  have hdd : (dig l != dig l) = false := by simp
  go_wp2_with fail
  refine (tob_any a ca l _ hl ((unhide ha').below (unhide H4))).mono ?_
  rintro e w6 ⟨B6, rfl, q6, n6, k6⟩
  have od := hide (own_mono n6 (unhide H4).size)
  have ox := hide (ownsRow_below (unhide ox) k6)
  have H6 := hide (laterB (unhide H4) k6)
  clear H4
  clear k6 n6 q6
  go_wp2_with fail
  refine (eqb_any _ _ _ _ l _ hl (bys_own (unhide ox)) (bys_own (unhide od))).mono ?_
  rintro e w7 ⟨rfl, k7⟩
  have ox := hide (ownsRow_below (unhide ox) k7)
  have od := hide (ownsRow_below (unhide od) k7)
  have H7 := hide (laterB (unhide H6) k7)
  clear H6
  clear k7
  go_wp2
  go_ret
  exact ⟨rfl, unhide H7⟩

end Go.Proofs.Ytpdnceeniokemaa
