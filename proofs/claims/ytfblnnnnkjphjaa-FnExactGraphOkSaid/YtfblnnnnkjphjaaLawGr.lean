/-
  For every list of nodes GraphOk of the program answers as its model does, and the law's argument reads behind the call as it read before; no conditions.
-/
import Derived.Test.YtfblnnnnkjphjaaGr
namespace Go.Proofs.Ytfblnnnnkjphjaa
open Go.RowKit
set_option linter.unusedVariables false
set_option linter.unusedSimpArgs false

set_option maxHeartbeats 3200000 in
theorem lawGraphOk {W : World} (a : Option Addr) (ca : Nat) (l : List Kl) (hl0 : l.length ≤ maxLen) (ha : Kls W a l ∧ BdN l) :
    Calls Try.prog 3 #[.slice a l.length ca] W fun e w' => e = .returned (.bool true) ∧ Below W.heap.size W w' := by
  obtain ⟨ha0, hb0⟩ := ha
  have ha' := hide ha0
  have hbd := hide hb0
  clear ha0 hb0
  go_enter Try.func3, Try.ntmps3
  go_wp2_with fail
  refine (szk_any a l.length ca W hl0).mono ?_
  rintro e w0 ⟨r, rfl, hr, hw0⟩
  have hw1 := hw0.symm
  subst hw1
  rcases hr with rfl | ⟨hr0, hl⟩
  · go_wp2
    go_ret
    exact ⟨rfl, Below.refl _ _⟩
  have hr1 : decide (r < 0) = false := by simp; omega
  have hmx := hide hl0
  clear hl0
  obtain ⟨V, hV⟩ : ∃ V : Bool, V = true ↔ GrOk l := by
    by_cases h : GrOk l
    · exact ⟨true, by simpa using h⟩
    · exact ⟨false, by simpa using h⟩
  have hV' := hide hV
  clear hV
  have e1 : (V != V) = false := by simp
  go_wp2_with fail
  refine (tok_any a ca l _ hl (unhide ha')).mono ?_
  rintro e w1 ⟨B1, rfl, q1, n1, k1⟩
  have n1' := hide n1
  have H1 := hide k1
  clear k1 n1 q1
  go_wp2_with fail
  refine (sgr_any (some ⟨B1, 0, none⟩) _ l V _ (unhide hmx) (kls_own (unhide n1')) (unhide hbd) (unhide hV')).mono ?_
  rintro e w2 ⟨rfl, k2⟩
  have H2 := hide (laterB (unhide H1) k2)
  clear k2 H1 n1'
  go_wp2_with fail
  refine (tok_any a ca l _ hl ((unhide ha').below (unhide H2))).mono ?_
  rintro e w3 ⟨B3, rfl, q3, n3, k3⟩
  have ox := hide (own_mono n3 (Nat.zero_le _))
  have H3 := hide (laterB (unhide H2) k3)
  clear k3 n3 q3 H2
  go_wp2_with fail
  refine (igr_any (some ⟨B3, 0, none⟩) _ l V _ (unhide hmx) (kls_own (unhide ox)) (unhide hbd) (unhide hV')).mono ?_
  rintro e w4 ⟨rfl, k4⟩
  have ox := hide (ownsRow_below (unhide ox) k4)
  have H4 := hide (laterB (unhide H3) k4)
  clear k4 H3
  go_wp2_with fail
  refine (tok_any a ca l _ hl ((unhide ha').below (unhide H4))).mono ?_
  rintro e w6 ⟨B6, rfl, q6, n6, k6⟩
  have ox := hide (ownsRow_below (unhide ox) k6)
  have o6 := hide (own_mono n6 (Nat.zero_le _))
  have H6 := hide (laterB (unhide H4) k6)
  clear k6 H4 n6 q6
  go_wp2_with fail
  refine (eqks_any _ _ _ _ l _ hl (kls_own (unhide ox)) (kls_own (unhide o6))).mono ?_
  rintro e w7 ⟨rfl, k7⟩
  have H7 := hide (laterB (unhide H6) k7)
  clear k7 H6 o6
  go_wp2
  go_ret
  exact ⟨rfl, unhide H7⟩

end Go.Proofs.Ytfblnnnnkjphjaa
