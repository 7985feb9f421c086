/-
  For every list of clips and every number FrameAt of the program answers as its model does, and the law's argument reads behind the call as it read before; no conditions.
-/
import Derived.Test.YtnmahojdaodlgaaFrB
import Derived.Test.YtnmahojdaodlgaaLwA
namespace Go.Proofs.Ytnmahojdaodlgaa
open Go.RowKit
set_option linter.unusedVariables false
set_option linter.unusedSimpArgs false

set_option maxHeartbeats 1600000 in
theorem lawFrm {W : World} (a : Option Addr) (ca : Nat) (l : List Kl) (hl0 : l.length ≤ maxLen) (ha : Kls W a l) (t : Int) (ht : (Lit.int .i64 t).wf = true) :
    Calls Try.prog 7 #[.slice a l.length ca, .int .i64 t] W fun e w' => e = .returned (.bool true) ∧ Below W.heap.size W w' := by
  have ha' := hide ha
  clear ha
  go_enter Try.func7, Try.ntmps7
  go_wp2_with fail
  refine (szk_any a l.length ca W hl0).mono ?_
  rintro e w0 ⟨r, rfl, hr, hw0⟩
  have hw1 := hw0.symm
  subst hw1
  rcases hr with rfl | ⟨hr0, hl⟩
  · go_wp2
    go_ret
    exact ⟨rfl, Below.refl _ _⟩
  have hr1 : decide (r < 0) = false := by simp; omega
  have hmx : l.length ≤ maxLen := by unfold maxLen; omega
  clear hl0
  have ht1 : t < 9223372036854775808 := by
    simp only [Lit.wf, Bool.and_eq_true, decide_eq_true_eq] at ht
    have := ht.2
    rw [show IntKind.i64.max = 9223372036854775807 from by decide] at this
    omega
  obtain ⟨p, hp⟩ : ∃ p, p = (frameAt l t).1 := ⟨_, rfl⟩
  obtain ⟨q, hq⟩ : ∃ q, q = (frameAt l t).2 := ⟨_, rfl⟩
  have hp' := hide hp
  have hq' := hide hq
  have hpp : (p != p) = false := by simp
  have hqq : (q != q) = false := by simp
  have ht1' := hide ht1
  clear hp hq ht ht1
  go_wp2_with fail
  refine (tok_any a ca l _ hl (unhide ha')).mono ?_
  rintro e w1 ⟨B1, rfl, q1, n1, k1⟩
  have n1' := hide n1
  have H1 := hide k1
  clear k1 n1 q1
  go_wp2_with fail
  refine (sframe_any (some ⟨B1, 0, none⟩) _ l t _ hmx (unhide ht1') (kls_own (unhide n1'))).mono ?_
  rintro e w2 ⟨rfl, k2⟩
  rw [← unhide hp', ← unhide hq']
  have H2 := hide (laterB (unhide H1) k2)
  clear k2 H1 n1'
  go_wp2_with fail
  refine (tok_any a ca l _ hl ((unhide ha').below (unhide H2))).mono ?_
  rintro e w3 ⟨B3, rfl, q3, n3, k3⟩
  have ox := hide (own_mono n3 (Nat.zero_le _))
  have H3 := hide (laterB (unhide H2) k3)
  clear k3 n3 q3 H2
  go_wp2_with fail
  refine (iframe_any (some ⟨B3, 0, none⟩) _ l t _ hmx (kls_own (unhide ox))).mono ?_
  rintro e w4 ⟨rfl, k4⟩
  rw [← unhide hp', ← unhide hq']
  have ox := hide (ownsRow_below (unhide ox) k4)
  have H4 := hide (laterB (unhide H3) k4)
  clear k4 H3
  go_wp2_with fail
  refine (tok_any a ca l _ hl ((unhide ha').below (unhide H4))).mono ?_
  rintro e w6 ⟨B6, rfl, q6, n6, k6⟩
  have ox := hide (ownsRow_below (unhide ox) k6)
  have o6 := hide (own_mono n6 (Nat.zero_le _))
  have H6 := hide (laterB (unhide H4) k6)
  clear k6 H4 n6 q6
  go_wp2_with fail
  refine (eqks_any _ _ _ _ l _ hl (kls_own (unhide ox)) (kls_own (unhide o6))).mono ?_
  rintro e w7 ⟨rfl, k7⟩
  go_wp2
  go_ret
  exact ⟨rfl, laterB (unhide H6) k7⟩

end Go.Proofs.Ytnmahojdaodlgaa
