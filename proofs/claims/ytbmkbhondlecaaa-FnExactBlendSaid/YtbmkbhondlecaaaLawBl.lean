/-
  For every list of keys and every number Blend of the program answers as its model does, and the law's argument reads behind the call as it read before; no conditions.
-/
import Derived.Test.YtbmkbhondlecaaaSpT
import Derived.Test.YtbmkbhondlecaaaSpU
namespace Go.Proofs.Ytbmkbhondlecaaa.Y
open Go.RowKit
open Go.Proofs.Ytbmkbhondlecaaa
set_option linter.unusedVariables false
set_option linter.unusedSimpArgs false

set_option maxHeartbeats 3200000 in
theorem lawBl {W : World} (a : Option Addr) (ca : Nat) (l : List Ky) (hl0 : l.length ≤ maxLen) (ha : Kys W a l) (t : Int) :
    Calls Try.prog 9 #[.slice a l.length ca, .int .i64 t] W fun e w' => e = .returned (.bool true) ∧ Below W.heap.size W w' := by
  have ha' := hide ha
  clear ha
  go_enter Try.func9, Try.ntmps9
  go_wp2_with fail
  refine (szk_any a l.length ca W hl0).mono ?_
  rintro e w0 ⟨r, rfl, hr, hw0⟩
  have hw1 := hw0.symm
  subst hw1
  rcases hr with rfl | ⟨hr0, hl⟩
  · go_wp2
    go_ret
    exact ⟨rfl, Below.refl _ _⟩
  have hr1 : decide (r < 0) = false := by simp; omega
  clear hl0
  have hmx : l.length ≤ maxLen := by unfold maxLen; omega
  obtain ⟨V, hV⟩ : ∃ V : Int × Int × Int, blendOf l t = V := ⟨_, rfl⟩
  have hV' := hide hV
  obtain ⟨f, g, m⟩ := V
  have e1 : (f != f) = false := by simp
  have e2 : (g != g) = false := by simp
  have e3 : (m != m) = false := by simp
  clear hV
  go_wp2_with fail
  refine (tok_any a ca l _ hl (unhide ha')).mono ?_
  rintro e w0t ⟨B0, rfl, q0, n0, k0⟩
  have oa := hide n0
  have H1 := hide k0
  clear k0 n0 q0
  go_wp2_with fail
  refine (sblend_any (some ⟨B0, 0, none⟩) _ l t (f, g, m) _ hmx (kys_own (unhide oa)) (unhide hV')).mono ?_
  rintro e w2t ⟨rfl, k2⟩
  have H3 := hide (laterB (unhide H1) k2)
  clear k2 H1 oa
  go_wp2_with fail
  refine (tok_any a ca l _ hl ((unhide ha').below (unhide H3))).mono ?_
  rintro e w3t ⟨B3, rfl, q3, n3, k3⟩
  have ox := hide n3
  have H4 := hide (laterB (unhide H3) k3)
  clear k3 n3 q3 H3
  go_wp2_with fail
  refine (iblend_any (some ⟨B3, 0, none⟩) _ l t (f, g, m) _ hmx (kys_own (unhide ox)) (unhide hV')).mono ?_
  rintro e w5t ⟨rfl, k5⟩
  have ox := hide (ownsRow_below (unhide ox) k5)
  have H6 := hide (laterB (unhide H4) k5)
  clear k5 H4
  go_wp2_with fail
  refine (tok_any a ca l _ hl ((unhide ha').below (unhide H6))).mono ?_
  rintro e w7t ⟨B7, rfl, q7, n7, k7⟩
  have ox := hide (ownsRow_below (unhide ox) k7)
  have od := hide n7
  have H7 := hide (laterB (unhide H6) k7)
  clear k7 n7 q7 H6
  go_wp2_with fail
  refine (eqks_any _ _ _ _ l _ hl (kys_own (unhide ox)) (kys_own (unhide od))).mono ?_
  rintro e w8t ⟨rfl, k8⟩
  have H8 := hide (laterB (unhide H7) k8)
  clear k8 H7 od ox
  go_wp2
  go_ret
  exact ⟨rfl, unhide H8⟩

end Go.Proofs.Ytbmkbhondlecaaa.Y
