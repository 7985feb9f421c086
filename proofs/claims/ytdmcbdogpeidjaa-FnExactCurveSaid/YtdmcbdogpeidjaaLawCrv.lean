/-
  For every list of numbers and every number Curve of the program answers as its model does, and the list reads behind the call as it read before; no conditions.
-/
import Derived.Test.YtdmcbdogpeidjaaCrv
namespace Go.Proofs.Ytdmcbdogpeidjaa
open Go.RowKit
set_option linter.unusedVariables false
set_option linter.unusedSimpArgs false

set_option maxHeartbeats 3200000 in
theorem lawCrv {W : World} (a : Option Addr) (ca : Nat) (l : List Int) (hl0 : l.length ≤ maxLen) (ha : Ins W a l) (v : Int) :
    Calls Try.prog 7 #[.slice a l.length ca, .int .i64 v] W fun e w' => e = .returned (.bool true) ∧ Below W.heap.size W w' := by
  have ha' := hide ha
  have hl1 := hide hl0
  clear ha
  unfold maxLen at hl0
  by_cases hbig : 1048576 < l.length
  · have g1 : decide ((1048576 : Int) < l.length) = true := by simp; omega
    go_enter Try.func7, Try.ntmps7
    go_wp2
    go_ret
    exact ⟨rfl, Below.refl _ _⟩
  have g1 : decide ((1048576 : Int) < l.length) = false := by simp; omega
  have hl : l.length ≤ 1048576 := by omega
  clear hbig hl0
  obtain ⟨V, hV⟩ : ∃ V, crvOf l v = V := ⟨_, rfl⟩
  have hV' := hide hV
  have e1 : (V != V) = false := by simp
  clear hV
  go_enter Try.func7, Try.ntmps7
  go_wp2_with fail
  refine (toi_any a ca l _ hl (unhide ha')).mono ?_
  rintro e w0t ⟨B0, rfl, q0, n0, k0⟩
  have oa := hide n0
  have H1 := hide k0
  clear k0 n0 q0
  go_wp2_with fail
  refine (scrv_any (some ⟨B0, 0, none⟩) _ l v V _ (unhide hl1) (ins_own (unhide oa)) (unhide hV')).mono ?_
  rintro e w2t ⟨rfl, k2⟩
  have H3 := hide (laterB (unhide H1) k2)
  clear k2 H1 oa
  go_wp2_with fail
  refine (toi_any a ca l _ hl ((unhide ha').below (unhide H3))).mono ?_
  rintro e w3t ⟨B3, rfl, q3, n3, k3⟩
  have ox := hide n3
  have H4 := hide (laterB (unhide H3) k3)
  clear k3 n3 q3 H3
  go_wp2_with fail
  refine (icrv_any (some ⟨B3, 0, none⟩) _ l v V _ (unhide hl1) (ins_own (unhide ox)) (unhide hV')).mono ?_
  rintro e w5t ⟨rfl, k5⟩
  have ox := hide (ownsRow_below (unhide ox) k5)
  have H6 := hide (laterB (unhide H4) k5)
  clear k5 H4
  go_wp2_with fail
  refine (toi_any a ca l _ hl ((unhide ha').below (unhide H6))).mono ?_
  rintro e w7t ⟨B7, rfl, q7, n7, k7⟩
  have ox := hide (ownsRow_below (unhide ox) k7)
  have od := hide n7
  have H7 := hide (laterB (unhide H6) k7)
  clear k7 n7 q7 H6
  go_wp2_with fail
  refine (eqi_any _ _ _ _ l _ hl (ins_own (unhide ox)) (ins_own (unhide od))).mono ?_
  rintro e w8t ⟨rfl, k8⟩
  have H8 := hide (laterB (unhide H7) k8)
  clear k8 H7 od ox
  go_wp2
  go_ret
  exact ⟨rfl, unhide H8⟩

end Go.Proofs.Ytdmcbdogpeidjaa
