/-
  For every pixel PxOk of the program answers as its model does; no conditions.
-/
import Derived.Test.YteabmbggljpmoaaLwX
namespace Go.Proofs.Yteabmbggljpmoaa
open Go.RowKit
set_option linter.unusedVariables false
set_option linter.unusedSimpArgs false

set_option maxHeartbeats 1600000 in
theorem lawPxOk {W : World} (r g b a : Int) :
    Calls Try.prog 6 #[ag4 r g b a] W fun e w' => e = .returned (.bool true) ∧ Below W.heap.size W w' := by
  obtain ⟨V, hV⟩ : ∃ V, decide (Pix (r, g, b, a)) = V := ⟨_, rfl⟩
  have hV' := hide hV
  clear hV
  have e1 : (V != V) = false := by simp
  go_enter Try.func6, Try.ntmps6
  go_wp2_with fail
  refine (tok1_any r g b a _).mono ?_
  rintro e w1 ⟨rfl, hb⟩
  have hT1 := hide (t1_keep (t1_start (w := W)) hb)
  clear hb
  go_wp2_with fail
  refine (spx_any r g b a V _ (unhide hV')).mono ?_
  rintro e w2 ⟨rfl, hb⟩
  have hT2 := hide (t1_keep (unhide hT1) hb)
  clear hb hT1
  obtain ⟨c0, c1, c2, c3, _⟩ := unhide hT2
  go_wp2_with fail
  refine (tok1_any r g b a _).mono ?_
  rintro e w3 ⟨rfl, hb⟩
  have hT3 := hide (t1_keep (unhide hT2) hb)
  clear hb hT2 c0 c1 c2 c3
  go_wp2_with fail
  refine (ipx_any r g b a V _ (unhide hV')).mono ?_
  rintro e w4 ⟨rfl, hb⟩
  have hE := hide (laterB (unhide hT3).2.2.2.2 hb)
  clear hb
  go_wp2
  go_ret
  exact ⟨rfl, unhide hE⟩

end Go.Proofs.Yteabmbggljpmoaa
