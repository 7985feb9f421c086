/-
  For every pixel Premul of the program answers as its model does; no conditions.
-/
import Derived.Test.YteabmbggljpmoaaPpr
import Derived.Test.YteabmbggljpmoaaPpm
import Derived.Test.YteabmbggljpmoaaLwX
namespace Go.Proofs.Yteabmbggljpmoaa
open Go.RowKit
set_option linter.unusedVariables false
set_option linter.unusedSimpArgs false

set_option maxHeartbeats 3200000 in
theorem lawPremul {W : World} (r g b a : Int) :
    Calls Try.prog 12 #[ag4 r g b a] W fun e w' => e = .returned (.bool true) ∧ Below W.heap.size W w' := by
  obtain ⟨V0, V1, V2, V3, hV⟩ : ∃ V0 V1 V2 V3, premulOf (r, g, b, a) = (V0, V1, V2, V3) := ⟨_, _, _, _, rfl⟩
  have hV' := hide hV
  clear hV
  go_enter Try.func12, Try.ntmps12
  go_wp2_with fail
  refine (tok1_any r g b a _).mono ?_
  rintro e w1 ⟨rfl, hb⟩
  have hT1 := hide (t1_keep (t1_start (w := W)) hb)
  clear hb
  go_wp2_with fail
  refine (spr_any r g b a V0 V1 V2 V3 _ (unhide hV')).mono ?_
  rintro e w2 ⟨rfl, hb⟩
  have hT2 := hide (t1_keep (unhide hT1) hb)
  clear hb hT1
  have hT3 := hide (t1x_of (t1_alloc (o := .cells #[.int .i64 V0, .int .i64 V1, .int .i64 V2, .int .i64 V3] 25) (unhide hT2)) (Bx.new w2 25 V0 V1 V2 V3))
  obtain ⟨c0, c1, c2, c3, _⟩ := unhide hT2
  have hs := t1_lt (unhide hT2)
  clear hT2
  go_wp2_with fail
  refine (tok1_any r g b a _).mono ?_
  rintro e w3 ⟨rfl, hb⟩
  have hT4 := hide (t1x_keep (unhide hT3) hb)
  clear hb hT3 c0 c1 c2 c3 hs
  generalize w2.heap.size = q at *
  go_wp2_with fail
  refine (ipr_any r g b a V0 V1 V2 V3 _ (unhide hV')).mono ?_
  rintro e w4 ⟨rfl, hb⟩
  have hT5 := hide (t1x_keep (unhide hT4) hb)
  clear hb hT4
  have hE0 := hide (laterB (t1x_to (unhide hT5)).1.2.2.2.2 ((Below.refl _ _).alloc (Nat.le_refl _) (.cells #[.int .i64 V0, .int .i64 V1, .int .i64 V2, .int .i64 V3] 25)))
  obtain ⟨d0, d1, d2, d3, _, _, _, _⟩ := (t1x_to (unhide hT5)).2
  have hq := (t1x_lt (unhide hT5)).2
  clear hT5
  go_wp2_with fail
  refine (eqk_any V0 V1 V2 V3 _).mono ?_
  rintro e w5 ⟨rfl, hb⟩
  have hE := hide (laterB (unhide hE0) hb)
  clear hb
  go_wp2
  go_ret
  exact ⟨rfl, unhide hE⟩

end Go.Proofs.Yteabmbggljpmoaa
