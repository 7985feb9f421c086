/-
  The program's edit by its name answers as its model does; the answer is new memory, nothing that was there is written.
-/
import Derived.Test.YtnmahojdaodlgaaFacA
import Derived.Test.YtnmahojdaodlgaaEdIns
namespace Go.Proofs.Ytnmahojdaodlgaa
open Go.RowKit
set_option linter.unusedVariables false
set_option linter.unusedSimpArgs false

set_option maxHeartbeats 800000 in
theorem iIns_any (b o cap : Nat) (l : List Kl) (t c1 c2 c3 : Int) (w : World) (hl : l.length ≤ maxLen) (hk : Kls w (some ⟨b, o, none⟩) l) :
    Calls Try.prog 17 #[.slice (some ⟨b, o, none⟩) l.length cap, .int .i64 t, .agg #[.int .i64 c1, .int .i64 c2, .int .i64 c3]] w fun e w' => EdR w w' (insertS l t (c1, c2, c3)) e := by
  have hW : Below w.heap.size w (w.alloc (.cells #[.int .i64 c1, .int .i64 c2, .int .i64 c3] 26)) := (Below.refl _ _).alloc (Nat.le_refl _) _
  have hk' := hide (hk.below hW)
  have hW' := hide hW
  have hF := hide (fIns l t (c1, c2, c3))
  obtain ⟨R, hR⟩ : ∃ R, R = insertS l t (c1, c2, c3) := ⟨_, rfl⟩
  rw [← hR]
  have hR' := hide hR
  clear hk hW hR
  go_enter Try.func17, Try.ntmps17
  go_wp2_with fail
  refine (edIns_any b o cap l t 0 c1 c2 c3 _ hl (unhide hk')).mono ?_
  rintro e w1 hE
  rw [unhide hF, ← unhide hR'] at hE
  obtain ⟨g, c, rfl, E⟩ := edR_from hE (unhide hW')
  go_wp2
  exact bodyPost_ret (v := .tuple #[.slice (some ⟨g, 0, none⟩) (outL R).length c, .bool R.isSome]) (by simp [results, Try.results17, go_sem]) rfl ⟨g, c, rfl, E⟩

end Go.Proofs.Ytnmahojdaodlgaa
