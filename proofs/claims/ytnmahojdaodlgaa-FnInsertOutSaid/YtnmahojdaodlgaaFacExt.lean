/-
  The program's edit by its name answers as its model does; the answer is new memory, nothing that was there is written.
-/
import Derived.Test.YtnmahojdaodlgaaFacA
import Derived.Test.YtnmahojdaodlgaaEdExt
namespace Go.Proofs.Ytnmahojdaodlgaa
open Go.RowKit
set_option linter.unusedVariables false
set_option linter.unusedSimpArgs false

set_option maxHeartbeats 800000 in
theorem iExt_any (b o cap : Nat) (l : List Kl) (t n : Int) (w : World) (hl : l.length ≤ maxLen) (hk : Kls w (some ⟨b, o, none⟩) l) :
    Calls Try.prog 20 #[.slice (some ⟨b, o, none⟩) l.length cap, .int .i64 t, .int .i64 n] w fun e w' => EdR w w' (extractS l t n) e := by
  have hk' := hide hk
  have hF := hide (fExt l t n)
  obtain ⟨R, hR⟩ : ∃ R, R = extractS l t n := ⟨_, rfl⟩
  rw [← hR]
  have hR' := hide hR
  clear hk hR
  go_enter Try.func20, Try.ntmps20
  go_wp2_with fail
  refine (edExt_any b o cap l t n 0 0 0 _ hl (unhide hk')).mono ?_
  rintro e w1 hE
  rw [unhide hF, ← unhide hR'] at hE
  obtain ⟨g, c, rfl, E⟩ := hE
  go_wp2
  exact bodyPost_ret (v := .tuple #[.slice (some ⟨g, 0, none⟩) (outL R).length c, .bool R.isSome]) (by simp [results, Try.results20, go_sem]) rfl ⟨g, c, rfl, E⟩

end Go.Proofs.Ytnmahojdaodlgaa
