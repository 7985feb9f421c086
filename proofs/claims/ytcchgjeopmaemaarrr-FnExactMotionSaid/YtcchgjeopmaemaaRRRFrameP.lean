/-
  How an argument that is a picture is opened; no conditions.
-/
import Derived.Test.YtcchgjeopmaemaaRRRFrame
namespace Go.Proofs.YtcchgjeopmaemaaRRR
open Go.ChangeShapes Go.WideShapes Go.ChangeAt Go.RowKit Go.Joins Go.Deep
set_option linter.unusedVariables false
set_option linter.unusedSimpArgs false
theorem cellsPic : Try.prog.cellsOf 32 = 3 := by kernel_rfl
theorem slice_form {H : Type} {enc : TypeId × Value → H} {W : World} {fuel : Nat} {v : Value} {x : DataW H × List MemPlace}
    (h : DataW.trod enc Try.prog W 0 (fun _ => true) true fuel 24 [v] = some x) : ∃ a len cap, v = .slice a len cap := by
  rcases open_slice Try.underlying24 h with ⟨hcs, _⟩ | ⟨y, l, c, m, n, D, Pl, hcs, _⟩
  · simp at hcs; exact ⟨none, 0, 0, hcs⟩
  · simp at hcs; exact ⟨some y, l, c, hcs⟩
end Go.Proofs.YtcchgjeopmaemaaRRR
