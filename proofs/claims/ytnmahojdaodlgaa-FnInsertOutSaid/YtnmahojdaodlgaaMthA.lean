/-
  The program's edits of a track that was opened; the answer is new memory, nothing that was there is written.
-/
import Derived.Test.YtnmahojdaodlgaaTrm
import Derived.Test.YtnmahojdaodlgaaSEd2
namespace Go.Proofs.Ytnmahojdaodlgaa
open Go.RowKit
set_option linter.unusedVariables false
set_option linter.unusedSimpArgs false

theorem kls_litT {w : World} {T : TypeId} {c1 c2 c3 : Int} : Kls (w.alloc (.cells #[.int .i64 c1, .int .i64 c2, .int .i64 c3] T)) (some ⟨w.heap.size, 0, none⟩) [(c1, c2, c3)] := by
  intro j x hx
  cases j with
  | zero =>
    simp at hx
    subst hx
    exact ⟨w.heap.size, 0, rfl, by simp, by simp [go_sem], by simp [go_sem], by simp [go_sem]⟩
  | succ j => simp at hx
theorem kls_litT2 {w : World} {T : TypeId} {c1 c2 c3 d1 d2 d3 : Int} : Kls (w.alloc (.cells #[.int .i64 c1, .int .i64 c2, .int .i64 c3, .int .i64 d1, .int .i64 d2, .int .i64 d3] T)) (some ⟨w.heap.size, 0, none⟩) [(c1, c2, c3), (d1, d2, d3)] := by
  intro j x hx
  match j, hx with
  | 0, hx => injection hx with hx; subst hx; exact ⟨w.heap.size, 0, rfl, by simp, by simp [go_sem], by simp [go_sem], by simp [go_sem]⟩
  | 1, hx => injection hx with hx; subst hx; exact ⟨w.heap.size, 0, rfl, by simp, by simp [go_sem], by simp [go_sem], by simp [go_sem]⟩
  | j + 2, hx => simp at hx

end Go.Proofs.Ytnmahojdaodlgaa
