/-
  Facts held through a region, and an edit's answer by letters; no conditions.
-/
import Derived.Test.YtnmahojdaodlgaaLwA
import Derived.Test.YtnmahojdaodlgaaSEd
namespace Go.Proofs.Ytnmahojdaodlgaa
open Go.RowKit
set_option linter.unusedVariables false
set_option linter.unusedSimpArgs false
theorem keep3 {w w0 w1 : World} {a1 a2 a3 : Addr} {v1 v2 v3 : Value}
    (h : w0.cell? a1 = some v1 ∧ w0.cell? a2 = some v2 ∧ w0.cell? a3 = some v3 ∧ Below w.heap.size w w0) (hb : Below w0.heap.size w0 w1) :
    w1.cell? a1 = some v1 ∧ w1.cell? a2 = some v2 ∧ w1.cell? a3 = some v3 ∧ Below w.heap.size w w1 := by
  obtain ⟨h1, h2, h3, h7⟩ := h
  exact ⟨cell_later hb h1, cell_later hb h2, cell_later hb h3, h7.trans (hb.mono h7.size)⟩
theorem keep3d {w w0 : World} {a1 a2 a3 : Addr} {v1 v2 v3 : Value}
    (h : w0.cell? a1 = some v1 ∧ w0.cell? a2 = some v2 ∧ w0.cell? a3 = some v3 ∧ Below w.heap.size w w0) :
    w0.drew.cell? a1 = some v1 ∧ w0.drew.cell? a2 = some v2 ∧ w0.drew.cell? a3 = some v3 ∧ Below w.heap.size w w0.drew := by
  obtain ⟨h1, h2, h3, h7⟩ := h
  exact ⟨h1, h2, h3, h7.drew⟩
theorem edR_let {w w' : World} {R : Option (List Kl)} {L : List Kl} {v : Bool} {e : Ending} (hL : L = outL R) (hv : v = R.isSome) (h : EdR w w' R e) :
    ∃ g c, e = .returned (.tuple #[.slice (some ⟨g, 0, none⟩) L.length c, .bool v]) ∧ w.heap.size ≤ g ∧ Own w' w.heap.size g L.length c L ∧ Below w.heap.size w w' := by
  subst hL hv
  exact h
end Go.Proofs.Ytnmahojdaodlgaa
