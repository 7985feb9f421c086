/-
  Contract of the law's copy of a list of boxes: a new list of the same boxes, in new memory; nothing that was there is written.
-/
import Derived.Test.YtfdbnlmfnhhcbaaCopy
import Derived.Deep.RegionHeld3
namespace Go.Proofs.Ytfdbnlmfnhhcbaa
open Go.RowKit
set_option linter.unusedVariables false
set_option linter.unusedSimpArgs false

theorem spare_own {w : World} {B g n cap : Nat} {xs : List Value} (h : w.ownsRow B 42 3 (.slice (some ⟨g, 0, none⟩) n cap) n xs) : Spare w g 0 n := by
  have hl : xs.length = n * 3 := h.1
  have C : ∀ i, i < n * 3 → ∃ v, w.cell? ⟨g, i, none⟩ = some v := fun i hi => ⟨xs[i]'(by omega), by rw [h.cellAt i hi, List.getElem?_eq_getElem (by omega)]⟩
  exact ⟨fun j _ hj => ⟨C _ (by omega), C _ (by omega), C _ (by omega)⟩, fun o => h.frozenAt o⟩
theorem own_lt {w : World} {B g n cap m : Nat} {e : TypeId} {xs : List Value} (h : w.ownsRow B e m (.slice (some ⟨g, 0, none⟩) n cap) n xs) : g < w.heap.size := (h.lt g rfl).2

theorem below_drewN {B : Nat} {a w : World} (h : Below B a w) (n : Nat) : Below B a (w.drewN n) := ⟨h.os, h.tape, h.output, h.size, h.block⟩
theorem cell_later {w w1 : World} {a : Addr} {v : Value} (hb : Below w.heap.size w w1) (h : w.cell? a = some v) : w1.cell? a = some v := by
  rw [hb.cell (World.block_lt_of_cell? _ _ h)]; exact h
theorem keep6 {w w0 w1 : World} {a1 a2 a3 a4 a5 a6 : Addr} {v1 v2 v3 v4 v5 v6 : Value}
    (h : w0.cell? a1 = some v1 ∧ w0.cell? a2 = some v2 ∧ w0.cell? a3 = some v3 ∧ w0.cell? a4 = some v4 ∧ w0.cell? a5 = some v5 ∧ w0.cell? a6 = some v6 ∧ Below w.heap.size w w0) (hb : Below w0.heap.size w0 w1) :
    w1.cell? a1 = some v1 ∧ w1.cell? a2 = some v2 ∧ w1.cell? a3 = some v3 ∧ w1.cell? a4 = some v4 ∧ w1.cell? a5 = some v5 ∧ w1.cell? a6 = some v6 ∧ Below w.heap.size w w1 := by
  obtain ⟨h1, h2, h3, h4, h5, h6, h7⟩ := h
  exact ⟨cell_later hb h1, cell_later hb h2, cell_later hb h3, cell_later hb h4, cell_later hb h5, cell_later hb h6, h7.trans (hb.mono h7.size)⟩
theorem keep6d {w w0 : World} {a1 a2 a3 a4 a5 a6 : Addr} {v1 v2 v3 v4 v5 v6 : Value}
    (h : w0.cell? a1 = some v1 ∧ w0.cell? a2 = some v2 ∧ w0.cell? a3 = some v3 ∧ w0.cell? a4 = some v4 ∧ w0.cell? a5 = some v5 ∧ w0.cell? a6 = some v6 ∧ Below w.heap.size w w0) :
    w0.drew.cell? a1 = some v1 ∧ w0.drew.cell? a2 = some v2 ∧ w0.drew.cell? a3 = some v3 ∧ w0.drew.cell? a4 = some v4 ∧ w0.drew.cell? a5 = some v5 ∧ w0.drew.cell? a6 = some v6 ∧ Below w.heap.size w w0.drew := by
  obtain ⟨h1, h2, h3, h4, h5, h6, h7⟩ := h
  exact ⟨h1, h2, h3, h4, h5, h6, h7.drew⟩
theorem row6 {w w0 : World} {a1 a2 a3 a4 a5 a6 : Addr} {v1 v2 v3 v4 v5 v6 : Value} {a : Option Addr} {zs : List Int} (r : Hid (Row false 0 w.heap.size w a zs))
    (h : w0.cell? a1 = some v1 ∧ w0.cell? a2 = some v2 ∧ w0.cell? a3 = some v3 ∧ w0.cell? a4 = some v4 ∧ w0.cell? a5 = some v5 ∧ w0.cell? a6 = some v6 ∧ Below w.heap.size w w0) : Row false 0 w0.heap.size w0 a zs :=
  ((unhide r).below h.2.2.2.2.2.2 (Nat.le_refl _)).mono (Nat.le_refl _) h.2.2.2.2.2.2.size

end Go.Proofs.Ytfdbnlmfnhhcbaa
