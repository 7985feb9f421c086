/-
  Small facts on three cells that are stored; no conditions.
-/
import Derived.Test.YtkpojifblcdgcaaMem
namespace Go.Proofs.Ytkpojifblcdgcaa.Y
open Go.RowKit
open Go.Proofs.Ytkpojifblcdgcaa
theorem ne_bk {b b' o o' : Nat} (h : b ≠ b') : (⟨b, o, none⟩ : Addr) ≠ ⟨b', o', none⟩ := by intro e; injection e with e; exact h e
theorem set3_other {W : World} {B b o o1 o2 o3 : Nat} {a x y : Value} (h : b ≠ B) : (((W.setCell ⟨B, o1, none⟩ a).setCell ⟨B, o2, none⟩ x).setCell ⟨B, o3, none⟩ y).cell? ⟨b, o, none⟩ = W.cell? ⟨b, o, none⟩ := by
  rw [World.cell?_setCell_other _ _ _ _ (ne_bk (Ne.symm h)), World.cell?_setCell_other _ _ _ _ (ne_bk (Ne.symm h)), World.cell?_setCell_other _ _ _ _ (ne_bk (Ne.symm h))]
theorem set3_below {w W : World} {B : Nat} {a b c : Value} {o1 o2 o3 : Nat} (h : Below w.heap.size w W) (hB : w.heap.size ≤ B) : Below w.heap.size w (((W.setCell ⟨B, o1, none⟩ a).setCell ⟨B, o2, none⟩ b).setCell ⟨B, o3, none⟩ c) :=
  ((h.setCell (p := ⟨B, o1, none⟩) hB _).setCell (p := ⟨B, o2, none⟩) hB _).setCell (p := ⟨B, o3, none⟩) hB _
end Go.Proofs.Ytkpojifblcdgcaa.Y
