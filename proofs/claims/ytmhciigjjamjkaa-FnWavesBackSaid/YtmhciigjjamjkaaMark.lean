/-
  Contracts of the law's functions that hold lists of complex numbers against each other, write marks into lists and look for them again.
-/
import Derived.Test.YtmhciigjjamjkaaCCopy
namespace Go.Proofs.Ytmhciigjjamjkaa
open Go.RowKit
set_option linter.unusedVariables false
set_option linter.unusedSimpArgs false

def SmC (l m : List (Nat × Nat)) : Prop := l.length = m.length ∧ ∀ (j : Nat) (x y : Nat × Nat), l[j]? = some x → m[j]? = some y → Sm x.1 y.1 ∧ Sm x.2 y.2
theorem SmC.rfl {l : List (Nat × Nat)} : SmC l l := ⟨_root_.rfl, fun j x y h1 h2 => by rw [h1] at h2; cases h2; exact ⟨Sm.rfl, Sm.rfl⟩⟩

theorem keep4 {w w0 w1 : World} {a1 a2 a3 a4 : Addr} {v1 v2 v3 v4 : Value}
    (h : w0.cell? a1 = some v1 ∧ w0.cell? a2 = some v2 ∧ w0.cell? a3 = some v3 ∧ w0.cell? a4 = some v4 ∧ Below w.heap.size w w0) (hb : Below w0.heap.size w0 w1) :
    w1.cell? a1 = some v1 ∧ w1.cell? a2 = some v2 ∧ w1.cell? a3 = some v3 ∧ w1.cell? a4 = some v4 ∧ Below w.heap.size w w1 := by
  obtain ⟨h1, h2, h3, h4, h7⟩ := h
  exact ⟨cell_later hb h1, cell_later hb h2, cell_later hb h3, cell_later hb h4, h7.trans (hb.mono h7.size)⟩
theorem keep4d {w w0 : World} {a1 a2 a3 a4 : Addr} {v1 v2 v3 v4 : Value}
    (h : w0.cell? a1 = some v1 ∧ w0.cell? a2 = some v2 ∧ w0.cell? a3 = some v3 ∧ w0.cell? a4 = some v4 ∧ Below w.heap.size w w0) :
    w0.drew.cell? a1 = some v1 ∧ w0.drew.cell? a2 = some v2 ∧ w0.drew.cell? a3 = some v3 ∧ w0.drew.cell? a4 = some v4 ∧ Below w.heap.size w w0.drew := by
  obtain ⟨h1, h2, h3, h4, h7⟩ := h
  exact ⟨h1, h2, h3, h4, h7.drew⟩

/-- the first i cells bear the marks from q on -/
def Mkd (q : Int) (i : Nat) (xs : List Value) : Prop := ∀ j, j < i → xs[j]? = some (fl (floatOfInt .f64 (q + j)))
theorem Mkd.set {q : Int} {i : Nat} {xs : List Value} (h : Mkd q i xs) (hi : i < xs.length) : Mkd q (i + 1) (xs.set i (fl (floatOfInt .f64 (q + i)))) := by
  intro j hj
  by_cases e : j = i
  · subst e; simp [hi]
  · rw [List.getElem?_set_ne (by omega)]; exact h j (by omega)
theorem grown_refl (w : World) (g : Option Nat) : w.grownBy w g := ⟨rfl, rfl, rfl, Nat.le_refl _, fun _ _ _ => rfl⟩
theorem grown_trans {w w1 w2 : World} {g : Option Nat} (h : w.grownBy w1 g) (k : w1.grownBy w2 g) : w.grownBy w2 g :=
  ⟨k.os.trans h.os, k.tape.trans h.tape, k.output.trans h.output, Nat.le_trans h.size k.size, fun j hj hn => (k.block j (Nat.lt_of_lt_of_le hj h.size) hn).trans (h.block j hj hn)⟩
theorem grown_set {w w1 : World} {g i : Nat} {v : Value} (h : w.grownBy w1 (some g)) : w.grownBy (w1.setCell ⟨g, i, none⟩ v) (some g) :=
  grown_trans h ⟨rfl, rfl, rfl, by simp, fun j hj hn => by
    have hg : g ≠ j := fun e => hn (by rw [e])
    simp [World.setCell, Array.getElem?_modify, hg]⟩
theorem own_at {w : World} {B g n m cap i : Nat} {e : TypeId} {xs : List Value} (h : w.ownsRow B e m (.slice (some ⟨g, 0, none⟩) n cap) n xs) (hi : i < n * m) : ∃ v, w.cell? ⟨g, i, none⟩ = some v ∧ w.frozen? ⟨g, i, none⟩ = false ∧ xs[i]? = some v ∧ xs.length = n * m := by
  have hl : xs.length = n * m := h.1
  have hc := h.cellAt i hi
  exact ⟨xs[i]'(by omega), by rw [hc, List.getElem?_eq_getElem (by omega)], h.frozenAt i, List.getElem?_eq_getElem (by omega), hl⟩

end Go.Proofs.Ytmhciigjjamjkaa
