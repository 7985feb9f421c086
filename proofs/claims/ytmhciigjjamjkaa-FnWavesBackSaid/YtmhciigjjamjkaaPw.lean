/-
  Contracts of Power, the model's and the program's: each gives a new list of the powers; nothing that was there is written.
-/
import Derived.Test.YtmhciigjjamjkaaCCopy
import Derived.Deep.AppendLies
import Derived.Deep.CutRange
import Derived.Deep.CutBlock
namespace Go.Proofs.Ytmhciigjjamjkaa
open Go.RowKit
set_option linter.unusedVariables false
set_option linter.unusedSimpArgs false

/-- v is the power of x -/
def PwE (x : Nat × Nat) (v : Nat) : Prop := ∃ p q, Res .mul x.1 x.1 p ∧ Res .mul x.2 x.2 q ∧ Res .add p q v
theorem PwE.sm {x : Nat × Nat} {v v' : Nat} (h : PwE x v) (h' : PwE x v') : Sm v v' := by
  obtain ⟨p, q, h1, h2, h3⟩ := h
  obtain ⟨p', q', k1, k2, k3⟩ := h'
  exact h3.sm k3 (h1.sm k1 Sm.rfl Sm.rfl) (h2.sm k2 Sm.rfl Sm.rfl)
/-- L are the powers of the first k of l -/
def PwL (l : List (Nat × Nat)) (k : Nat) (L : List Nat) : Prop := L.length = k ∧ ∀ (j : Nat) (x : Nat × Nat) (v : Nat), l[j]? = some x → L[j]? = some v → PwE x v
theorem PwL.nil (l : List (Nat × Nat)) : PwL l 0 [] := ⟨rfl, fun j x v _ h => by simp at h⟩
theorem PwL.snoc {l : List (Nat × Nat)} {k : Nat} {L : List Nat} {x : Nat × Nat} {v : Nat} (h : PwL l k L) (hx : l[k]? = some x) (hv : PwE x v) : PwL l (k + 1) (L ++ [v]) := by
  refine ⟨by simp [h.1], ?_⟩
  intro j y u hy hu
  by_cases e : j < k
  · rw [List.getElem?_append_left (by rw [h.1]; exact e)] at hu
    exact h.2 j y u hy hu
  · by_cases e2 : j = k
    · subst e2
      rw [hx] at hy
      cases hy
      rw [List.getElem?_append_right (by rw [h.1]; exact Nat.le_refl _), h.1] at hu
      simp at hu
      subst hu
      exact hv
    · rw [List.getElem?_append_right (by rw [h.1]; omega), h.1] at hu
      have : j - k = (j - k - 1) + 1 := by omega
      rw [this] at hu
      simp at hu
def PwV (l : List (Nat × Nat)) (L : List Nat) : Prop := (l.length ≤ 4096 ∧ PwL l l.length L) ∨ (¬ l.length ≤ 4096 ∧ L = [])
theorem PwV.sm {l : List (Nat × Nat)} {L M : List Nat} (h : PwV l L) (h' : PwV l M) : SmL L M := by
  rcases h with ⟨h1, h2⟩ | ⟨h1, h2⟩ <;> rcases h' with ⟨k1, k2⟩ | ⟨k1, k2⟩
  · refine ⟨h2.1.trans k2.1.symm, ?_⟩
    intro j x y hx hy
    have hj : j < l.length := by have := (List.getElem?_eq_some_iff.1 hx).1; rw [h2.1] at this; exact this
    exact (h2.2 j l[j] x (List.getElem?_eq_getElem hj) hx).sm (k2.2 j l[j] y (List.getElem?_eq_getElem hj) hy)
  · exact absurd h1 k1
  · exact absurd k1 h1
  · rw [h2, k2]; exact SmL.rfl
theorem PwV.len {l : List (Nat × Nat)} {L : List Nat} (h : PwV l L) : L.length ≤ 4096 := by
  rcases h with ⟨h1, h2⟩ | ⟨h1, h2⟩
  · rw [h2.1]; exact h1
  · rw [h2]; simp

theorem fl_news {w : World} {E : Nat} {v : Nat} {t : TypeId} {m : Nat × Nat} (hblk : w.heap[E]? = some (.cells #[.float .f64 v] t m)) : ∀ j u, [fl v][j]? = some u → w.cell? ((⟨E, 0, none⟩ : Addr).add j) = some u := by
  have := World.news_of_block hblk
  simpa [fl] using this

theorem re_map {w : World} {B n v : Nat} {V : Value} {L : List Nat} (h : Hid (w.ownsRow B 26 1 V n (L.map fl ++ [fl v]))) : Hid (w.ownsRow B 26 1 V n ((L ++ [v]).map fl)) := hide (by rw [List.map_append]; exact unhide h)

end Go.Proofs.Ytmhciigjjamjkaa
