/-
  Contracts of the law's functions that weigh, copy and hold against each other lists of complex numbers; nothing that was there is written.
-/
import Derived.Test.YtmhciigjjamjkaaFCopy
import Derived.Outline
namespace Go.Proofs.Ytmhciigjjamjkaa
open Go.RowKit
set_option linter.unusedVariables false
set_option linter.unusedSimpArgs false

/-- a list of complex numbers, cell by cell -/
def flC : List (Nat × Nat) → List Value
  | [] => []
  | x :: l => fl x.1 :: fl x.2 :: flC l
theorem flC_len (l : List (Nat × Nat)) : (flC l).length = l.length * 2 := by
  induction l with
  | nil => rfl
  | cons x l ih => simp [flC, ih]; omega
theorem flC_append (l m : List (Nat × Nat)) : flC (l ++ m) = flC l ++ flC m := by
  induction l with
  | nil => rfl
  | cons x l ih => simp [flC, ih]
theorem flC_get {l : List (Nat × Nat)} {j : Nat} {x : Nat × Nat} (h : l[j]? = some x) : (flC l)[j * 2]? = some (fl x.1) ∧ (flC l)[j * 2 + 1]? = some (fl x.2) := by
  induction l generalizing j with
  | nil => simp at h
  | cons y l ih =>
    cases j with
    | zero => simp at h; subst h; exact ⟨rfl, rfl⟩
    | succ j =>
      have h' : l[j]? = some x := by simpa using h
      have := ih h'
      have e1 : (j + 1) * 2 = j * 2 + 1 + 1 := by omega
      rw [e1]
      simpa [flC] using this
theorem cxs_of_own {w : World} {B g n cap : Nat} {l : List (Nat × Nat)} (h : w.ownsRow B 28 2 (.slice (some ⟨g, 0, none⟩) n cap) n (flC l)) : Cxs true g (g + 1) w (some ⟨g, 0, none⟩) l := by
  intro j z hj
  have hl : (flC l).length = n * 2 := h.1
  rw [flC_len] at hl
  have hjl : j < l.length := (List.getElem?_eq_some_iff.1 hj).1
  have hc := h.cellAt (j * 2) (by omega)
  have hd := h.cellAt (j * 2 + 1) (by omega)
  rw [(flC_get hj).1] at hc
  rw [(flC_get hj).2] at hd
  exact ⟨g, 0, rfl, by omega, by omega, by rw [Nat.zero_add]; exact hc, by rw [Nat.zero_add]; exact hd, fun _ => ⟨by rw [Nat.zero_add]; exact h.frozenAt _, by rw [Nat.zero_add]; exact h.frozenAt _⟩⟩

/-- the copy's list as it stands: the first are there, nought behind them -/
def mid (l : List (Nat × Nat)) (n k : Nat) : List (Nat × Nat) := l.take k ++ List.replicate (n - k) (0, 0)
theorem mid_len {l : List (Nat × Nat)} {n k : Nat} (hl : l.length = n) (hk : k ≤ n) : (mid l n k).length = n := by simp [mid]; omega
theorem flC_set {l : List (Nat × Nat)} {k : Nat} {x : Nat × Nat} (hk : k < l.length) : ((flC l).set (k * 2) (fl x.1)).set (k * 2 + 1) (fl x.2) = flC (l.set k x) := by
  induction l generalizing k with
  | nil => simp at hk
  | cons y l ih =>
    cases k with
    | zero => simp [flC]
    | succ k =>
      have e1 : (k + 1) * 2 = k * 2 + 1 + 1 := by omega
      rw [e1]
      simp only [flC, List.set_cons_succ]
      rw [ih (by simpa using hk)]
theorem mid_set {l : List (Nat × Nat)} {n k : Nat} {x : Nat × Nat} (hl : l.length = n) (h : l[k]? = some x) : (mid l n k).set k x = mid l n (k + 1) := by
  have hk : k < l.length := (List.getElem?_eq_some_iff.1 h).1
  unfold mid
  rw [take_snoc h, List.set_append_right _ _ (by simp; omega)]
  have e : n - k = (n - (k + 1)) + 1 := by omega
  rw [e, List.replicate_succ]
  have e2 : k - (l.take k).length = 0 := by simp; omega
  rw [e2]; simp
theorem own_put {w : World} {B g n cap k : Nat} {l : List (Nat × Nat)} {x : Nat × Nat} (hk : k < l.length) (h : w.ownsRow B 28 2 (.slice (some ⟨g, 0, none⟩) n cap) n (flC l)) :
    ((w.setCell ⟨g, k * 2, none⟩ (.float .f64 x.1)).setCell ⟨g, k * 2 + 1, none⟩ (.float .f64 x.2)).ownsRow B 28 2 (.slice (some ⟨g, 0, none⟩) n cap) n (flC (l.set k x)) := by
  have h1 := (h.stored (k * 2) (fl x.1)).1
  have h2 := (h1.stored (k * 2 + 1) (fl x.2)).1
  rw [flC_set hk] at h2
  exact h2
theorem own_cells {w : World} {B g n cap k : Nat} {l : List (Nat × Nat)} (hk : k < l.length) (h : w.ownsRow B 28 2 (.slice (some ⟨g, 0, none⟩) n cap) n (flC l)) :
    w.cell? ⟨g, k * 2, none⟩ = some (.float .f64 l[k].1) ∧ w.cell? ⟨g, k * 2 + 1, none⟩ = some (.float .f64 l[k].2) ∧ w.frozen? ⟨g, k * 2, none⟩ = false ∧ w.frozen? ⟨g, k * 2 + 1, none⟩ = false := by
  obtain ⟨b, o, e, _, _, c0, c1, hf⟩ := cxs_of_own h k l[k] (List.getElem?_eq_getElem hk)
  injection e with e
  injection e with e1 e2 _
  subst e1 e2
  rw [Nat.zero_add] at c0 c1
  have := hf rfl
  rw [Nat.zero_add] at this
  exact ⟨c0, c1, this.1, this.2⟩
theorem flC_rep (n : Nat) : flC (List.replicate n (0, 0)) = List.replicate (n * 2) (fl 0) := by
  induction n with
  | zero => rfl
  | succ n ih =>
    have e : (n + 1) * 2 = n * 2 + 1 + 1 := by omega
    rw [e, List.replicate_succ, List.replicate_succ, List.replicate_succ, ← ih]
    rfl
theorem made_flC (n : Nat) : (madeCells #[.float .f64 0, .float .f64 0] (n * 2)).toList = flC (List.replicate n (0, 0)) := by
  rw [flC_rep]
  apply List.ext_getElem
  · simp [madeCells]
  · intro i h1 h2
    simp [madeCells, fl]
    have : i % 2 = 0 ∨ i % 2 = 1 := by omega
    rcases this with h | h <;> simp [h]

end Go.Proofs.Ytmhciigjjamjkaa
