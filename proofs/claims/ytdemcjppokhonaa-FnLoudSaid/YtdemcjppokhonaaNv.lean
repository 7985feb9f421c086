/-
  Plain: floats of 64 bits by value with one NaN for all, and lists of numbers that are each the same as a told one; no conditions.
-/
import Derived.Test.YtdemcjppokhonaaPw2
import Derived.Outline
namespace Go.Proofs.Ytdemcjppokhonaa
open Go.RowKit
set_option linter.unusedVariables false
set_option linter.unusedSimpArgs false

/-- one NaN for all -/
def QN : Nat := 9221120237041090561
theorem nan_QN : NaN QN := by unfold NaN QN; decide +kernel
theorem Sm.trans {x y z : Nat} (h : Sm x y) (k : Sm y z) : Sm x z := by
  rcases h with rfl | ⟨a, b⟩
  · exact k
  · rcases k with rfl | ⟨c, d⟩
    · exact .inr ⟨a, b⟩
    · exact .inr ⟨a, d⟩
/-- what an operation gives, all NaNs one -/
def nv (op : BinOp) (x y : Nat) : Nat := (floatBits op .f64 x y).getD QN
theorem Res.nv {op : BinOp} {x y v : Nat} (h : Res op x y v) : Sm v (nv op x y) := by
  unfold Ytdemcjppokhonaa.nv
  rcases h with h | ⟨h, n⟩
  · rw [h]; exact Sm.rfl
  · rw [h]; exact .inr ⟨n, nan_QN⟩
theorem bits_sm {op : BinOp} {x y x' y' : Nat} (hx : Sm x x') (hy : Sm y y') : floatBits op .f64 x y = floatBits op .f64 x' y' := by
  rcases hx with rfl | ⟨n1, n2⟩
  · rcases hy with rfl | ⟨m1, m2⟩
    · rfl
    · rw [bits_nan_right m1, bits_nan_right m2]
  · rw [bits_nan_left n1, bits_nan_left n2]
theorem nv_sm {op : BinOp} {x y x' y' : Nat} (hx : Sm x x') (hy : Sm y y') : nv op x y = nv op x' y' := by
  unfold nv; rw [bits_sm hx hy]
theorem fv_sm {op : BinOp} {x y x' y' : Nat} {w : World} (hx : Sm x x') (hy : Sm y y') : Sm (fv op x y w) (nv op x' y') := by
  rw [← nv_sm hx hy]; exact (fv_res op x y w).nv
theorem fv_nv {op : BinOp} {x y : Nat} {w : World} : Sm (fv op x y w) (nv op x y) := (fv_res op x y w).nv

/-- L are k numbers, each as f tells -/
def Ls (f : Nat → Nat) (k : Nat) (L : List Nat) : Prop := L.length = k ∧ ∀ j v, L[j]? = some v → Sm v (f j)
theorem Ls.nil (f : Nat → Nat) : Ls f 0 [] := ⟨rfl, fun j v h => by simp at h⟩
theorem Ls.snoc {f : Nat → Nat} {k v : Nat} {L : List Nat} (h : Ls f k L) (hv : Sm v (f k)) : Ls f (k + 1) (L ++ [v]) := by
  refine ⟨by simp [h.1], ?_⟩
  intro j u hu
  by_cases e : j < k
  · rw [List.getElem?_append_left (by rw [h.1]; exact e)] at hu
    exact h.2 j u hu
  · rw [List.getElem?_append_right (by rw [h.1]; omega), h.1] at hu
    by_cases e2 : j = k
    · subst e2
      simp at hu
      subst hu
      exact hv
    · have : j - k = (j - k - 1) + 1 := by omega
      rw [this] at hu
      simp at hu
theorem Ls.sm {f : Nat → Nat} {k : Nat} {L M : List Nat} (h : Ls f k L) (h' : Ls f k M) : SmL L M :=
  ⟨h.1.trans h'.1.symm, fun j x y hx hy => (h.2 j x hx).trans (h'.2 j y hy).symm⟩
theorem Ls.congr {f g : Nat → Nat} {k : Nat} {L : List Nat} (h : Ls f k L) (e : ∀ j, j < k → f j = g j) : Ls g k L :=
  ⟨h.1, fun j v hv => by rw [← e j (by have := (List.getElem?_eq_some_iff.1 hv).1; rw [h.1] at this; exact this)]; exact h.2 j v hv⟩
theorem Ls.at {f : Nat → Nat} {k j : Nat} {L : List Nat} (h : Ls f k L) (hj : j < k) : ∃ v, L[j]? = some v ∧ Sm v (f j) := by
  have : j < L.length := by rw [h.1]; exact hj
  exact ⟨L[j], List.getElem?_eq_getElem this, h.2 j _ (List.getElem?_eq_getElem this)⟩
/-- number j of a list -/
def nth (l : List Nat) (j : Nat) : Nat := l.getD j 0
theorem nth_of {l : List Nat} {j x : Nat} (h : l[j]? = some x) : nth l j = x := by unfold nth; rw [List.getD_eq_getElem?_getD, h]; rfl
theorem Ls.self (l : List Nat) : Ls (nth l) l.length l := ⟨rfl, fun j v h => by rw [nth_of h]; exact Sm.rfl⟩
theorem Ls.app {f : Nat → Nat} {k m : Nat} {L M : List Nat} (h : Ls f k L) (h' : Ls (fun j => f (k + j)) m M) : Ls f (k + m) (L ++ M) := by
  refine ⟨by simp [h.1, h'.1], ?_⟩
  intro j u hu
  by_cases e : j < k
  · rw [List.getElem?_append_left (by rw [h.1]; exact e)] at hu
    exact h.2 j u hu
  · rw [List.getElem?_append_right (by rw [h.1]; omega), h.1] at hu
    have := h'.2 (j - k) u hu
    have e3 : k + (j - k) = j := by omega
    simp only [e3] at this
    exact this
theorem own_mono2 {w : World} {n : Nat} {v : Value} {B B' : Nat} {xs : List Value} (h : w.ownsRow B 25 1 v n xs) (hB : B' ≤ B) : w.ownsRow B' 25 1 v n xs := own_mono h hB

/-- an answer: a list of its own in memory, of N numbers as f tells -/
def Ans (f : Nat → Nat) (N : Nat) (w : World) (e : Ending) (w' : World) : Prop :=
  ∃ g cap L, e = .returned (.slice (some ⟨g, 0, none⟩) L.length cap) ∧ w.heap.size ≤ g ∧ w'.ownsRow w.heap.size 25 1 (.slice (some ⟨g, 0, none⟩) L.length cap) L.length (L.map fl) ∧ Ls f N L ∧ Below w.heap.size w w'
/-- the same, L.length written as N -/
theorem Ans.mk {f : Nat → Nat} {N g cap : Nat} {L : List Nat} {w w' : World} (h1 : w.heap.size ≤ g) (h2 : w'.ownsRow w.heap.size 25 1 (.slice (some ⟨g, 0, none⟩) N cap) N (L.map fl)) (h3 : Ls f N L) (h4 : Below w.heap.size w w') : Ans f N w (.returned (.slice (some ⟨g, 0, none⟩) N cap)) w' := by
  have e := h3.1
  subst e
  exact ⟨g, cap, L, rfl, h1, h2, h3, h4⟩
end Go.Proofs.Ytdemcjppokhonaa
