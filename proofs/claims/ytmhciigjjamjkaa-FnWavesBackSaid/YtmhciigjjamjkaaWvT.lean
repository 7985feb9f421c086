/-
  The program's list of sums as it stands; no conditions.
-/
import Derived.Test.YtmhciigjjamjkaaWvP
namespace Go.Proofs.Ytmhciigjjamjkaa
open Go.RowKit
set_option linter.unusedVariables false
set_option linter.unusedSimpArgs false

/-- L are the first k sums -/
def TsL (bk : Bool) (l : List (Nat × Nat)) (k : Nat) (L : List (Nat × Nat)) : Prop := L.length = k ∧ ∀ (j : Nat) (v : Nat × Nat), L[j]? = some v → Pk l (fS bk l.length j) l.length v
theorem TsL.nil (bk : Bool) (l : List (Nat × Nat)) : TsL bk l 0 [] := ⟨rfl, fun j v h => by simp at h⟩
theorem TsL.snoc {bk : Bool} {l : List (Nat × Nat)} {k : Nat} {L : List (Nat × Nat)} {v : Nat × Nat} (h : TsL bk l k L) (hv : Pk l (fS bk l.length k) l.length v) : TsL bk l (k + 1) (L ++ [v]) := by
  refine ⟨by simp [h.1], ?_⟩
  intro j u hu
  by_cases e : j < k
  · rw [List.getElem?_append_left (by rw [h.1]; exact e)] at hu
    exact h.2 j u hu
  · by_cases e2 : j = k
    · subst e2
      rw [List.getElem?_append_right (by rw [h.1]; exact Nat.le_refl _), h.1] at hu
      simp at hu
      subst hu
      exact hv
    · rw [List.getElem?_append_right (by rw [h.1]; omega), h.1] at hu
      have : j - k = (j - k - 1) + 1 := by omega
      rw [this] at hu
      simp at hu
/-- the list as it stands: the first are there, nought behind them -/
def midL (L : List (Nat × Nat)) (n : Nat) : List (Nat × Nat) := L ++ List.replicate (n - L.length) (0, 0)
theorem midL_len {L : List (Nat × Nat)} {n : Nat} (h : L.length ≤ n) : (midL L n).length = n := by simp [midL]; omega
theorem midL_set {L : List (Nat × Nat)} {n : Nat} {v : Nat × Nat} (h : L.length < n) : (midL L n).set L.length v = midL (L ++ [v]) n := by
  unfold midL
  rw [List.set_append_right _ _ (Nat.le_refl _)]
  have e : n - L.length = (n - (L.length + 1)) + 1 := by omega
  rw [Nat.sub_self, e, List.replicate_succ]
  simp
theorem midL_set' {L : List (Nat × Nat)} {n j : Nat} {v : Nat × Nat} (hj : L.length = j) (h : j < n) : (midL L n).set j v = midL (L ++ [v]) n := by subst hj; exact midL_set h
theorem wrap_id {x : Int} (h0 : -1000000 ≤ x) (h1 : x ≤ 1000000) : IntKind.i64.wrap x = x := by
  rw [IntKind.wrap_i64]; omega
theorem keepNew {w : World} {u v : Value} {t : TypeId} : (w.alloc (.cells #[u, v] t)).drew.cell? ⟨w.heap.size, 0, none⟩ = some u ∧ (w.alloc (.cells #[u, v] t)).drew.cell? ⟨w.heap.size, 1, none⟩ = some v ∧ Below w.heap.size w (w.alloc (.cells #[u, v] t)).drew :=
  ⟨by simp [go_sem], by simp [go_sem], ((Below.refl _ _).alloc (Nat.le_refl _) _).drew⟩

/-- the cells of a new block, and all that was there -/
def Kp (w : World) (u v : Value) (w' : World) : Prop := w'.cell? ⟨w.heap.size, 0, none⟩ = some u ∧ w'.cell? ⟨w.heap.size, 1, none⟩ = some v ∧ Below w.heap.size w w'
theorem kp_next {w w0 w1 : World} {u v : Value} (h : Hid (Kp w u v w0)) (hb : Below w0.heap.size w0 w1) : Hid (Kp w u v w1) := keep2 h hb
theorem kp_first {w w1 : World} {u v : Value} {t : TypeId} (hb : Below (w.alloc (.cells #[u, v] t)).drew.heap.size (w.alloc (.cells #[u, v] t)).drew w1) : Hid (Kp w u v w1) := keep2 keepNew hb
theorem kp_out {w w1 : World} {u v : Value} (h : Hid (Kp w u v w1)) : w1.cell? ⟨w.heap.size, 0, none⟩ = some u ∧ w1.cell? ⟨w.heap.size, 1, none⟩ = some v ∧ Hid (Below w.heap.size w w1) := h

end Go.Proofs.Ytmhciigjjamjkaa
