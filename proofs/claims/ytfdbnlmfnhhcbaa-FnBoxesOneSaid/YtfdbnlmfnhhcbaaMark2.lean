/-
  Contracts of the law's functions that mark a list of boxes and look for the marks again.
-/
import Derived.Test.YtfdbnlmfnhhcbaaMark
import Derived.Deep.RegionHeld3
namespace Go.Proofs.Ytfdbnlmfnhhcbaa
open Go.RowKit
set_option linter.unusedVariables false
set_option linter.unusedSimpArgs false

theorem endK_le (k : Nat) (l : List Bx) (i : Nat) : endK k (l.take i) ≤ endK k l := by
  induction l generalizing k i with
  | nil => simp [endK]
  | cons x t ih =>
    cases i with
    | zero =>
      simp [endK]
      have : ∀ k (t : List Bx), k ≤ endK k t := by
        intro k t
        induction t generalizing k with
        | nil => exact Nat.le_refl _
        | cons y u ihu => have := ihu (nxt k y); unfold nxt at this; simp [endK, nxt]; omega
      have h1 := this (nxt k x) t
      unfold nxt at h1 ⊢
      omega
    | succ i => simpa [endK] using ih (nxt k x) i
theorem endK_ge (k : Nat) (t : List Bx) : k ≤ endK k t := by
  have := endK_le k t 0
  simpa [endK] using this

theorem markL_get (k : Nat) (l : List Bx) (i : Nat) (x : Bx) (h : l[i]? = some x) : (markL k l)[i]? = some (mkX (endK k (l.take i)) x) := by
  induction l generalizing k i with
  | nil => simp at h
  | cons y t ih =>
    cases i with
    | zero => simp at h; subst h; rfl
    | succ i => simp [markL, endK] at h ⊢; exact ih (nxt k y) i h

theorem keep1 {w w0 w1 : World} {a1 : Addr} {v1 : Value} (h : w0.cell? a1 = some v1 ∧ Below w.heap.size w w0) (hb : Below w0.heap.size w0 w1) : w1.cell? a1 = some v1 ∧ Below w.heap.size w w1 :=
  ⟨cell_later hb h.1, h.2.trans (hb.mono h.2.size)⟩
theorem keep1d {w w0 : World} {a1 : Addr} {v1 : Value} (h : w0.cell? a1 = some v1 ∧ Below w.heap.size w w0) : w0.drew.cell? a1 = some v1 ∧ Below w.heap.size w w0.drew := ⟨h.1, h.2.drew⟩
end Go.Proofs.Ytfdbnlmfnhhcbaa
