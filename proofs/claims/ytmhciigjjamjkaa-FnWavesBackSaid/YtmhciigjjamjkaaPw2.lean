/-
  Contract of the program's Power: it gives a new list of the powers; nothing that was there is written.
-/
import Derived.Test.YtmhciigjjamjkaaPw
namespace Go.Proofs.Ytmhciigjjamjkaa
open Go.RowKit
set_option linter.unusedVariables false
set_option linter.unusedSimpArgs false

/-- the list as it stands: the first are there, nought behind them -/
def midF (L : List Nat) (n : Nat) : List Value := L.map fl ++ List.replicate (n - L.length) (fl 0)
theorem midF_set {L : List Nat} {n v : Nat} (h : L.length < n) : (midF L n).set L.length (fl v) = midF (L ++ [v]) n := by
  unfold midF
  rw [List.set_append_right _ _ (by simp)]
  have e : n - L.length = (n - (L.length + 1)) + 1 := by omega
  have e2 : L.length - (L.map fl).length = 0 := by simp
  rw [e2, e, List.replicate_succ]
  simp
theorem midF_own {w W2 : World} {B g n k v : Nat} {L : List Nat} (hL : L.length = k) (hk : k < n) (h : w.ownsRow B 26 1 (.slice (some ⟨g, 0, none⟩) n n) n (midF L n)) (hb : Below w.heap.size w W2) :
    (W2.setCell ⟨g, k, none⟩ (.float .f64 v)).ownsRow B 26 1 (.slice (some ⟨g, 0, none⟩) n n) n (midF (L ++ [v]) n) := by
  subst hL
  have h1 := ((ownsRow_below h hb).stored L.length (fl v)).1
  rw [midF_set hk] at h1
  exact h1
theorem midF_cell {w : World} {B g n k : Nat} {L : List Nat} (hL : L.length = k) (hk : k < n) (h : w.ownsRow B 26 1 (.slice (some ⟨g, 0, none⟩) n n) n (midF L n)) :
    w.cell? ⟨g, k, none⟩ = some (.float .f64 0) ∧ w.frozen? ⟨g, k, none⟩ = false := by
  refine ⟨?_, h.frozenAt k⟩
  subst hL
  rw [h.cellAt L.length (by omega)]
  unfold midF
  rw [List.getElem?_append_right (by simp)]
  have e : n - L.length = (n - (L.length + 1)) + 1 := by omega
  have e2 : L.length - (L.map fl).length = 0 := by simp
  rw [e2, e, List.replicate_succ]; rfl

end Go.Proofs.Ytmhciigjjamjkaa
