/-
  Plain facts on a box that was found: it has the path's last kind, and is as deep as the path has parts. No program is named here; no conditions.
-/
import Derived.Test.YtdiamcejpjopgaaFindP
namespace Go.Proofs.Ytdiamcejpjopgaa
open Go.RowKit
set_option linter.unusedVariables false
set_option linter.unusedSimpArgs false

theorem hit_box {l : List Bx} {d : Int} {k : List UInt8} {j : Nat} (h : hit l d k j = true) : ∃ x, l[j]? = some x ∧ x.d = d ∧ x.k.data.toList = k := by
  unfold hit at h
  split at h
  · rename_i x hx
    simp at h
    exact ⟨x, hx, h.1, h.2⟩
  · simp at h
theorem sfound (l : List Bx) : ∀ (n dep a b : Nat) (p : List UInt8) (q : Nat), sfind l n dep a b p = (q : Int) → 4 ≤ p.length ∧ ∃ x, l[q]? = some x ∧ x.k.data.toList = p.drop (p.length - 4) ∧ x.d = (dep : Int) + (p.length / 5 : Nat) := by
  intro n
  induction n with
  | zero => intro dep a b p q h; unfold sfind at h; omega
  | succ n ih =>
    intro dep a b p q h
    unfold sfind at h
    rcases pkN_cases l dep (p.take 4) (b - a) a with h1 | ⟨r, h1, _, _, hr⟩
    · rw [h1] at h
      have : (-1 : Int) = (q : Int) := h
      omega
    · rw [h1] at h
      have h' : (if p.length = 4 then (r : Int) else if p[4]? = some 47 then sfind l n (dep + 1) (r + 1) (eoN l dep (b - (r + 1)) (r + 1)) (p.drop 5) else -1) = (q : Int) := h
      obtain ⟨x, hx, hd, hk⟩ := hit_box hr
      split at h'
      · rename_i h4
        have e : r = q := by omega
        subst e
        refine ⟨by omega, x, hx, ?_, ?_⟩
        · rw [hk, h4, List.take_of_length_le (by omega)]; rfl
        · rw [hd, h4]; simp
      · split at h'
        · rename_i h4 h47
          have hl : 4 < p.length := (List.getElem?_eq_some_iff.1 h47).1
          obtain ⟨g0, y, hy, hky, hdy⟩ := ih (dep + 1) _ _ _ q h'
          rw [List.length_drop] at g0 hky hdy
          refine ⟨by omega, y, hy, ?_, ?_⟩
          · rw [hky, List.drop_drop]; congr 1; omega
          · rw [hdy]; omega
        · omega
theorem found {l : List Bx} {p : List UInt8} {q : Nat} (h : find l p = (q : Int)) : 4 ≤ p.length ∧ ∃ x, l[q]? = some x ∧ x.k.data.toList = p.drop (p.length - 4) ∧ x.d = ((p.length / 5 : Nat) : Int) := by
  cases hok : ok l
  · unfold find at h
    rw [hok] at h
    have h' : (-1 : Int) = (q : Int) := h
    omega
  · rw [find_s hok] at h
    split at h
    · obtain ⟨h1, x, h2, h3, h4⟩ := sfound l _ _ _ _ _ q h
      exact ⟨h1, x, h2, h3, by rw [h4]; simp⟩
    · omega
end Go.Proofs.Ytdiamcejpjopgaa
