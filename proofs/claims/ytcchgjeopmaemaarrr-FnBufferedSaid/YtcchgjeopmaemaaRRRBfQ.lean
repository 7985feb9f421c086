/-
  Plain: what a buffer tells of each picture; no program is named.
-/
import Derived.Test.YtcchgjeopmaemaaRRRBuP
import Derived.Test.YtcchgjeopmaemaaRRRTnP
namespace Go.Proofs.YtcchgjeopmaemaaRRR
set_option linter.unusedVariables false
set_option linter.unusedSimpArgs false

/-- what is told of picture i -/
def bufY (r m : Int) (l : List Int) (i : Nat) : Int := if (bufR r m (l.take i)).1 < nth l i then -1 else min ((bufR r m (l.take i)).1 - nth l i + r) m
theorem bufR_at (r m : Int) (l : List Int) : ∀ k, k ≤ l.length → ∀ i, i < k → (bufR r m (l.take k)).2[i]? = some (bufY r m l i) := by
  intro k
  induction k with
  | zero => intro _ i hi; omega
  | succ k ih =>
    intro hk i hi
    have e := nth_at (l := l) (i := k) (by omega)
    rw [take_snocI e, bufR_snoc]
    have hlen := bufR_len r m l k (by omega)
    by_cases h : i < k
    · have := ih (by omega) i h
      have hs : ∃ z, (bufS r m (bufR r m (l.take k)) (nth l k)).2 = (bufR r m (l.take k)).2 ++ [z] := by unfold bufS; split <;> exact ⟨_, rfl⟩
      obtain ⟨z, hz⟩ := hs
      rw [hz, List.getElem?_append_left (by omega)]
      exact this
    · have hik : i = k := by omega
      subst hik
      unfold bufS bufY
      split
      · rw [List.getElem?_append_right (by omega), hlen, Nat.sub_self]; rfl
      · rw [List.getElem?_append_right (by omega), hlen, Nat.sub_self]; rfl
theorem bufY_bd {r m : Int} {l : List Int} (h : BufOk l r m) {i : Nat} (hi : i < l.length) : -1 ≤ bufY r m l i ∧ bufY r m l i ≤ m ∧ (0 ≤ bufY r m l i → nth l i ≤ m) ∧ (nth l i = 0 → 0 ≤ bufY r m l i) := by
  have hb := bufR_bd h.2.1.1 h.2.2.1 h.1.1 i (by omega)
  have e := nth_at (l := l) (i := i) hi
  have hx := h.1.1 _ (List.mem_of_getElem? e)
  have r0 := h.2.1.1
  have m0 := h.2.2.1
  unfold Fr7 at hx
  unfold bufY
  split <;> omega
/-- all that the law asks of what is told -/
theorem buf_fact (l : List Int) (r m : Int) {i : Nat} {x : Int} (hx : (bufOf l r m)[i]? = some x) : ∃ s, l[i]? = some s ∧ -1 ≤ x ∧ x ≤ m ∧ (0 ≤ x → s ≤ m) ∧ (s = 0 → 0 ≤ x) := by
  by_cases h : BufOk l r m
  · rw [buf_yes h] at hx
    have hlen := bufR_len r m l l.length (Nat.le_refl _)
    rw [List.take_length] at hlen
    have hi : i < l.length := by have := (List.getElem?_eq_some_iff.1 hx).1; omega
    have hy := bufR_at r m l l.length (Nat.le_refl _) i hi
    rw [List.take_length, hx] at hy
    injection hy with hy
    subst hy
    obtain ⟨a, b, c, d⟩ := bufY_bd h hi
    exact ⟨_, nth_at hi, a, b, c, d⟩
  · rw [buf_no h] at hx; simp at hx
end Go.Proofs.YtcchgjeopmaemaaRRR
