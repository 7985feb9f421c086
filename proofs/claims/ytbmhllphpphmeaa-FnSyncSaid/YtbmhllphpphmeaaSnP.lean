/-
  Plain facts on sounds of small whole numbers with one peak: how far they agree at a lag is a whole number, greatest where the peaks meet. No program is named here; no conditions.
-/
import Derived.WalkKit
namespace Go.Proofs.Ytbmhllphpphmeaa.Sn
set_option linter.unusedVariables false

/-- one product of the sum -/
def term (A B : List Int) (lag : Int) (i : Nat) : Int := if 0 ≤ (i : Int) + lag ∧ (i : Int) + lag < B.length then A.getD i 0 * B.getD ((i : Int) + lag).toNat 0 else 0
def cor (A B : List Int) (lag : Int) : Nat → Int
  | 0 => 0
  | k + 1 => cor A B lag k + term A B lag k
/-- all numbers are from -1 to 1, but for 500 at P -/
def Peak (A : List Int) (P : Nat) : Prop := P < A.length ∧ A.getD P 0 = 500 ∧ ∀ i, i ≠ P → -1 ≤ A.getD i 0 ∧ A.getD i 0 ≤ 1

theorem mul_small {x y : Int} (h1 : -1 ≤ x) (h2 : x ≤ 1) (h3 : -1 ≤ y) (h4 : y ≤ 1) : -1 ≤ x * y ∧ x * y ≤ 1 := by
  obtain rfl | rfl | rfl : x = -1 ∨ x = 0 ∨ x = 1 := by omega
  · omega
  · omega
  · omega
theorem term_abs {A B : List Int} {P Q : Nat} (hA : Peak A P) (hB : Peak B Q) (lag : Int) (i : Nat) : -250000 ≤ term A B lag i ∧ term A B lag i ≤ 250000 := by
  unfold term
  split
  · have a := hA.2.2 i
    have b := hB.2.2 ((i : Int) + lag).toNat
    by_cases h : i = P
    · subst h
      rw [hA.2.1]
      by_cases h2 : ((i : Int) + lag).toNat = Q
      · rw [h2, hB.2.1]; omega
      · have := b h2; omega
    · have a' := a h
      by_cases h2 : ((i : Int) + lag).toNat = Q
      · rw [h2, hB.2.1]; omega
      · have := mul_small a'.1 a'.2 (b h2).1 (b h2).2; omega
  · omega
theorem cor_abs {A B : List Int} {P Q : Nat} (hA : Peak A P) (hB : Peak B Q) (lag : Int) (k : Nat) : -250000 * (k : Int) ≤ cor A B lag k ∧ cor A B lag k ≤ 250000 * k := by
  induction k with
  | zero => simp [cor]
  | succ k ih =>
    have := term_abs hA hB lag k
    unfold cor
    omega
theorem cor_off {A B : List Int} {P Q : Nat} (hA : Peak A P) (hB : Peak B Q) {lag : Int} (hl : lag ≠ (Q : Int) - P) (k : Nat) : cor A B lag k ≤ k + (if P < k then 500 else 0) + (if (Q : Int) - lag < k then 500 else 0) := by
  induction k with
  | zero =>
    unfold cor
    split <;> split <;> omega
  | succ k ih =>
    unfold cor
    have ht : term A B lag k ≤ 1 + (if k = P then 500 else 0) + (if (Q : Int) - lag = k then 500 else 0) := by
      unfold term
      split
      · rename_i hr
        have a := hA.2.2 k
        have b := hB.2.2 ((k : Int) + lag).toNat
        by_cases h : k = P
        · subst h
          have h2 : ((k : Int) + lag).toNat ≠ Q := by omega
          have := b h2
          rw [hA.2.1, if_pos rfl]
          split <;> omega
        · have a' := a h
          rw [if_neg h]
          by_cases h2 : ((k : Int) + lag).toNat = Q
          · rw [h2, hB.2.1, if_pos (by omega)]; omega
          · have := mul_small a'.1 a'.2 (b h2).1 (b h2).2
            split <;> omega
      · split <;> split <;> omega
    generalize term A B lag k = t at *
    generalize cor A B lag k = c at *
    by_cases e1 : k = P <;> by_cases e2 : (Q : Int) - lag = k <;> by_cases e3 : P < k <;> by_cases e4 : (Q : Int) - lag < k <;> simp only [e1, e2, e3, e4, if_true, if_false] at ih ht <;> split <;> split <;> omega
theorem cor_on {A B : List Int} {P Q : Nat} (hA : Peak A P) (hB : Peak B Q) {lag : Int} (hl : lag = (Q : Int) - P) (k : Nat) : (if P < k then 250000 else 0) - (k : Int) ≤ cor A B lag k := by
  induction k with
  | zero => unfold cor; split <;> omega
  | succ k ih =>
    unfold cor
    have ht : (if k = P then 250000 else -1) ≤ term A B lag k := by
      unfold term
      by_cases h : k = P
      · subst h
        have e : ((k : Int) + lag).toNat = Q := by omega
        rw [if_pos rfl, if_pos ⟨by omega, by have := hB.1; omega⟩, e, hA.2.1, hB.2.1]
        omega
      · rw [if_neg h]
        split
        · have h2 : ((k : Int) + lag).toNat ≠ Q := by omega
          have a' := hA.2.2 k h
          have b' := hB.2.2 _ h2
          exact (mul_small a'.1 a'.2 b'.1 b'.2).1
        · omega
    generalize term A B lag k = t at *
    generalize cor A B lag k = c at *
    by_cases e1 : k = P
    · rw [if_pos e1] at ht
      rw [if_neg (by omega)] at ih
      rw [if_pos (by omega)]
      omega
    · rw [if_neg e1] at ht
      by_cases e3 : P < k
      · rw [if_pos e3] at ih
        rw [if_pos (by omega)]
        omega
      · rw [if_neg e3] at ih
        rw [if_neg (by omega)]
        omega
theorem cor_self {A : List Int} {P : Nat} (hA : Peak A P) (k : Nat) (hk : k ≤ A.length) : (if P < k then 250000 else 0) ≤ cor A A 0 k := by
  induction k with
  | zero => unfold cor; split <;> omega
  | succ k ih =>
    have ih := ih (by omega)
    unfold cor
    have ht : (if k = P then 250000 else 0) ≤ term A A 0 k := by
      unfold term
      have e : ((k : Int) + 0).toNat = k := by omega
      have h5 : 0 ≤ (k : Int) + 0 ∧ (k : Int) + 0 < A.length := ⟨by omega, by omega⟩
      rw [if_pos h5, e]
      by_cases h : k = P
      · subst h
        rw [if_pos rfl, hA.2.1]; omega
      · rw [if_neg h]
        have a' := hA.2.2 k h
        generalize A.getD k 0 = x at *
        obtain rfl | rfl | rfl : x = -1 ∨ x = 0 ∨ x = 1 := by omega
        · decide
        · decide
        · decide
    generalize term A A 0 k = t at *
    generalize cor A A 0 k = c at *
    by_cases e1 : k = P
    · rw [if_pos e1] at ht
      rw [if_neg (by omega)] at ih
      rw [if_pos (by omega)]
      omega
    · rw [if_neg e1] at ht
      by_cases e3 : P < k
      · rw [if_pos e3] at ih
        rw [if_pos (by omega)]
        omega
      · rw [if_neg e3] at ih
        rw [if_neg (by omega)]
        omega
/-- where the peaks meet they agree more than elsewhere -/
theorem cor_best {A B : List Int} {P Q : Nat} (hA : Peak A P) (hB : Peak B Q) (hn : A.length ≤ 100) {lag : Int} (hl : lag ≠ (Q : Int) - P) : cor A B lag A.length < cor A B ((Q : Int) - P) A.length := by
  have h1 := cor_off hA hB hl A.length
  have h2 := cor_on hA hB (lag := (Q : Int) - P) rfl A.length
  rw [if_pos hA.1] at h1 h2
  have h3 : (if (Q : Int) - lag < (A.length : Int) then (500 : Int) else 0) ≤ 500 := by split <;> omega
  omega

end Go.Proofs.Ytbmhllphpphmeaa.Sn
