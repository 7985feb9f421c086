/-
  Plain facts on decimal digits: the digits of a whole number from 0 on, and of one in at least so many digits. No program is named here; there are no conditions.
-/
import Derived.WalkKit
namespace Go.Proofs.YtcpllfjhhlbmiaaDoor.Pl

def dg (n : Nat) : UInt8 := UInt8.ofNat (48 + n % 10)
theorem dg_toNat (n : Nat) : (dg n).toNat = 48 + n % 10 := by unfold dg; simp; omega

def decF : Nat → Nat → List UInt8
  | 0, _ => []
  | k + 1, n => if n < 10 then [dg n] else decF k (n / 10) ++ [dg n]
def dec (n : Nat) : List UInt8 := decF (n + 1) n
theorem decF_enough : ∀ (f g n : Nat), n < f → n < g → decF f n = decF g n := by
  intro f
  induction f with
  | zero => intro g n h; omega
  | succ f ih =>
    intro g n h1 h2
    cases g with
    | zero => omega
    | succ g =>
      unfold decF
      by_cases h : n < 10
      · rw [if_pos h, if_pos h]
      · rw [if_neg h, if_neg h, ih g (n / 10) (by omega) (by omega)]
theorem dec_small {n : Nat} (h : n < 10) : dec n = [dg n] := by unfold dec decF; rw [if_pos h]
theorem dec_step {n : Nat} (h : 10 ≤ n) : dec n = dec (n / 10) ++ [dg n] := by
  unfold dec
  rw [decF, if_neg (by omega), decF_enough n (n / 10 + 1) (n / 10) (by omega) (by omega)]
/-- the digits of what is left ahead of what is there; nothing of 0 -/
def decOn (x : Nat) (acc : List UInt8) : List UInt8 := if x = 0 then acc else dec x ++ acc
theorem decOn_step {x : Nat} (acc : List UInt8) (h : x ≠ 0) : decOn (x / 10) (dg x :: acc) = decOn x acc := by
  unfold decOn
  rw [if_neg h]
  by_cases h1 : x < 10
  · rw [if_pos (by omega), dec_small h1]; rfl
  · rw [if_neg (by omega), dec_step (n := x) (by omega)]; simp
theorem decOn_first (n : Nat) : decOn (n / 10) [dg n] = dec n := by
  by_cases h : n = 0
  · subst h; rfl
  · rw [decOn_step [] h, decOn, if_neg h, List.append_nil]
theorem dec_length_lt : ∀ (k n : Nat), n < 10 ^ (k + 1) → (dec n).length ≤ k + 1 := by
  intro k
  induction k with
  | zero => intro n h; rw [dec_small (by simpa using h)]; simp
  | succ k ih =>
    intro n h
    by_cases h1 : n < 10
    · rw [dec_small h1]; simp
    · rw [dec_step (by omega)]
      have := ih (n / 10) (by rw [Nat.pow_succ] at h; omega)
      simp; omega
theorem dec_ne (n : Nat) : dec n ≠ [] := by
  by_cases h : n < 10
  · rw [dec_small h]; simp
  · rw [dec_step (by omega)]; simp

/-- in at least k digits -/
def wide (k n : Nat) : List UInt8 := List.replicate (k - (dec n).length) 48 ++ dec n
def two (n : Nat) : List UInt8 := [dg (n / 10), dg n]
def three (n : Nat) : List UInt8 := [dg (n / 100), dg (n / 10), dg n]
theorem dec_two {n : Nat} (h : 10 ≤ n) (h2 : n < 100) : dec n = [dg (n / 10), dg n] := by rw [dec_step h, dec_small (by omega)]; rfl
theorem dec_three {n : Nat} (h : 100 ≤ n) (h2 : n < 1000) : dec n = [dg (n / 100), dg (n / 10), dg n] := by
  rw [dec_step (by omega), dec_two (by omega) (by omega), show n / 10 / 10 = n / 100 by omega]; rfl
theorem dg_zero {n : Nat} (h : n % 10 = 0) : dg n = 48 := by unfold dg; rw [h]; rfl
theorem wide_two {n : Nat} (h : n < 100) : wide 2 n = two n := by
  unfold wide two
  by_cases h1 : n < 10
  · rw [dec_small h1, dg_zero (n := n / 10) (by omega)]; rfl
  · rw [dec_two (by omega) h]; rfl
theorem wide_three {n : Nat} (h : n < 1000) : wide 3 n = three n := by
  unfold wide three
  by_cases h1 : n < 10
  · rw [dec_small h1, dg_zero (n := n / 10) (by omega), dg_zero (n := n / 100) (by omega)]; rfl
  by_cases h2 : n < 100
  · rw [dec_two (by omega) h2, dg_zero (n := n / 100) (by omega)]; rfl
  · rw [dec_three (by omega) h]; rfl

end Go.Proofs.YtcpllfjhhlbmiaaDoor.Pl
