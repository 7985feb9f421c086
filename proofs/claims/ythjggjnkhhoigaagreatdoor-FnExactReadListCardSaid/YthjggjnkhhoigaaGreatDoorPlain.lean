/-
  Plain facts on whole numbers for the chapter on time: the greatest common divisor, what a right rate is, its base. No program is named here; there are no conditions.
-/
import Derived.WalkKit
namespace Go.Proofs.YthjggjnkhhoigaaGreatDoor.Pl

def gc (a b : Int) : Int := ((Int.gcd a b : Nat) : Int)
theorem gc_zero {a : Int} (h : 0 ≤ a) : gc a 0 = a := by
  unfold gc; rw [Int.gcd_zero_right]; omega
theorem gc_step (a b : Int) : gc b (a % b) = gc a b := by
  have h : a % b + b * (a / b) = a := Int.emod_add_mul_ediv a b
  have e := Int.gcd_add_mul_left_right b (a % b) (a / b)
  rw [h] at e
  unfold gc; rw [Int.gcd_comm a b, e]

def rok (n d : Int) (dr : Bool) : Bool :=
  (decide (1 ≤ n) && decide (n ≤ 240000) && decide (1 ≤ d) && decide (d ≤ 1001) && (gc n d == 1) && decide (n ≤ 120 * d)) && (!dr || (d == 1001 && (n == 30000 || n == 60000)))

theorem rok_bd {n d : Int} {dr : Bool} (h : rok n d dr = true) : 1 ≤ n ∧ n ≤ 240000 ∧ 1 ≤ d ∧ d ≤ 1001 ∧ n ≤ 120 * d := by
  simp [rok] at h; omega

def base (n d : Int) (dr : Bool) : Int := if rok n d dr = true then (n + d - 1) / d else 0

def isf (f : Int) : Bool := decide (0 ≤ f) && decide (f ≤ 10000000)
theorem isf_bd {f : Int} (h : isf f = true) : 0 ≤ f ∧ f ≤ 10000000 := by simp [isf] at h; exact h
theorem isf_mk {f : Int} (h : 0 ≤ f ∧ f ≤ 10000000) : isf f = true := by simp [isf]; exact h
theorem isf_no {f : Int} (h : ¬ (0 ≤ f ∧ f ≤ 10000000)) : isf f = false := by simp [isf]; omega

def inst (n d : Int) (dr : Bool) (f u : Int) : Int :=
  if rok n d dr = true ∧ isf f = true ∧ 1 ≤ u ∧ u ≤ 1000000 then f * d * u / n else -1
def fin (n d : Int) (dr : Bool) (m e : Int) (ds : Bool) (f : Int) : Int :=
  if rok n d dr = true ∧ rok m e ds = true ∧ isf f = true then (if isf (f * d * m / (n * e)) = true then f * d * m / (n * e) else -1) else -1

theorem mul_bd {a b A B : Int} (h0 : 0 ≤ a) (h1 : a ≤ A) (h2 : 0 ≤ b) (h3 : b ≤ B) : 0 ≤ a * b ∧ a * b ≤ A * B :=
  ⟨Int.mul_nonneg h0 h2, Int.mul_le_mul h1 h3 h2 (by omega)⟩

end Go.Proofs.YthjggjnkhhoigaaGreatDoor.Pl
