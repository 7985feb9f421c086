/-
  Which floats are noughts; nodes of a graph by their numbers; no program is named.
-/
import Derived.Test.YtfblnnnnkjphjaaGb
namespace Go.Proofs.Ytfblnnnnkjphjaa
open Go.RowKit
set_option linter.unusedVariables false
set_option linter.unusedSimpArgs false

theorem num_zero {s : Bool} {m : Nat} {i j : Int} (h : Ieee.Datum.order (.number s m i) (.number false 0 j) = some .eq) : m = 0 := by
  simp only [Ieee.Datum.order, Option.some.injEq] at h
  generalize (i - min i j).toNat = p at h
  generalize (j - min i j).toNat = q at h
  have h2 : Ieee.signed s m p = Ieee.signed false 0 q := by
    simp only [compare, compareOfLessAndEq] at h
    split at h
    · cases h
    · split at h
      · assumption
      · cases h
  have hp : 0 < 2 ^ p := Nat.pow_pos (by omega)
  have hm : m * 2 ^ p = 0 := by
    rw [← Nat.shiftLeft_eq]
    unfold Ieee.signed at h2
    rw [Nat.zero_shiftLeft] at h2
    generalize m <<< p = M at *
    cases s
    · simp only [Bool.false_eq_true, if_false] at h2; omega
    · simp only [if_true, Bool.false_eq_true, if_false] at h2; omega
  rcases Nat.mul_eq_zero.1 hm with h3 | h3
  · exact h3
  · omega
theorem zero_order {x : Nat} (hx : x < 18446744073709551616) (h : FloatKind.f64.format.order x 0 = some .eq) : x = 0 ∨ x = 9223372036854775808 := by
  have hw : Ieee.double.signWeight = 9223372036854775808 := by decide
  have hi : Ieee.double.infRung = 9218868437227405312 := by decide
  have hb : Ieee.double.binade = 4503599627370496 := by decide
  have h0 : Ieee.double.read 0 = .number false 0 Ieee.double.leastPlace := by decide
  simp only [FloatKind.format, Ieee.Format.order] at h
  rw [h0] at h
  unfold Ieee.Format.read at h
  dsimp only at h
  rw [hw, hi, hb] at h
  by_cases hr : x % 9223372036854775808 = 0
  · omega
  · exfalso
    generalize x % 9223372036854775808 = r at *
    split at h
    · exact hr (num_zero h)
    · split at h
      · have := num_zero h; omega
      · split at h
        · simp [Ieee.Datum.order] at h; split at h <;> cases h
        · simp [Ieee.Datum.order] at h
theorem zero_self : FloatKind.f64.format.order 0 0 = some .eq := by decide
theorem mzero_zero : FloatKind.f64.format.order 9223372036854775808 0 = some .eq := by decide
/-- a nought without a minus -/
abbrev Zf (v : Nat) : Prop := v = 0
def InOk (n i : Int) : Prop := 0 ≤ n ∧ n < i
instance (n i : Int) : Decidable (InOk n i) := by unfold InOk; infer_instance
def NodeOk (k m n : Int) (v : Nat) (i : Int) : Prop :=
  (k = 1 ∧ m = 0 ∧ n = 0 ∧ v = 0) ∨ ((k = 2 ∨ k = 3 ∨ k = 5) ∧ InOk m i ∧ n = 0) ∨ (k = 4 ∧ InOk m i ∧ InOk n i) ∨ ((k = 6 ∨ k = 7) ∧ InOk m i ∧ n = 0 ∧ v = 0)
instance (k m n : Int) (v : Nat) (i : Int) : Decidable (NodeOk k m n v i) := by unfold NodeOk; infer_instance
theorem node_1 {m n : Int} {v : Nat} {i : Int} : decide (NodeOk 1 m n v i) = ((m == 0) && (n == 0) && decide (v = 0)) := by
  rw [Bool.eq_iff_iff, decide_eq_true_iff]; simp [NodeOk, and_assoc]
theorem node_g {k m n : Int} {v : Nat} {i : Int} (hk : k = 2 ∨ k = 3 ∨ k = 5) : decide (NodeOk k m n v i) = (decide (InOk m i) && (n == 0)) := by
  rw [Bool.eq_iff_iff, decide_eq_true_iff]
  rcases hk with rfl | rfl | rfl <;> simp [NodeOk]
theorem node_4 {m n : Int} {v : Nat} {i : Int} : decide (NodeOk 4 m n v i) = (decide (InOk m i) && decide (InOk n i)) := by
  rw [Bool.eq_iff_iff, decide_eq_true_iff]; simp [NodeOk]
theorem node_c {k m n : Int} {v : Nat} {i : Int} (hk : k = 6 ∨ k = 7) : decide (NodeOk k m n v i) = (decide (InOk m i) && (n == 0) && decide (v = 0)) := by
  rw [Bool.eq_iff_iff, decide_eq_true_iff]
  rcases hk with rfl | rfl <;> simp [NodeOk, and_assoc]
theorem node_no {k m n : Int} {v : Nat} {i : Int} (hk : ¬ (k = 1 ∨ k = 2 ∨ k = 3 ∨ k = 4 ∨ k = 5 ∨ k = 6 ∨ k = 7)) : decide (NodeOk k m n v i) = false := by
  rw [decide_eq_false_iff_not]; unfold NodeOk; omega
/-- all are nodes at their places -/
def NsOk (l : List Kl) : Prop := ∀ (j : Nat) (c : Kl), l[j]? = some c → NodeOk c.1 c.2.1 c.2.2.1 c.2.2.2 j
def GrOk (l : List Kl) : Prop := 1 ≤ l.length ∧ l.length ≤ 40 ∧ NsOk l
def NsPre (l : List Kl) (k : Nat) : Prop := ∀ (j : Nat) (c : Kl), j < k → l[j]? = some c → NodeOk c.1 c.2.1 c.2.2.1 c.2.2.2 j
theorem NsPre.zero (l : List Kl) : NsPre l 0 := fun j c h => by omega
theorem NsPre.step {l : List Kl} {k : Nat} {c : Kl} (h : NsPre l k) (hk : l[k]? = some c) (hc : NodeOk c.1 c.2.1 c.2.2.1 c.2.2.2 k) : NsPre l (k + 1) := by
  intro j d hj hd
  by_cases e : j = k
  · subst e; rw [hk] at hd; cases hd; exact hc
  · exact h j d (by omega) hd
theorem NsPre.all {l : List Kl} (h : NsPre l l.length) : NsOk l := fun j c hj => h j c (List.getElem?_eq_some_iff.1 hj).1 hj
/-- the bits of each V are 64 -/
def BdN (l : List Kl) : Prop := ∀ (j : Nat) (c : Kl), l[j]? = some c → c.2.2.2 < 18446744073709551616
end Go.Proofs.Ytfblnnnnkjphjaa
