/-
  A quotient by 1, 2, 4 or 8 is off by E at most; sums of products with roots, how near they are to what they stand for. No conditions.
-/
import Derived.Test.YtmhciigjjamjkaaRnB
import Derived.Test.YtmhciigjjamjkaaWvP
namespace Go.Proofs.Ytmhciigjjamjkaa.Rn
open Go.Proofs.Ytmhciigjjamjkaa.Ie
set_option linter.unusedVariables false

theorem read_lt {x m : Nat} {s : Bool} {p : Int} (h : Ieee.double.read x = .number s m p) : m < 9007199254740992 := by
  unfold Ieee.Format.read at h
  dsimp only at h
  rw [dbl_b, dbl_i, dbl_s] at h
  split at h
  · cases h; omega
  · split at h
    · cases h
      have := Nat.mod_lt (x % 9223372036854775808) (show 4503599627370496 > 0 by decide)
      omega
    · split at h <;> cases h

theorem vl_quo {x y z : Nat} {a : Int} (d : Nat) (hd : d ≤ 3) (hy : Ieee.double.read y = .number false 4503599627370496 (-52 + (d : Int))) (hx : Vl x a) (h1 : -(1048576 * U) ≤ a) (h2 : a ≤ 1048576 * U) (h : Res .quo x y z) :
    ∃ v, Vl z v ∧ -(2 ^ d * E) ≤ 2 ^ d * v - a ∧ 2 ^ d * v - a ≤ 2 ^ d * E := by
  obtain ⟨s, m, q, rx, rfl⟩ := hx
  have hm := read_lt rx
  have hl : m.log2 ≤ 52 := by
    by_cases h0 : m = 0
    · subst h0; decide
    · have : 2 ^ m.log2 ≤ m := Nat.log2_self_le h0
      have n53 : (2 : Nat) ^ 53 = 9007199254740992 := by decide
      have h3 : 2 ^ m.log2 < 2 ^ 53 := by omega
      have := (Nat.pow_lt_pow_iff_right (a := 2) (by decide)).1 h3
      omega
  obtain ⟨k, hk⟩ : ∃ k, 54 + (4503599627370496 : Nat).log2 - m.log2 = k + 52 := by
    have : (4503599627370496 : Nat).log2 = 52 := by decide +kernel
    exact ⟨54 - m.log2, by omega⟩
  have hk2 : k ≤ 54 := by
    have : (4503599627370496 : Nat).log2 = 52 := by decide +kernel
    omega
  have n52 : (2 : Nat) ^ 52 = 4503599627370496 := by decide
  have e1 : m <<< (k + 52) = m * 2 ^ k * 4503599627370496 := by
    rw [Nat.shiftLeft_eq, Nat.pow_add, n52, Nat.mul_assoc]
  have e2 : m <<< (k + 52) / 4503599627370496 = m * 2 ^ k := by rw [e1]; exact Nat.mul_div_cancel _ (by decide)
  have e3 : m <<< (k + 52) % 4503599627370496 = 0 := by rw [e1]; exact Nat.mul_mod_left _ _
  obtain ⟨P, hP⟩ : ∃ P : Int, -1074 + (q : Int) - (-52 + (d : Int)) - ((k + 52 : Nat) : Int) - 1 = P := ⟨_, rfl⟩
  have hb : Go.floatBits .quo .f64 x y = some (Ieee.double.nearest s (2 * (m * 2 ^ k)) P) := by
    unfold Go.floatBits
    simp only [Go.FloatKind.format, Ieee.Format.div, rx, hy, Ieee.Datum.quotient, dbl_f, hk, e2, e3]
    rw [if_neg (by decide)]
    simp only [Option.map_some, Ieee.Format.write, Bool.xor_false, hP]
    rfl
  have eP : (P + 2148).toNat = q + 1074 - d - k - 1 := by omega
  -- what the quotient is, times 2 ^ d
  obtain ⟨T, hT⟩ : ∃ T, Ieee.signed s (2 * (m * 2 ^ k)) (P + 2148).toNat = T := ⟨_, rfl⟩
  have hTd : 2 ^ d * T = Ieee.signed s m q * U := by
    rw [← hT, eP, signed_eq, signed_eq]
    obtain ⟨c, hc⟩ : ∃ c : Nat, c = 1074 := ⟨_, rfl⟩
    have hUc : U = 2 ^ c := by rw [hc]; rfl
    obtain ⟨g, hg⟩ : ∃ g : Nat, q + 1074 - d - k - 1 = g := ⟨_, rfl⟩
    rw [hg]
    have hx : q + c = d + (1 + (k + g)) := by omega
    have n : 2 ^ d * (2 * (m * 2 ^ k) * 2 ^ g) = m * 2 ^ q * 2 ^ c := by
      rw [Nat.mul_assoc m, ← Nat.pow_add 2 q, hx, Nat.pow_add, Nat.pow_add 2 1, Nat.pow_add 2 k]
      generalize 2 ^ g = A
      generalize 2 ^ d = B
      generalize 2 ^ k = C
      simp only [Nat.pow_one]
      simp only [Nat.mul_assoc, Nat.mul_left_comm, Nat.mul_comm]
    have n' : (2 : Int) ^ d * ((2 * (m * 2 ^ k) * 2 ^ g : Nat) : Int) = ((m * 2 ^ q : Nat) : Int) * U := by
      have := congrArg (Int.ofNat) n
      rw [hUc]
      simp only [Int.ofNat_eq_natCast, Int.natCast_mul, natpow] at this ⊢
      exact this
    clear hUc hx hc
    generalize ((2 * (m * 2 ^ k) * 2 ^ g : Nat) : Int) = X at *
    generalize ((m * 2 ^ q : Nat) : Int) = Y at *
    cases s
    · simp only [Bool.false_eq_true, if_false, Int.one_mul]; exact n'
    · simp only [if_true, Int.neg_mul, Int.one_mul, Int.mul_neg]; rw [n']
  generalize Ieee.signed s m q = a at *
  have hU := U_pos
  have hp : (0 : Int) < 2 ^ d := Int.pow_pos (by decide)
  have hp1 : (1 : Int) ≤ 2 ^ d := hp
  have b1 := Int.mul_le_mul_of_nonneg_right h1 (Int.le_of_lt hU)
  have b2 := Int.mul_le_mul_of_nonneg_right h2 (Int.le_of_lt hU)
  rw [Int.neg_mul, Int.mul_assoc] at b1
  rw [Int.mul_assoc 1048576] at b2
  rw [← hTd] at b1 b2
  have hUU : 0 < U * U := Int.mul_pos hU hU
  have c1 : -(1048576 * (U * U)) ≤ T := by
    refine Int.le_of_mul_le_mul_left (a := 2 ^ d) ?_ hp
    have : 1 * (1048576 * (U * U)) ≤ 2 ^ d * (1048576 * (U * U)) := Int.mul_le_mul_of_nonneg_right hp1 (by omega)
    rw [Int.mul_neg]
    omega
  have c2 : T ≤ 1048576 * (U * U) := by
    refine Int.le_of_mul_le_mul_left (a := 2 ^ d) ?_ hp
    have : 1 * (1048576 * (U * U)) ≤ 2 ^ d * (1048576 * (U * U)) := Int.mul_le_mul_of_nonneg_right hp1 (by omega)
    omega
  obtain ⟨v, hv, v1, v2⟩ := write_err s _ P (by omega) T hT c1 c2
  have hz : z = Ieee.double.nearest s (2 * (m * 2 ^ k)) P := by
    rcases h with h | ⟨h, _⟩
    · rw [hb] at h; cases h; rfl
    · rw [hb] at h; cases h
  refine ⟨v, by rw [hz]; exact hv, ?_, ?_⟩
  · apply le_of_mul_U
    have := Int.mul_le_mul_of_nonneg_left v1 (Int.le_of_lt hp)
    rw [Int.neg_mul, Int.sub_mul, ← hTd, Int.mul_assoc, Int.mul_assoc, ← Int.mul_sub, ← Int.mul_neg]
    exact this
  · apply le_of_mul_U
    have := Int.mul_le_mul_of_nonneg_left v2 (Int.le_of_lt hp)
    rw [Int.sub_mul, ← hTd, Int.mul_assoc, Int.mul_assoc, ← Int.mul_sub]
    exact this
theorem rd1 : Ieee.double.read (floatOfInt .f64 1) = .number false 4503599627370496 (-52 + ((0 : Nat) : Int)) := by decide +kernel
theorem rd2 : Ieee.double.read (floatOfInt .f64 2) = .number false 4503599627370496 (-52 + ((1 : Nat) : Int)) := by decide +kernel
theorem rd4 : Ieee.double.read (floatOfInt .f64 4) = .number false 4503599627370496 (-52 + ((2 : Nat) : Int)) := by decide +kernel
theorem rd8 : Ieee.double.read (floatOfInt .f64 8) = .number false 4503599627370496 (-52 + ((3 : Nat) : Int)) := by decide +kernel

/-- by how much a number of 53 digits is off behind a quotient by n -/
theorem quo_n {x z n : Nat} {a : Int} (hn : okN n) (hx : Vl x a) (h1 : -(1048576 * U) ≤ a) (h2 : a ≤ 1048576 * U) (h : Res .quo x (floatOfInt .f64 n) z) :
    ∃ v, Vl z v ∧ -((n : Int) * E) ≤ (n : Int) * v - a ∧ (n : Int) * v - a ≤ (n : Int) * E := by
  rcases hn with rfl | rfl | rfl | rfl
  · exact vl_quo 0 (by decide) rd1 hx h1 h2 h
  · exact vl_quo 1 (by decide) rd2 hx h1 h2 h
  · exact vl_quo 2 (by decide) rd4 hx h1 h2 h
  · exact vl_quo 3 (by decide) rd8 hx h1 h2 h
end Go.Proofs.Ytmhciigjjamjkaa.Rn
