/-
  Plain facts on rounding: a number that is written is off by half a unit of its last place at most; sums, products and quotients by 1, 2, 4, 8 of numbers that are not great. No program is named here; no conditions.
-/
import Derived.Test.YtmhciigjjamjkaaIeP
namespace Go.Proofs.Ytmhciigjjamjkaa.Rn
open Go.Proofs.Ytmhciigjjamjkaa.Ie
set_option linter.unusedVariables false

/-- what x stands for, in units of 2 to the -1074 -/
def Vl (x : Nat) (v : Int) : Prop := ∃ (s : Bool) (m q : Nat), Ieee.double.read x = .number s m (-1074 + (q : Int)) ∧ Ieee.signed s m q = v

theorem cut_near (neg : Bool) {n : Nat} (hn : n ≠ 0) (d : Nat) :
    2 * (Ieee.Toward.even.cut neg n d * 2 ^ d) ≤ 2 * n + 2 ^ d ∧ 2 * n ≤ 2 * (Ieee.Toward.even.cut neg n d * 2 ^ d) + 2 ^ d := by
  have hlt : n < 2 ^ (n.log2 + 1) := Nat.lt_log2_self
  unfold Ieee.Toward.cut
  dsimp only
  by_cases h : d ≤ n.log2 + 2
  · rw [Nat.min_eq_left h, Nat.shiftLeft_eq, Nat.one_mul]
    have hp : 0 < 2 ^ d := Nat.two_pow_pos d
    generalize 2 ^ d = g at *
    have e : n = n / g * g + n % g := by
      have := Nat.div_add_mod n g
      rw [Nat.mul_comm] at this
      omega
    have hr : n % g < g := Nat.mod_lt _ hp
    generalize n / g = a at *
    generalize n % g = r at *
    by_cases hm : (decide (g < 2 * r) || (g == 2 * r && a % 2 == 1)) = true
    · rw [hm]
      have : g ≤ 2 * r := by simp at hm; omega
      simp only [Bool.toNat_true, Nat.add_mul, Nat.one_mul]
      omega
    · have hm' : (decide (g < 2 * r) || (g == 2 * r && a % 2 == 1)) = false := by simpa using hm
      rw [hm']
      have : 2 * r ≤ g := by simp at hm'; omega
      simp only [Bool.toNat_false, Nat.add_zero]
      omega
  · have h' : n.log2 + 2 ≤ d := by omega
    rw [Nat.min_eq_right h', Nat.shiftLeft_eq, Nat.one_mul]
    have e2 : 2 ^ (n.log2 + 2) = 2 * 2 ^ (n.log2 + 1) := by rw [Nat.pow_succ 2 (n.log2 + 1)]; omega
    have hle : 2 ^ (n.log2 + 2) ≤ 2 ^ d := Nat.pow_le_pow_right (by decide) h'
    have hd : n / 2 ^ (n.log2 + 2) = 0 := Nat.div_eq_of_lt (by omega)
    have hr : n % 2 ^ (n.log2 + 2) = n := Nat.mod_eq_of_lt (by omega)
    rw [hd, hr]
    have hm' : (decide (2 ^ (n.log2 + 2) < 2 * n) || (2 ^ (n.log2 + 2) == 2 * n && 0 % 2 == 1)) = false := by simp; omega
    rw [hm']
    simp
    omega

theorem cut_le (neg : Bool) {n : Nat} (hn : n ≠ 0) (d : Nat) : n / 2 ^ d ≤ Ieee.Toward.even.cut neg n d ∧ Ieee.Toward.even.cut neg n d ≤ n / 2 ^ d + 1 := by
  obtain ⟨h1, h2⟩ := cut_near neg hn d
  have hp : 0 < 2 ^ d := Nat.two_pow_pos d
  have e : n = n / 2 ^ d * 2 ^ d + n % 2 ^ d := by
    have := Nat.div_add_mod n (2 ^ d)
    rw [Nat.mul_comm] at this
    omega
  have hr : n % 2 ^ d < 2 ^ d := Nat.mod_lt _ hp
  generalize 2 ^ d = g at *
  generalize Ieee.Toward.even.cut neg n d = k at *
  generalize n / g = a at *
  generalize n % g = r at *
  constructor
  · apply Nat.le_of_lt_succ
    apply Nat.lt_of_mul_lt_mul_right (a := g)
    rw [Nat.succ_mul]
    omega
  · apply Nat.le_of_lt_succ
    apply Nat.lt_of_mul_lt_mul_right (a := g)
    rw [Nat.succ_mul, Nat.succ_mul]
    omega

theorem near_nat (c t e : Nat) (hc : c = 1074) (ht : t = 2168) (he : e = 2115) (s : Bool) {mag : Nat} (hm : mag ≠ 0) (P : Nat) (hb : mag * 2 ^ P ≤ 2 ^ t) :
    ∃ k q : Nat, Ieee.double.read (Ieee.double.nearest s mag ((P : Int) - 2148)) = .number s k (-1074 + (q : Int)) ∧ k * 2 ^ q * 2 ^ c ≤ mag * 2 ^ P + 2 ^ e ∧ mag * 2 ^ P ≤ k * 2 ^ q * 2 ^ c + 2 ^ e := by
  have hL1 : 2 ^ mag.log2 ≤ mag := Nat.log2_self_le hm
  have hL2 : mag < 2 ^ (mag.log2 + 1) := Nat.lt_log2_self
  generalize hL : mag.log2 = L at *
  have hLP : L + P ≤ 2168 := by
    have h1 : 2 ^ (L + P) ≤ 2 ^ t := by
      rw [Nat.pow_add]; exact Nat.le_trans (Nat.mul_le_mul_right _ hL1) hb
    have h2 := (Nat.pow_le_pow_iff_right (a := 2) (by decide)).1 h1
    omega
  obtain ⟨Q, hQ⟩ : ∃ Q, P + L - 1126 = Q := ⟨_, rfl⟩
  have hlast : max ((P : Int) - 2148 + (L : Nat) - 52) (-1074) = (Q : Int) - 1074 := by omega
  obtain ⟨K, hK⟩ : ∃ K, Ieee.Toward.even.cut s (mag <<< ((P : Int) - 2148 - ((Q : Int) - 1074)).toNat) ((Q : Int) - 1074 - ((P : Int) - 2148)).toNat = K := ⟨_, rfl⟩
  have hnear : Ieee.double.nearest s mag ((P : Int) - 2148) = Ieee.double.word s (min (Q * 4503599627370496 + K) 9218868437227405312) := by
    unfold Ieee.Format.nearest
    rw [if_neg hm, dbl_f, dbl_b, dbl_i, dbl_l, hL]
    dsimp only
    have ee : (max ((P : Int) - 2148 + (L : Nat) - ((52 : Nat) : Int)) (-1074)) = (Q : Int) - 1074 := hlast
    rw [ee, hK]
    have e2 : ((Q : Int) - 1074 - -1074).toNat = Q := by omega
    rw [e2]
  have hpe : 0 < 2 ^ e := Nat.two_pow_pos e
  -- the digits that are kept
  have key : K ≤ 9007199254740992 ∧ (Q = 0 ∨ 4503599627370496 ≤ K) ∧ K * 2 ^ Q * 2 ^ c ≤ mag * 2 ^ P + 2 ^ e ∧ mag * 2 ^ P ≤ K * 2 ^ Q * 2 ^ c + 2 ^ e := by
    by_cases hA : 1074 + Q ≤ P
    · obtain ⟨u, hu⟩ : ∃ u, P = 1074 + Q + u := ⟨P - 1074 - Q, by omega⟩
      have e1 : ((P : Int) - 2148 - ((Q : Int) - 1074)).toNat = u := by omega
      have e2 : ((Q : Int) - 1074 - ((P : Int) - 2148)).toNat = 0 := by omega
      rw [e1, e2, cut_zero, Nat.shiftLeft_eq] at hK
      have hv : K * 2 ^ Q * 2 ^ c = mag * 2 ^ P := by
        have hx : P = u + Q + c := by omega
        rw [← hK, hx, Nat.pow_add, Nat.pow_add]
        simp only [Nat.mul_assoc]
      have hk1 : K < 2 ^ (L + 1 + u) := by
        rw [← hK, Nat.pow_add]; exact Nat.mul_lt_mul_of_pos_right hL2 (Nat.two_pow_pos u)
      have hk2 : 2 ^ (L + u) ≤ K := by
        rw [← hK, Nat.pow_add]; exact Nat.mul_le_mul_right _ hL1
      have hk3 : 2 ^ (L + 1 + u) ≤ 2 ^ 53 := Nat.pow_le_pow_right (by decide) (by omega)
      have n53 : (2 : Nat) ^ 53 = 9007199254740992 := by decide
      have n52 : (2 : Nat) ^ 52 = 4503599627370496 := by decide
      refine ⟨by omega, ?_, by omega, by omega⟩
      by_cases hQ0 : Q = 0
      · exact .inl hQ0
      · right
        have e52 : L + u = 52 := by omega
        rw [e52] at hk2
        omega
    · obtain ⟨d, hd⟩ : ∃ d, 1074 + Q = P + d := ⟨1074 + Q - P, by omega⟩
      have e1 : ((P : Int) - 2148 - ((Q : Int) - 1074)).toNat = 0 := by omega
      have e2 : ((Q : Int) - 1074 - ((P : Int) - 2148)).toNat = d := by omega
      rw [e1, e2, Nat.shiftLeft_zero] at hK
      obtain ⟨h1, h2⟩ := cut_near s hm d
      obtain ⟨h3, h4⟩ := cut_le s hm d
      rw [hK] at h1 h2 h3 h4
      have hv : K * 2 ^ Q * 2 ^ c = K * 2 ^ d * 2 ^ P := by
        have hx : Q + c = d + P := by omega
        rw [Nat.mul_assoc, Nat.mul_assoc, ← Nat.pow_add, ← Nat.pow_add, hx]
      have hd0 : 1 ≤ d := by omega
      have hE : 2 ^ d * 2 ^ P ≤ 2 * 2 ^ e := by
        rw [← Nat.pow_add]
        have : 2 * 2 ^ e = 2 ^ (e + 1) := by rw [Nat.pow_succ 2 e]; omega
        rw [this]
        exact Nat.pow_le_pow_right (by decide) (by omega)
      have m1 := Nat.mul_le_mul_right (2 ^ P) h1
      have m2 := Nat.mul_le_mul_right (2 ^ P) h2
      rw [Nat.add_mul, Nat.mul_assoc 2, Nat.mul_assoc 2] at m1 m2
      have n53 : (2 : Nat) ^ 53 = 9007199254740992 := by decide
      have n52 : (2 : Nat) ^ 52 = 4503599627370496 := by decide
      have hk1 : mag / 2 ^ d < 2 ^ 53 := by
        apply Nat.div_lt_of_lt_mul
        rw [← Nat.pow_add]
        exact Nat.lt_of_lt_of_le hL2 (Nat.pow_le_pow_right (by decide) (by omega))
      refine ⟨by omega, ?_, by rw [hv]; omega, by rw [hv]; omega⟩
      by_cases hQ0 : Q = 0
      · exact .inl hQ0
      · right
        have e52 : L = d + 52 := by omega
        have : 2 ^ 52 ≤ mag / 2 ^ d := by
          rw [Nat.le_div_iff_mul_le (Nat.two_pow_pos d), ← Nat.pow_add, Nat.add_comm 52 d, ← e52]
          exact hL1
        omega
  obtain ⟨k1, k2, k3, k4⟩ := key
  have hQ1 : Q ≤ 1042 := by omega
  rw [hnear, Nat.min_eq_left (by omega)]
  by_cases h53 : K = 9007199254740992
  · have F := fin_word s (m := 4503599627370496) (q := Q + 1) (by decide) (by omega) (.inr (Nat.le_refl _))
    have ee : Q * 4503599627370496 + K = (Q + 1) * 4503599627370496 + 4503599627370496 := by omega
    rw [ee]
    refine ⟨_, _, F.rd, ?_, ?_⟩
    · have : 4503599627370496 * 2 ^ (Q + 1) = K * 2 ^ Q := by rw [h53, Nat.pow_succ]; omega
      rw [this]; exact k3
    · have : 4503599627370496 * 2 ^ (Q + 1) = K * 2 ^ Q := by rw [h53, Nat.pow_succ]; omega
      rw [this]; exact k4
  · have F := fin_word s (m := K) (q := Q) (by omega) (by omega) k2
    exact ⟨_, _, F.rd, k3, k4⟩
end Go.Proofs.Ytmhciigjjamjkaa.Rn
