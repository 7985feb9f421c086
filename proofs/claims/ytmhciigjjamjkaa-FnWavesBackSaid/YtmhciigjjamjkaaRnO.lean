/-
  Plain facts on rounded operations: a sum, a product, a quotient by 1, 2, 4 or 8 of numbers that are not great is off by E at most; how two numbers stand. No program is named here; no conditions.
-/
import Derived.Test.YtmhciigjjamjkaaRnP
import Derived.Test.YtmhciigjjamjkaaFl
namespace Go.Proofs.Ytmhciigjjamjkaa.Rn
open Go.Proofs.Ytmhciigjjamjkaa.Ie
set_option linter.unusedVariables false

/-- one, in units of 2 to the -1074 -/
def U : Int := 2 ^ 1074
/-- how much an operation may be off: one over 2 to the 33 -/
def E : Int := 2 ^ 1041
theorem U_pos : 0 < U := by unfold U; exact Int.pow_pos (by decide)
theorem E_pos : 0 < E := by unfold E; exact Int.pow_pos (by decide)
theorem U_E : U = 8589934592 * E := by
  have h : (2 : Int) ^ 33 = 8589934592 := by decide
  unfold U E
  rw [← h]
  exact Int.pow_add 2 33 1041
theorem natpow (n : Nat) : ((2 ^ n : Nat) : Int) = (2 : Int) ^ n := by simp

/-- what a datum stands for -/
def DV (d : Ieee.Datum) (v : Int) : Prop := ∃ (s : Bool) (m q : Nat), d = .number s m (-1074 + (q : Int)) ∧ Ieee.signed s m q = v
theorem vl_iff {x : Nat} {v : Int} : Vl x v ↔ DV (Ieee.double.read x) v := Iff.rfl

theorem signed_eq (s : Bool) (m q : Nat) : Ieee.signed s m q = (if s then -1 else 1) * ((m * 2 ^ q : Nat) : Int) := by
  unfold Ieee.signed
  rw [Nat.shiftLeft_eq]
  cases s <;> simp

theorem write_err (s : Bool) (mag : Nat) (p : Int) (hp : -2148 ≤ p) (T : Int) (hT : Ieee.signed s mag (p + 2148).toNat = T) (h1 : -(1048576 * (U * U)) ≤ T) (h2 : T ≤ 1048576 * (U * U)) :
    ∃ v, Vl (Ieee.double.nearest s mag p) v ∧ -(E * U) ≤ v * U - T ∧ v * U - T ≤ E * U := by
  have hEU : 0 ≤ E * U := Int.le_of_lt (Int.mul_pos E_pos U_pos)
  by_cases hm : mag = 0
  · subst hm
    rw [signed_zero] at hT
    subst hT
    refine ⟨0, ⟨s, 0, 0, ?_, signed_zero _ _⟩, by omega, by omega⟩
    have e : Ieee.double.nearest s 0 p = Ieee.double.word s 0 := by unfold Ieee.Format.nearest; rw [if_pos rfl]
    rw [e]
    have F := fin_word s (m := 0) (q := 0) (by decide) (by decide) (.inl rfl)
    exact F.rd
  · obtain ⟨P, hP⟩ : ∃ P : Nat, p = (P : Int) - 2148 := ⟨(p + 2148).toNat, by omega⟩
    have eP : (p + 2148).toNat = P := by omega
    rw [eP] at hT
    subst hP
    obtain ⟨c, hc⟩ : ∃ c : Nat, c = 1074 := ⟨_, rfl⟩
    obtain ⟨t, ht⟩ : ∃ t : Nat, t = 2168 := ⟨_, rfl⟩
    obtain ⟨e, he⟩ : ∃ e : Nat, e = 2115 := ⟨_, rfl⟩
    have hU : U = ((2 ^ c : Nat) : Int) := by rw [natpow, hc]; rfl
    have hE : E * U = ((2 ^ e : Nat) : Int) := by
      have : e = 1041 + c := by omega
      rw [hU, natpow, natpow, this, Int.pow_add]; rfl
    have hUU : 1048576 * (U * U) = ((2 ^ t : Nat) : Int) := by
      have h18 : (2 : Int) ^ 20 = 1048576 := by decide
      have : t = 20 + (c + c) := by omega
      rw [hU, natpow, natpow, this, Int.pow_add, Int.pow_add, h18]
    rw [hUU] at h1 h2
    rw [hE]
    have hb : mag * 2 ^ P ≤ 2 ^ t := by
      rw [signed_eq] at hT
      cases s
      · simp only [Bool.false_eq_true, if_false, Int.one_mul] at hT
        omega
      · simp only [if_true] at hT
        omega
    obtain ⟨k, q, r, k1, k2⟩ := near_nat c t e hc ht he s hm P hb
    refine ⟨Ieee.signed s k q, ⟨s, k, q, r, rfl⟩, ?_, ?_⟩
    all_goals
      rw [← hT, signed_eq, signed_eq, Int.mul_assoc, hU, ← Int.natCast_mul]
      cases s
      · simp only [Bool.false_eq_true, if_false, Int.one_mul]
        omega
      · simp only [if_true]
        omega

theorem le_of_mul_U {a b : Int} (h : a * U ≤ b * U) : a ≤ b := Int.le_of_mul_le_mul_right h U_pos

theorem sum_err {d d' : Ieee.Datum} {a b : Int} (hx : DV d a) (hy : DV d' b) (h1 : -(1048576 * U) ≤ a + b) (h2 : a + b ≤ 1048576 * U) :
    ∃ z v, (d.sum d').map Ieee.double.write = some z ∧ Vl z v ∧ -E ≤ v - (a + b) ∧ v - (a + b) ≤ E := by
  obtain ⟨s, m, q, rfl, rfl⟩ := hx
  obtain ⟨t, n, r, rfl, rfl⟩ := hy
  obtain ⟨g, hg⟩ : ∃ g : Nat, min q r = g := ⟨_, rfl⟩
  have eb : min (-1074 + (q : Int)) (-1074 + (r : Int)) = -1074 + (g : Int) := by omega
  obtain ⟨i, hi⟩ : ∃ i : Nat, q = i + g := ⟨q - g, by omega⟩
  obtain ⟨j, hj⟩ : ∃ j : Nat, r = j + g := ⟨r - g, by omega⟩
  have ei : (-1074 + (q : Int) - (-1074 + (g : Int))).toNat = i := by omega
  have ej : (-1074 + (r : Int) - (-1074 + (g : Int))).toNat = j := by omega
  obtain ⟨T, hT⟩ : ∃ T, Ieee.signed s m i + Ieee.signed t n j = T := ⟨_, rfl⟩
  have hab : Ieee.signed s m q + Ieee.signed t n r = T * 2 ^ g := by
    rw [hi, hj, signed_shl, signed_shl, ← Int.add_mul, hT]
  rw [hab] at h1 h2 ⊢
  refine ⟨Ieee.double.nearest (if T = 0 then s && t else decide (T < 0)) T.natAbs (-1074 + (g : Int)), ?_⟩
  have hsum : (Ieee.Datum.sum (.number s m (-1074 + (q : Int))) (.number t n (-1074 + (r : Int)))).map Ieee.double.write = some (Ieee.double.nearest (if T = 0 then s && t else decide (T < 0)) T.natAbs (-1074 + (g : Int))) := by
    simp only [Ieee.Datum.sum, eb, ei, ej, hT, Option.map_some, Ieee.Format.write]
  obtain ⟨sg, hsg⟩ : ∃ sg, (if T = 0 then s && t else decide (T < 0)) = sg := ⟨_, rfl⟩
  have hor : T = 0 ∨ sg = decide (T < 0) := by
    by_cases h0 : T = 0
    · exact .inl h0
    · rw [if_neg h0] at hsg; exact .inr hsg.symm
  rw [hsg] at hsum ⊢
  have eP : (-1074 + (g : Int) + 2148).toNat = g + 1074 := by omega
  have hval : Ieee.signed sg T.natAbs (-1074 + (g : Int) + 2148).toNat = T * 2 ^ g * U := by
    rw [eP, signed_abs T sg hor, Int.pow_add, ← Int.mul_assoc]; rfl
  have hUU := Int.mul_le_mul_of_nonneg_right h1 (Int.le_of_lt U_pos)
  have hUU2 := Int.mul_le_mul_of_nonneg_right h2 (Int.le_of_lt U_pos)
  rw [Int.neg_mul, Int.mul_assoc] at hUU
  rw [Int.mul_assoc 1048576] at hUU2
  obtain ⟨v, hv, e1, e2⟩ := write_err sg T.natAbs _ (by omega) _ hval hUU hUU2
  refine ⟨v, hsum, hv, ?_, ?_⟩
  · apply le_of_mul_U
    rw [Int.sub_mul, Int.neg_mul]; exact e1
  · apply le_of_mul_U
    rw [Int.sub_mul]; exact e2
theorem DV.opp {d : Ieee.Datum} {a : Int} (h : DV d a) : DV d.opposite (-a) := by
  obtain ⟨s, m, q, rfl, rfl⟩ := h
  refine ⟨!s, m, q, rfl, ?_⟩
  rw [signed_eq, signed_eq]
  cases s <;> simp

theorem vl_add {x y z : Nat} {a b : Int} (hx : Vl x a) (hy : Vl y b) (h1 : -(1048576 * U) ≤ a + b) (h2 : a + b ≤ 1048576 * U) (h : Res .add x y z) : ∃ v, Vl z v ∧ -E ≤ v - (a + b) ∧ v - (a + b) ≤ E := by
  obtain ⟨z', v, e, hv, e1, e2⟩ := sum_err (vl_iff.1 hx) (vl_iff.1 hy) h1 h2
  have hb : Go.floatBits .add .f64 x y = some z' := e
  rcases h with h | ⟨h, _⟩
  · rw [hb] at h; cases h; exact ⟨v, hv, e1, e2⟩
  · rw [hb] at h; cases h
theorem vl_sub {x y z : Nat} {a b : Int} (hx : Vl x a) (hy : Vl y b) (h1 : -(1048576 * U) ≤ a - b) (h2 : a - b ≤ 1048576 * U) (h : Res .sub x y z) : ∃ v, Vl z v ∧ -E ≤ v - (a - b) ∧ v - (a - b) ≤ E := by
  obtain ⟨z', v, e, hv, e1, e2⟩ := sum_err (vl_iff.1 hx) (vl_iff.1 hy).opp (by omega) (by omega)
  have hb : Go.floatBits .sub .f64 x y = some z' := e
  rcases h with h | ⟨h, _⟩
  · rw [hb] at h; cases h; exact ⟨v, hv, by omega, by omega⟩
  · rw [hb] at h; cases h
theorem signed_mul (s t : Bool) (m n q r : Nat) : Ieee.signed (s ^^ t) (m * n) (q + r) = Ieee.signed s m q * Ieee.signed t n r := by
  rw [signed_eq, signed_eq, signed_eq]
  have : m * n * 2 ^ (q + r) = m * 2 ^ q * (n * 2 ^ r) := by
    rw [Nat.pow_add]; simp only [Nat.mul_assoc, Nat.mul_left_comm]
  rw [this, Int.natCast_mul]
  cases s <;> cases t <;> simp [Int.neg_mul, Int.mul_neg]
theorem vl_mul {x y z : Nat} {a b : Int} (hx : Vl x a) (hy : Vl y b) (h1 : -(1048576 * (U * U)) ≤ a * b) (h2 : a * b ≤ 1048576 * (U * U)) (h : Res .mul x y z) : ∃ v, Vl z v ∧ -(E * U) ≤ v * U - a * b ∧ v * U - a * b ≤ E * U := by
  obtain ⟨s, m, q, rx, rfl⟩ := hx
  obtain ⟨t, n, r, ry, rfl⟩ := hy
  have hb : Go.floatBits .mul .f64 x y = some (Ieee.double.nearest (s ^^ t) (m * n) (-1074 + (q : Int) + (-1074 + (r : Int)))) := by
    unfold Go.floatBits
    simp only [Go.FloatKind.format, Ieee.Format.mul, rx, ry, Ieee.Datum.product, Option.map_some, Ieee.Format.write]
  have eP : (-1074 + (q : Int) + (-1074 + (r : Int)) + 2148).toNat = q + r := by omega
  obtain ⟨v, hv, e1, e2⟩ := write_err (s ^^ t) (m * n) (-1074 + (q : Int) + (-1074 + (r : Int))) (by omega) _ (by rw [eP, signed_mul]) h1 h2
  rcases h with h | ⟨h, _⟩
  · rw [hb] at h; cases h; exact ⟨v, hv, e1, e2⟩
  · rw [hb] at h; cases h
theorem vl_order {x y : Nat} {a b : Int} (hx : Vl x a) (hy : Vl y b) : Ieee.double.order x y = some (compare a b) := by
  obtain ⟨s, m, q, rx, rfl⟩ := hx
  obtain ⟨t, n, r, ry, rfl⟩ := hy
  obtain ⟨g, hg⟩ : ∃ g : Nat, min q r = g := ⟨_, rfl⟩
  have eb : min (-1074 + (q : Int)) (-1074 + (r : Int)) = -1074 + (g : Int) := by omega
  obtain ⟨i, hi⟩ : ∃ i : Nat, q = i + g := ⟨q - g, by omega⟩
  obtain ⟨j, hj⟩ : ∃ j : Nat, r = j + g := ⟨r - g, by omega⟩
  have ei : (-1074 + (q : Int) - (-1074 + (g : Int))).toNat = i := by omega
  have ej : (-1074 + (r : Int) - (-1074 + (g : Int))).toNat = j := by omega
  unfold Ieee.Format.order
  simp only [rx, ry, Ieee.Datum.order, eb, ei, ej]
  rw [hi, hj, signed_shl, signed_shl]
  have hp : (0 : Int) < 2 ^ g := Int.pow_pos (by decide)
  generalize (2 : Int) ^ g = p at *
  generalize Ieee.signed s m i = A
  generalize Ieee.signed t n j = B
  congr 1
  simp only [compare, compareOfLessAndEq]
  by_cases h1 : A < B
  · rw [if_pos h1, if_pos (Int.mul_lt_mul_of_pos_right h1 hp)]
  · have h1' : ¬ A * p < B * p := by
      have := Int.mul_le_mul_of_nonneg_right (show B ≤ A by omega) (Int.le_of_lt hp)
      omega
    rw [if_neg h1, if_neg h1']
    by_cases h2 : A = B
    · rw [if_pos h2, if_pos (by rw [h2])]
    · have h2' : ¬ A * p = B * p := fun h => h2 (Int.eq_of_mul_eq_mul_right (by omega) h)
      rw [if_neg h2, if_neg h2']
end Go.Proofs.Ytmhciigjjamjkaa.Rn
