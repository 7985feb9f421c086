/-
  Numbers that stand near a/2 + b h, h the float next to half the root of 2: their sums, differences, products with 0, 1, -1, h, -h. No conditions.
-/
import Derived.Test.YtmhciigjjamjkaaRnO
namespace Go.Proofs.Ytmhciigjjamjkaa.Rn
open Go.Proofs.Ytmhciigjjamjkaa.Ie
set_option linter.unusedVariables false

/-- the unit of h's digits -/
def g0 : Int := 2 ^ 1021
theorem g0_pos : 0 < g0 := by unfold g0; exact Int.pow_pos (by decide)
theorem U_g : U = 9007199254740992 * g0 := by
  have h : (2 : Int) ^ 53 = 9007199254740992 := by decide
  have e := Int.pow_add 2 53 1021
  rw [h] at e
  exact e
theorem E_g : E = 1048576 * g0 := by
  have h : (2 : Int) ^ 20 = 1048576 := by decide
  have e := Int.pow_add 2 20 1021
  rw [h] at e
  exact e
/-- h, in units -/
def H : Int := 6369051672525773 * g0
theorem H_vl : Vl 4604544271217802189 H := ⟨false, 6369051672525773, 1021, by decide +kernel, by
  rw [signed_eq]; simp only [Bool.false_eq_true, if_false, Int.one_mul, Int.natCast_mul, natpow]; rfl⟩
theorem negH_vl : Vl 13827916308072577997 (-H) := ⟨true, 6369051672525773, 1021, by decide +kernel, by
  rw [signed_eq]; simp only [if_true, Int.natCast_mul, natpow, Int.neg_mul, Int.one_mul]; rfl⟩
theorem one_eq : ((4503599627370496 : Nat) : Int) * 2 ^ 1022 = U := by
  have h : (2 : Int) ^ 52 = 4503599627370496 := by decide
  have e := Int.pow_add 2 52 1022
  rw [h] at e
  exact e.symm
theorem one_vl : Vl 4607182418800017408 U := ⟨false, 4503599627370496, 1022, by decide +kernel, by
  rw [signed_eq]; simp only [Bool.false_eq_true, if_false, Int.one_mul, Int.natCast_mul, natpow]; exact one_eq⟩
theorem negone_vl : Vl 13830554455654793216 (-U) := ⟨true, 4503599627370496, 1022, by decide +kernel, by
  rw [signed_eq]; simp only [if_true, Int.natCast_mul, natpow, Int.neg_mul, Int.one_mul]; rw [one_eq]⟩
theorem zero_vl : Vl 0 0 := ⟨false, 0, 0, by decide +kernel, signed_zero _ _⟩

/-- x is a/2 + b h up to e/2 -/
def Ap (x : Nat) (a b e : Int) : Prop := ∃ v, Vl x v ∧ -(e * E) ≤ 2 * v - (a * U + 2 * (b * H)) ∧ 2 * v - (a * U + 2 * (b * H)) ≤ e * E

/-- c stands for p + q h -/
def Rc (c : Nat) (p q : Int) : Prop :=
  (c = 0 ∧ p = 0 ∧ q = 0) ∨ (c = 4607182418800017408 ∧ p = 1 ∧ q = 0) ∨ (c = 13830554455654793216 ∧ p = -1 ∧ q = 0) ∨ (c = 4604544271217802189 ∧ p = 0 ∧ q = 1) ∨ (c = 13827916308072577997 ∧ p = 0 ∧ q = -1)

theorem coreH (zg vg AG bG eG G : Int) (hG : 0 < G) (he : 0 ≤ eG) (hb1 : -(100000 * G) ≤ bG) (hb2 : bG ≤ 100000 * G)
    (h1 : -(9444732965739290427392 * G) ≤ 9007199254740992 * zg - 6369051672525773 * vg) (h2 : 9007199254740992 * zg - 6369051672525773 * vg ≤ 9444732965739290427392 * G)
    (h3 : -(1048576 * eG) ≤ 2 * vg - (2 * (9007199254740992 * AG) + 2 * (6369051672525773 * bG))) (h4 : 2 * vg - (2 * (9007199254740992 * AG) + 2 * (6369051672525773 * bG)) ≤ 1048576 * eG) :
    -(1048576 * (eG + 3 * G)) ≤ 2 * zg - (9007199254740992 * bG + 2 * (6369051672525773 * AG)) ∧ 2 * zg - (9007199254740992 * bG + 2 * (6369051672525773 * AG)) ≤ 1048576 * (eG + 3 * G) := by
  constructor <;> omega
end Go.Proofs.Ytmhciigjjamjkaa.Rn
