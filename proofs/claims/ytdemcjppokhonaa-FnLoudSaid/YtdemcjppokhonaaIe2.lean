/-
  Plain: numbers of 64 bits in the model: bits above the sign count for nothing; a product with 1 and a sum with nought are the number; sums and products go both ways; no conditions.
-/
import Derived.Test.YtdemcjppokhonaaNv
import Derived.Test.YtdemcjppokhonaaIeP
namespace Go.Proofs.Ytdemcjppokhonaa
open Go.RowKit
set_option linter.unusedVariables false
set_option linter.unusedSimpArgs false

/-- the bits that count -/
def cn (x : Nat) : Nat := x % 18446744073709551616
theorem cn_lt (x : Nat) : cn x < 18446744073709551616 := Nat.mod_lt _ (by decide)
theorem read_cn (x : Nat) : Ieee.double.read (cn x) = Ieee.double.read x := by
  unfold cn Ieee.Format.read
  dsimp only
  have hs : Ieee.double.signWeight = 9223372036854775808 := by decide
  rw [hs]
  have h1 : x % 18446744073709551616 % 9223372036854775808 = x % 9223372036854775808 := by omega
  have h2 : x % 18446744073709551616 / 9223372036854775808 % 2 = x / 9223372036854775808 % 2 := by omega
  rw [h1, h2]
/-- the same by what is read -/
def Rd (x y : Nat) : Prop := Ieee.double.read x = Ieee.double.read y
theorem bits_rd {op : BinOp} {x y x' y' : Nat} (hx : Rd x x') (hy : Rd y y') : floatBits op .f64 x y = floatBits op .f64 x' y' := by
  unfold Rd at hx hy
  unfold floatBits
  cases op <;> simp only [FloatKind.format, Ieee.Format.add, Ieee.Format.sub, Ieee.Format.mul, Ieee.Format.div, hx, hy]
theorem order_rd {x y x' y' : Nat} (hx : Rd x x') (hy : Rd y y') : FloatKind.f64.format.order x y = FloatKind.f64.format.order x' y' := by
  unfold Rd at hx hy
  simp only [FloatKind.format, Ieee.Format.order, hx, hy]
theorem nan_rd {x y : Nat} (h : Rd x y) : NaN x ↔ NaN y := by unfold NaN; rw [h]
/-- a word: no number, an infinity, or finite -/
theorem three (x : Nat) : NaN x ∨ (∃ s, Ieee.double.read x = .infinity s) ∨ ∃ s m q, Ie.Fin64 (cn x) s m q := by
  have hs : Ieee.double.signWeight = 9223372036854775808 := by decide
  have hi : Ieee.double.infRung = 9218868437227405312 := by decide
  have hb : Ieee.double.binade = 4503599627370496 := by decide
  by_cases h1 : cn x % 9223372036854775808 < 9218868437227405312
  · exact .inr (.inr (Ie.fin_of (cn_lt x) h1))
  · have hr := read_cn x
    unfold NaN
    generalize Ieee.double.read x = R at hr ⊢
    unfold Ieee.Format.read at hr
    dsimp only at hr
    rw [hs, hi, hb] at hr
    rw [if_neg (by omega), if_neg (by omega)] at hr
    by_cases h2 : cn x % 9223372036854775808 = 9218868437227405312
    · rw [if_pos (by simpa using h2)] at hr
      exact .inr (.inl ⟨_, hr.symm.trans (by rfl)⟩)
    · rw [if_neg (by simpa using h2)] at hr
      exact .inl (by rw [← hr]; rfl)

theorem sum_comm (a b : Ieee.Datum) : a.sum b = b.sum a := by
  cases a <;> cases b <;> simp only [Ieee.Datum.sum]
  · rename_i s m i t n j
    rw [Int.min_comm j i, Int.add_comm (Ieee.signed t n _), Bool.and_comm t s]
  · rename_i s t
    by_cases h : s = t
    · subst h; rfl
    · rw [if_neg h, if_neg (fun e => h e.symm)]
theorem product_comm (a b : Ieee.Datum) : a.product b = b.product a := by
  cases a <;> cases b <;> simp only [Ieee.Datum.product]
  · rename_i s m i t n j
    rw [Bool.xor_comm t s, Nat.mul_comm n m, Int.add_comm j i]
  · rename_i s t
    rw [Bool.xor_comm]
theorem nv_add_comm (x y : Nat) : nv .add x y = nv .add y x := by
  unfold nv floatBits
  simp only [FloatKind.format, Ieee.Format.add]
  rw [sum_comm]
theorem nv_mul_comm (x y : Nat) : nv .mul x y = nv .mul y x := by
  unfold nv floatBits
  simp only [FloatKind.format, Ieee.Format.mul]
  rw [product_comm]
theorem nv_rd {op : BinOp} {x y x' y' : Nat} (hx : Rd x x') (hy : Rd y y') : nv op x y = nv op x' y' := by unfold nv; rw [bits_rd hx hy]
theorem cn_rd (x : Nat) : Rd (cn x) x := read_cn x

/-- the same by value, all NaNs one, bits above the sign left out -/
def Lk (x y : Nat) : Prop := (NaN x ∧ NaN y) ∨ (¬ NaN x ∧ Rd x y)
theorem Lk.rfl {x : Nat} : Lk x x := by
  by_cases h : NaN x
  · exact .inl ⟨h, h⟩
  · exact .inr ⟨h, by unfold Rd; exact _root_.rfl⟩
theorem Lk.sm {x y z : Nat} (h : Sm x y) (k : Lk y z) : Lk x z := by
  rcases h with rfl | ⟨a, b⟩
  · exact k
  · rcases k with ⟨c, d⟩ | ⟨c, d⟩
    · exact .inl ⟨a, d⟩
    · exact absurd b c
theorem Lk.symm {x y : Nat} (h : Lk x y) : Lk y x := by
  rcases h with ⟨a, b⟩ | ⟨a, b⟩
  · exact .inl ⟨b, a⟩
  · exact .inr ⟨fun k => a ((nan_rd b).2 k), b.symm⟩
theorem Lk.sm2 {x y z : Nat} (k : Lk x y) (h : Sm y z) : Lk x z := (Lk.sm h.symm k.symm).symm
theorem Lk.of_sm {x y : Nat} (h : Sm x y) : Lk x y := Lk.sm h Lk.rfl
theorem Lk.nv {op : BinOp} {x y x' y' : Nat} (hx : Lk x x') (hy : Lk y y') : nv op x y = nv op x' y' := by
  rcases hx with ⟨n1, n2⟩ | ⟨_, r⟩
  · unfold Go.Proofs.Ytdemcjppokhonaa.nv; rw [bits_nan_left n1, bits_nan_left n2]
  · rcases hy with ⟨n1, n2⟩ | ⟨_, r2⟩
    · unfold Go.Proofs.Ytdemcjppokhonaa.nv; rw [bits_nan_right n1, bits_nan_right n2]
    · exact nv_rd r r2
theorem Lk.order {x y x' y' : Nat} (hx : Lk x x') (hy : Lk y y') : FloatKind.f64.format.order x y = FloatKind.f64.format.order x' y' := by
  rcases hx with ⟨n1, n2⟩ | ⟨_, r⟩
  · rw [order_nan_left n1, order_nan_left n2]
  · rcases hy with ⟨n1, n2⟩ | ⟨_, r2⟩
    · rw [order_nan_right n1, order_nan_right n2]
    · exact order_rd r r2

theorem fin_mul_one {x s m q} (h : Ie.Fin64 (cn x) s m q) : Go.Proofs.Ytdemcjppokhonaa.nv .mul x 4607182418800017408 = cn x := by
  rw [← nv_rd (cn_rd x) (show Rd 4607182418800017408 4607182418800017408 from _root_.rfl)]
  unfold Go.Proofs.Ytdemcjppokhonaa.nv floatBits
  simp only [FloatKind.format]
  rw [Ie.mul_one h]; rfl
/-- a number times 1 is itself -/
theorem lk_one (x : Nat) : Lk (Go.Proofs.Ytdemcjppokhonaa.nv .mul x 4607182418800017408) x := by
  rcases three x with h | ⟨s, h⟩ | ⟨s, m, q, h⟩
  · refine .inl ⟨?_, h⟩
    unfold Go.Proofs.Ytdemcjppokhonaa.nv; rw [bits_nan_left h]; exact nan_QN
  · have e : Go.Proofs.Ytdemcjppokhonaa.nv .mul x 4607182418800017408 = Ieee.double.write (.infinity s) := by
      unfold Go.Proofs.Ytdemcjppokhonaa.nv floatBits
      simp only [FloatKind.format, Ieee.Format.mul, h, Ie.one_fin.rd, Ieee.Datum.product]
      simp
    rw [e]
    have hr : Ieee.double.read (Ieee.double.write (.infinity s)) = .infinity s := by cases s <;> decide +kernel
    refine .inr ⟨?_, ?_⟩
    · unfold NaN; rw [hr]; simp [Ieee.Datum.isNaN]
    · unfold Rd; rw [hr, h]
  · rw [fin_mul_one h]
    refine .inr ⟨?_, cn_rd x⟩
    unfold NaN; rw [h.rd]; simp [Ieee.Datum.isNaN]

/-- x less itself is nought: x is finite -/
def fin0 (x : Nat) : Bool := FloatKind.f64.format.order (Go.Proofs.Ytdemcjppokhonaa.nv .sub x x) 0 == some .eq
theorem fin_of0 {x : Nat} (h : fin0 x = true) : ∃ s m q, Ie.Fin64 (cn x) s m q := by
  unfold fin0 at h
  rcases three x with k | ⟨s, k⟩ | k
  · exfalso
    unfold Go.Proofs.Ytdemcjppokhonaa.nv at h
    rw [bits_nan_left k] at h
    rw [show Option.getD none QN = QN from rfl, order_nan_left nan_QN] at h
    cases h
  · exfalso
    have e : Go.Proofs.Ytdemcjppokhonaa.nv .sub x x = QN := by
      unfold Go.Proofs.Ytdemcjppokhonaa.nv floatBits
      simp only [FloatKind.format, Ieee.Format.sub, k, Ieee.Datum.opposite, Ieee.Datum.sum]
      simp
    rw [e, order_nan_left nan_QN] at h
    cases h
  · exact k
/-- a finite number times nought is a nought -/
theorem fin_mul_zero {x s m q} (h : Ie.Fin64 (cn x) s m q) : Go.Proofs.Ytdemcjppokhonaa.nv .mul x 0 = Ieee.double.word s 0 := by
  rw [← nv_rd (cn_rd x) (show Rd 0 0 from _root_.rfl)]
  unfold Go.Proofs.Ytdemcjppokhonaa.nv floatBits
  simp only [FloatKind.format, Ieee.Format.mul, h.rd, Ie.read_zero, Ieee.Datum.product, Option.map_some, Option.getD_some, Nat.mul_zero, Bool.xor_false]
  show Ieee.double.nearest s 0 _ = _
  unfold Ieee.Format.nearest
  rw [if_pos rfl]
theorem word0_fin (s : Bool) : Ie.Fin64 (Ieee.double.word s 0) s 0 0 := by
  have := Ie.fin_word s (m := 0) (q := 0) (by decide) (by decide) (.inl rfl)
  simpa using this
theorem word0_order (s : Bool) : FloatKind.f64.format.order (Ieee.double.word s 0) 0 = some .eq := by cases s <;> decide +kernel
theorem zero_mul {x : Nat} (h : fin0 x = true) : Go.Proofs.Ytdemcjppokhonaa.nv .add 0 (Go.Proofs.Ytdemcjppokhonaa.nv .mul 0 x) = 0 := by
  obtain ⟨s, m, q, k⟩ := fin_of0 h
  rw [nv_mul_comm, fin_mul_zero k]
  unfold Go.Proofs.Ytdemcjppokhonaa.nv floatBits
  simp only [FloatKind.format]
  rw [Ie.zero_add_zero (word0_fin s)]; rfl
theorem mul_zero_eq {x : Nat} (h : fin0 x = true) : FloatKind.f64.format.order (Go.Proofs.Ytdemcjppokhonaa.nv .mul x 0) 0 = some .eq := by
  obtain ⟨s, m, q, k⟩ := fin_of0 h
  rw [fin_mul_zero k]; exact word0_order s
theorem fin_notnan {x s m q} (h : Ie.Fin64 (cn x) s m q) : ¬ NaN x := by
  rw [← nan_rd (cn_rd x)]; unfold NaN; rw [h.rd]; simp [Ieee.Datum.isNaN]
theorem zero_add_eq {x : Nat} (h : fin0 x = true) : FloatKind.f64.format.order (Go.Proofs.Ytdemcjppokhonaa.nv .add 0 (Go.Proofs.Ytdemcjppokhonaa.nv .mul 4607182418800017408 x)) x = some .eq := by
  obtain ⟨s, m, q, k⟩ := fin_of0 h
  rw [nv_mul_comm, fin_mul_one k]
  by_cases hm : m = 0
  · subst hm
    have e : Go.Proofs.Ytdemcjppokhonaa.nv .add 0 (cn x) = 0 := by
      unfold Go.Proofs.Ytdemcjppokhonaa.nv floatBits
      simp only [FloatKind.format]
      rw [Ie.zero_add_zero k]; rfl
    rw [e]
    have hx : Ieee.double.read x = .number s 0 (-1074 + (q : Int)) := by rw [← read_cn x]; exact k.rd
    simp only [FloatKind.format, Ieee.Format.order, hx, Ie.read_zero, Ieee.Datum.order, Ie.signed_zero]
    simp [compare, compareOfLessAndEq]
  · have e : Go.Proofs.Ytdemcjppokhonaa.nv .add 0 (cn x) = cn x := by
      unfold Go.Proofs.Ytdemcjppokhonaa.nv floatBits
      simp only [FloatKind.format]
      rw [Ie.zero_add k hm]; rfl
    rw [e, order_rd (cn_rd x) (show Rd x x from _root_.rfl)]
    exact order_self (fin_notnan k)
theorem sub_half : Go.Proofs.Ytdemcjppokhonaa.nv .sub 4607182418800017408 4602678819172646912 = 4602678819172646912 := by decide +kernel
theorem sub_one : Go.Proofs.Ytdemcjppokhonaa.nv .sub 4607182418800017408 4607182418800017408 = 0 := by decide +kernel
end Go.Proofs.Ytdemcjppokhonaa
