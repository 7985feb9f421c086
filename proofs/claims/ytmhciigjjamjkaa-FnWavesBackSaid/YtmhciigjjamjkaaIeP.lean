/-
  Plain facts on numbers of 64 bits as the model reads and writes them: what is written of a number that a word stands for is that word, so that a product with 1 and a sum with 0 are exact. No program is named here; no conditions.
-/
import Derived.WalkKit
namespace Go.Proofs.Ytmhciigjjamjkaa.Ie
set_option linter.unusedVariables false

theorem dbl_b : Ieee.double.binade = 4503599627370496 := by decide
theorem dbl_i : Ieee.double.infRung = 9218868437227405312 := by decide
theorem dbl_s : Ieee.double.signWeight = 9223372036854775808 := by decide
theorem dbl_l : Ieee.double.leastPlace = -1074 := by decide
theorem dbl_f : Ieee.double.fractionBits = 52 := rfl

theorem log2_shl {m : Nat} (h : m ≠ 0) (k : Nat) : (m <<< k).log2 = m.log2 + k := by
  induction k with
  | zero => simp
  | succ k ih =>
    have hk : m <<< k ≠ 0 := by
      rw [Nat.shiftLeft_eq]
      exact Nat.mul_ne_zero h (Nat.pos_iff_ne_zero.1 (Nat.two_pow_pos k))
    rw [Nat.shiftLeft_succ, Nat.log2_two_mul hk, ih]
    omega
theorem shl_ne {m : Nat} (h : m ≠ 0) (k : Nat) : m <<< k ≠ 0 := by
  rw [Nat.shiftLeft_eq]
  exact Nat.mul_ne_zero h (Nat.pos_iff_ne_zero.1 (Nat.two_pow_pos k))

/-- a finite word: its sign, its digits, its place -/
structure Fin64 (x : Nat) (s : Bool) (m q : Nat) : Prop where
  rd : Ieee.double.read x = .number s m (-1074 + (q : Int))
  wd : x = Ieee.double.word s (q * 4503599627370496 + m)
  lt : m < 9007199254740992
  hi : q * 4503599627370496 + m < 9218868437227405312
  nm : q = 0 ∨ 4503599627370496 ≤ m

theorem word_eq (s : Bool) (r : Nat) : Ieee.double.word s r = if s then 9223372036854775808 + r else r := by
  unfold Ieee.Format.word; rw [dbl_s]
theorem fin_of {x : Nat} (hx : x < 18446744073709551616) (hr : x % 9223372036854775808 < 9218868437227405312) : ∃ s m q, Fin64 x s m q := by
  have hd : x = x / 9223372036854775808 * 9223372036854775808 + x % 9223372036854775808 := by omega
  have hq : x / 9223372036854775808 = 0 ∨ x / 9223372036854775808 = 1 := by omega
  obtain ⟨s, hs, hw⟩ : ∃ s : Bool, (x / 9223372036854775808 % 2 == 1) = s ∧ x = Ieee.double.word s (x % 9223372036854775808) := by
    rcases hq with h | h
    · refine ⟨false, by rw [h]; rfl, ?_⟩
      rw [word_eq]; simp; omega
    · refine ⟨true, by rw [h]; rfl, ?_⟩
      rw [word_eq]; simp; omega
  have hread : Ieee.double.read x = if x % 9223372036854775808 < 4503599627370496 then .number s (x % 9223372036854775808) (-1074) else .number s (4503599627370496 + x % 9223372036854775808 % 4503599627370496) (-1074 + ((x % 9223372036854775808 / 4503599627370496 - 1 : Nat) : Int)) := by
    unfold Ieee.Format.read
    dsimp only
    rw [dbl_s, dbl_b, dbl_i, dbl_l, hs]
    split
    · rfl
    · rfl
  generalize x % 9223372036854775808 = r at *
  by_cases h : r < 4503599627370496
  · rw [if_pos h] at hread
    refine ⟨s, r, 0, ?_, ?_, by omega, by omega, .inl rfl⟩
    · rw [hread]; rfl
    · rw [hw]; simp
  · rw [if_neg h] at hread
    have e : (r / 4503599627370496 - 1) * 4503599627370496 + (4503599627370496 + r % 4503599627370496) = r := by omega
    refine ⟨s, 4503599627370496 + r % 4503599627370496, r / 4503599627370496 - 1, hread, ?_, by omega, by omega, .inr (by omega)⟩
    rw [e]; exact hw

/-- the number mag * 2 ^ place is m * 2 ^ p -/
def SameV (mag : Nat) (place : Int) (m : Nat) (p : Int) : Prop := mag <<< (place - p).toNat = m <<< (p - place).toNat

theorem cut_zero (neg : Bool) (n : Nat) : Ieee.Toward.even.cut neg n 0 = n := by
  unfold Ieee.Toward.cut
  simp [Nat.mod_one]
theorem cut_pow (neg : Bool) {m : Nat} (h : m ≠ 0) (k : Nat) : Ieee.Toward.even.cut neg (m <<< k) k = m := by
  unfold Ieee.Toward.cut
  dsimp only
  have hl := log2_shl h k
  rw [Nat.min_eq_left (by omega)]
  have hg : (1 : Nat) <<< k = 2 ^ k := by rw [Nat.shiftLeft_eq]; omega
  have hp := Nat.two_pow_pos k
  rw [hg, Nat.shiftLeft_eq, Nat.mul_div_cancel _ hp, Nat.mul_mod_left]
  have h1 : ¬ (2 ^ k < 2 * 0) := by omega
  have h2 : (2 ^ k == 2 * 0) = false := by
    rw [beq_eq_false_iff_ne]; omega
  simp [h1, h2]

theorem nearest_fin {x m q : Nat} {s : Bool} (h : Fin64 x s m q) (hm : m ≠ 0) {mag : Nat} {place : Int} (hmag : mag ≠ 0) (hv : SameV mag place m (-1074 + (q : Int))) : Ieee.double.nearest s mag place = x := by
  unfold SameV at hv
  have hl : place + mag.log2 = -1074 + (q : Int) + m.log2 := by
    have h1 := log2_shl hmag (place - (-1074 + (q : Int))).toNat
    have h2 := log2_shl hm (-1074 + (q : Int) - place).toNat
    rw [hv, h2] at h1
    omega
  have hlt := h.lt
  have hm52 : m.log2 ≤ 52 := by
    have := (Nat.log2_lt hm (k := 53)).2 (by omega)
    omega
  have hlast : max (place + (mag.log2 : Int) - (52 : Nat)) (-1074) = -1074 + (q : Int) := by
    rw [hl]
    rcases h.nm with hq | hB
    · subst hq; omega
    · have : 52 ≤ m.log2 := (Nat.le_log2 hm).2 (by omega)
      omega
  unfold Ieee.Format.nearest
  rw [if_neg hmag, dbl_f, dbl_l, dbl_b, dbl_i]
  dsimp only
  rw [hlast]
  have hkept : Ieee.Toward.even.cut s (mag <<< (place - (-1074 + (q : Int))).toNat) (-1074 + (q : Int) - place).toNat = m := by
    rw [hv]
    exact cut_pow s hm _
  rw [hkept]
  have e : (-1074 + (q : Int) - -1074).toNat = q := by omega
  rw [e, Nat.min_eq_left (by have := h.hi; omega)]
  exact h.wd.symm

theorem one_fin : Fin64 4607182418800017408 false 4503599627370496 1022 :=
  ⟨by decide, by decide, by decide, by decide, .inr (by decide)⟩
theorem read_zero : Ieee.double.read 0 = .number false 0 (-1074) := by decide

/-- a number times 1 is itself -/
theorem mul_one {x m q : Nat} {s : Bool} (h : Fin64 x s m q) : Ieee.double.mul x 4607182418800017408 = some x := by
  unfold Ieee.Format.mul
  rw [h.rd, one_fin.rd]
  show some (Ieee.double.nearest (s ^^ false) (m * 4503599627370496) (-1074 + (q : Int) + (-1074 + ((1022 : Nat) : Int)))) = some x
  congr 1
  rw [Bool.xor_false]
  by_cases hm : m = 0
  · subst hm
    have hq : q = 0 := by rcases h.nm with h | h; exact h; omega
    subst hq
    unfold Ieee.Format.nearest
    rw [if_pos (by omega)]
    exact h.wd.symm
  · refine nearest_fin h hm (Nat.mul_ne_zero hm (by decide)) ?_
    unfold SameV
    have e1 : (-1074 + (q : Int) + (-1074 + ((1022 : Nat) : Int)) - (-1074 + (q : Int))).toNat = 0 := by omega
    have e2 : (-1074 + (q : Int) - (-1074 + (q : Int) + (-1074 + ((1022 : Nat) : Int)))).toNat = 52 := by omega
    rw [e1, e2, Nat.shiftLeft_zero, Nat.shiftLeft_eq]
theorem signed_facts {s : Bool} {m q : Nat} (hm : m ≠ 0) : Ieee.signed s m q ≠ 0 ∧ decide (Ieee.signed s m q < 0) = s ∧ (Ieee.signed s m q).natAbs = m <<< q := by
  have hn := shl_ne hm q
  unfold Ieee.signed
  generalize m <<< q = k at *
  cases s
  · simp; omega
  · simp; omega
theorem signed_zero (s : Bool) (q : Nat) : Ieee.signed s 0 q = 0 := by
  unfold Ieee.signed
  rw [Nat.zero_shiftLeft]
  cases s <;> rfl
/-- the nought without a minus, and to it a number other than a nought, is the number -/
theorem zero_add {x m q : Nat} {s : Bool} (h : Fin64 x s m q) (hm : m ≠ 0) : Ieee.double.add 0 x = some x := by
  unfold Ieee.Format.add
  rw [h.rd, read_zero]
  obtain ⟨t1, t2, t3⟩ := signed_facts (s := s) (q := q) hm
  have hsum : (Ieee.Datum.number false 0 (-1074)).sum (.number s m (-1074 + (q : Int))) = some (.number s (m <<< q) (-1074)) := by
    unfold Ieee.Datum.sum
    dsimp only
    have hb : min (-1074) (-1074 + (q : Int)) = -1074 := by omega
    have e1 : (-1074 - (-1074 : Int)).toNat = 0 := by omega
    have e2 : (-1074 + (q : Int) - -1074).toNat = q := by omega
    rw [hb, e1, e2, signed_zero, Int.zero_add, if_neg t1, t2, t3]
  rw [hsum]
  show some (Ieee.double.nearest s (m <<< q) (-1074)) = some x
  congr 1
  refine nearest_fin h hm (shl_ne hm q) ?_
  unfold SameV
  have e1 : (-1074 - (-1074 + (q : Int))).toNat = 0 := by omega
  have e2 : (-1074 + (q : Int) - -1074).toNat = q := by omega
  rw [e1, e2, Nat.shiftLeft_zero]
/-- the nought without a minus, and to it a nought, is the nought without a minus -/
theorem zero_add_zero {x q : Nat} {s : Bool} (h : Fin64 x s 0 q) : Ieee.double.add 0 x = some 0 := by
  unfold Ieee.Format.add
  rw [h.rd, read_zero]
  have hsum : (Ieee.Datum.number false 0 (-1074)).sum (.number s 0 (-1074 + (q : Int))) = some (.number false 0 (min (-1074) (-1074 + (q : Int)))) := by
    unfold Ieee.Datum.sum
    dsimp only
    rw [signed_zero, signed_zero, Int.zero_add, if_pos rfl]
    simp
  rw [hsum]
  show some (Ieee.double.nearest false 0 _) = some 0
  congr 1

/-- a word that stands for the whole number n -/
def IsI (x : Nat) (n : Int) : Prop := ∃ s m q, Fin64 x s m q ∧ Ieee.signed s m q = n * 2 ^ 1074
/-- a datum that stands for the whole number n, its place no lower than -2148 -/
def DI (d : Ieee.Datum) (n : Int) : Prop := ∃ s m p, d = .number s m p ∧ -2148 ≤ p ∧ Ieee.signed s m (p + 2148).toNat = n * 2 ^ 2148

theorem signed_shl (s : Bool) (m a b : Nat) : Ieee.signed s m (a + b) = Ieee.signed s m a * 2 ^ b := by
  unfold Ieee.signed
  rw [Nat.shiftLeft_eq, Nat.shiftLeft_eq, Nat.pow_add]
  cases s
  · simp [Int.mul_assoc]
  · simp [Int.mul_assoc, Int.neg_mul]
theorem IsI.datum {x : Nat} {n : Int} (h : IsI x n) : DI (Ieee.double.read x) n := by
  obtain ⟨s, m, q, hF, hv⟩ := h
  refine ⟨s, m, -1074 + (q : Int), hF.rd, by omega, ?_⟩
  have e : (-1074 + (q : Int) + 2148).toNat = q + 1074 := by omega
  rw [e, signed_shl, hv, Int.mul_assoc, ← Int.pow_add]

theorem fin_word (s : Bool) {m q : Nat} (hlt : m < 9007199254740992) (hi : q * 4503599627370496 + m < 9218868437227405312) (hn : q = 0 ∨ 4503599627370496 ≤ m) : Fin64 (Ieee.double.word s (q * 4503599627370496 + m)) s m q := by
  refine ⟨?_, rfl, hlt, hi, hn⟩
  obtain ⟨r, hr⟩ : ∃ r, q * 4503599627370496 + m = r := ⟨_, rfl⟩
  rw [hr] at hi ⊢
  have hw1 : (Ieee.double.word s r / 9223372036854775808 % 2 == 1) = s := by
    rw [word_eq]
    cases s
    · simp; omega
    · simp; omega
  have hw2 : Ieee.double.word s r % 9223372036854775808 = r := by
    rw [word_eq]
    cases s
    · simp; omega
    · simp; omega
  unfold Ieee.Format.read
  dsimp only
  rw [dbl_s, dbl_b, dbl_i, dbl_l, hw1, hw2]
  by_cases h : r < 4503599627370496
  · have hq : q = 0 := by omega
    subst hq
    have : r = m := by omega
    rw [if_pos h, this]; rfl
  · have e1 : 4503599627370496 + r % 4503599627370496 = m := by omega
    have e2 : r / 4503599627370496 - 1 = q := by omega
    rw [if_neg h, if_pos hi, e1, e2]

theorem shl_shl (m a b : Nat) : (m <<< a) <<< b = m <<< (a + b) := by rw [Nat.shiftLeft_add]
theorem shl_inj {m n k : Nat} (h : m <<< k = n <<< k) : m = n := by
  rw [Nat.shiftLeft_eq, Nat.shiftLeft_eq] at h
  exact Nat.eq_of_mul_eq_mul_right (Nat.two_pow_pos k) h
theorem signed_abs (n : Int) (s : Bool) (h : n = 0 ∨ s = decide (n < 0)) (k : Nat) : Ieee.signed s n.natAbs k = n * 2 ^ k := by
  rcases Int.lt_trichotomy n 0 with hn | hn | hn
  · have hs : s = true := by rcases h with h | h; omega; rw [h]; simpa using hn
    subst hs
    unfold Ieee.signed
    rw [Nat.shiftLeft_eq]
    simp only [if_true, Int.natCast_mul, Int.natCast_pow]
    have : (n.natAbs : Int) = -n := by omega
    rw [this, Int.neg_mul, Int.neg_neg]
    rfl
  · subst hn
    rw [Int.natAbs_zero, signed_zero, Int.zero_mul]
  · have hs : s = false := by rcases h with h | h; omega; rw [h]; simp; omega
    subst hs
    unfold Ieee.signed
    rw [Nat.shiftLeft_eq]
    simp only [Bool.false_eq_true, if_false, Int.natCast_mul, Int.natCast_pow]
    have : (n.natAbs : Int) = n := by omega
    rw [this]
    rfl
theorem pow_pos' (k : Nat) : (0 : Int) < 2 ^ k := Int.pow_pos (by decide)
theorem signed_sign {s : Bool} {m k : Nat} {n : Int} {j : Nat} (hm : m ≠ 0) (h : Ieee.signed s m k = n * 2 ^ j) : s = decide (n < 0) ∧ n ≠ 0 ∧ m <<< k = n.natAbs <<< j := by
  obtain ⟨t1, t2, t3⟩ := signed_facts (s := s) (q := k) hm
  rw [h] at t1 t2 t3
  have hp := pow_pos' j
  refine ⟨?_, ?_, ?_⟩
  · rw [← t2]
    by_cases hn : n < 0
    · simp [hn, Int.mul_neg_of_neg_of_pos hn hp]
    · have : ¬ n * 2 ^ j < 0 := by
        have := Int.mul_nonneg (show 0 ≤ n by omega) (Int.le_of_lt hp)
        omega
      simp [hn, this]
  · intro hn; subst hn; simp at t1
  · rw [← t3, Int.natAbs_mul, Int.natAbs_pow, Nat.shiftLeft_eq]
    rfl

/-- what is written of a whole number that is not too great stands for it -/
theorem write_int {d : Ieee.Datum} {n : Int} (h : DI d n) (h1 : -9007199254740992 < n) (h2 : n < 9007199254740992) : IsI (Ieee.double.write d) n := by
  obtain ⟨s, mag, place, rfl, hp, hv⟩ := h
  show IsI (Ieee.double.nearest s mag place) n
  by_cases hm : mag = 0
  · subst hm
    rw [signed_zero] at hv
    have hn : n = 0 := by
      rcases Int.mul_eq_zero.1 hv.symm with h | h
      · exact h
      · have := pow_pos' 2148; omega
    subst hn
    have e : Ieee.double.nearest s 0 place = Ieee.double.word s (0 * 4503599627370496 + 0) := by unfold Ieee.Format.nearest; rw [if_pos rfl]
    rw [e]
    exact ⟨s, 0, 0, fin_word s (by decide) (by decide) (.inl rfl), by rw [signed_zero, Int.zero_mul]⟩
  · obtain ⟨hs, hn, hsh⟩ := signed_sign hm hv
    have ha : n.natAbs ≠ 0 := by omega
    obtain ⟨L, hL⟩ : ∃ L, n.natAbs.log2 = L := ⟨_, rfl⟩
    have hL52 : L ≤ 52 := by
      have := (Nat.log2_lt ha (k := 53)).2 (by omega)
      omega
    have hm0 := shl_ne ha (52 - L)
    have hl0 := log2_shl ha (52 - L)
    obtain ⟨m0, hm0e⟩ : ∃ m0, n.natAbs <<< (52 - L) = m0 := ⟨_, rfl⟩
    rw [hm0e] at hm0 hl0
    have hl1 : m0.log2 = 52 := by omega
    have b1 : 4503599627370496 ≤ m0 := by
      have := (Nat.le_log2 hm0 (k := 52)).1 (by omega)
      omega
    have b2 : m0 < 9007199254740992 := by
      have := (Nat.log2_lt hm0 (k := 53)).1 (by omega)
      omega
    have hF := fin_word s (m := m0) (q := L + 1022) b2 (by omega) (.inr b1)
    have hx : Ieee.double.nearest s mag place = Ieee.double.word s ((L + 1022) * 4503599627370496 + m0) := by
      refine nearest_fin hF hm0 hm ?_
      unfold SameV
      obtain ⟨P, hP⟩ : ∃ P, -1074 + ((L + 1022 : Nat) : Int) = P := ⟨_, rfl⟩
      rw [hP]
      have hP2 : P = (L : Int) - 52 := by omega
      apply shl_inj (k := (min place P + 2148).toNat)
      rw [shl_shl, shl_shl]
      have e1 : (place - P).toNat + (min place P + 2148).toNat = (place + 2148).toNat := by omega
      have e2 : (P - place).toNat + (min place P + 2148).toNat = (P + 2148).toNat := by omega
      have e3 : 52 - L + (P + 2148).toNat = 2148 := by omega
      rw [e1, e2, hsh, ← hm0e, shl_shl, e3]
    rw [hx]
    refine ⟨s, m0, L + 1022, hF, ?_⟩
    have e : Ieee.signed s m0 (L + 1022) = Ieee.signed s n.natAbs 1074 := by
      unfold Ieee.signed
      rw [← hm0e, shl_shl]
      have : 52 - L + (L + 1022) = 1074 := by omega
      rw [this]
    rw [e]
    exact signed_abs n s (.inr hs) 1074

theorem IsI.add {x y : Nat} {a b : Int} (hx : IsI x a) (hy : IsI y b) (h1 : -9007199254740992 < a + b) (h2 : a + b < 9007199254740992) : ∃ r, Ieee.double.add x y = some r ∧ IsI r (a + b) := by
  obtain ⟨s, m, q, hF, hv⟩ := hx
  obtain ⟨t, n, p, hG, hu⟩ := hy
  unfold Ieee.Format.add
  rw [hF.rd, hG.rd]
  obtain ⟨B, hB⟩ : ∃ B : Nat, min q p = B := ⟨_, rfl⟩
  obtain ⟨tot, htot⟩ : ∃ tot, Ieee.signed s m (q - B) + Ieee.signed t n (p - B) = tot := ⟨_, rfl⟩
  have hsum : (Ieee.Datum.number s m (-1074 + (q : Int))).sum (.number t n (-1074 + (p : Int))) = some (.number (if tot = 0 then s && t else decide (tot < 0)) tot.natAbs (-1074 + (B : Int))) := by
    unfold Ieee.Datum.sum
    dsimp only
    have hb : min (-1074 + (q : Int)) (-1074 + (p : Int)) = -1074 + (B : Int) := by omega
    have e1 : (-1074 + (q : Int) - (-1074 + (B : Int))).toNat = q - B := by omega
    have e2 : (-1074 + (p : Int) - (-1074 + (B : Int))).toNat = p - B := by omega
    rw [hb, e1, e2, htot]
  rw [hsum]
  refine ⟨_, rfl, write_int ?_ h1 h2⟩
  refine ⟨_, _, _, rfl, by omega, ?_⟩
  have e : (-1074 + (B : Int) + 2148).toNat = B + 1074 := by omega
  rw [e, signed_abs tot _ (by by_cases h : tot = 0; exact .inl h; right; rw [if_neg h])]
  have k1 : Ieee.signed s m q = Ieee.signed s m (q - B) * 2 ^ B := by rw [← signed_shl]; congr 1; omega
  have k2 : Ieee.signed t n p = Ieee.signed t n (p - B) * 2 ^ B := by rw [← signed_shl]; congr 1; omega
  rw [Int.pow_add, ← Int.mul_assoc, ← htot, Int.add_mul, ← k1, ← k2, hv, hu, ← Int.add_mul, Int.mul_assoc, ← Int.pow_add]

theorem IsI.mul {x y : Nat} {a b : Int} (hx : IsI x a) (hy : IsI y b) (h1 : -9007199254740992 < a * b) (h2 : a * b < 9007199254740992) : ∃ r, Ieee.double.mul x y = some r ∧ IsI r (a * b) := by
  obtain ⟨s, m, q, hF, hv⟩ := hx
  obtain ⟨t, n, p, hG, hu⟩ := hy
  unfold Ieee.Format.mul
  rw [hF.rd, hG.rd]
  refine ⟨_, rfl, write_int ?_ h1 h2⟩
  refine ⟨_, _, _, rfl, by omega, ?_⟩
  have e : (-1074 + (q : Int) + (-1074 + (p : Int)) + 2148).toNat = q + p := by omega
  rw [e]
  have k : Ieee.signed (s ^^ t) (m * n) (q + p) = Ieee.signed s m q * Ieee.signed t n p := by
    unfold Ieee.signed
    rw [Nat.shiftLeft_eq, Nat.shiftLeft_eq, Nat.shiftLeft_eq, Nat.pow_add]
    have : m * n * (2 ^ q * 2 ^ p) = m * 2 ^ q * (n * 2 ^ p) := by
      rw [Nat.mul_assoc, Nat.mul_assoc, Nat.mul_left_comm n (2 ^ q)]
    rw [this]
    cases s <;> cases t <;> simp [Int.neg_mul, Int.mul_neg, Int.natCast_mul]
  rw [k, hv, hu]
  have : a * 2 ^ 1074 * (b * 2 ^ 1074) = a * b * (2 ^ 1074 * 2 ^ 1074) := by
    rw [Int.mul_assoc, Int.mul_assoc, Int.mul_left_comm (2 ^ 1074) b]
  rw [this, ← Int.pow_add]

theorem of_int {n : Int} (h1 : -9007199254740992 < n) (h2 : n < 9007199254740992) : IsI (Ieee.double.write (.number (decide (n < 0)) n.natAbs 0)) n := by
  refine write_int ⟨_, _, _, rfl, by decide, ?_⟩ h1 h2
  exact signed_abs n _ (.inr rfl) _

end Go.Proofs.Ytmhciigjjamjkaa.Ie
