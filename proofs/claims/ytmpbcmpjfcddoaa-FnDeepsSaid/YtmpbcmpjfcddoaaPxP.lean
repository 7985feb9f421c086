/-
  Plain facts of pixels by whole numbers: what a rounded quotient is, parts of numbers, pixels over each other; no program is named.
-/
namespace Go.Proofs.Ytmpbcmpjfcddoaa
set_option linter.unusedVariables false
set_option linter.unusedSimpArgs false

theorem tdiv_down {x d : Int} (hd : 0 < d) : (if x.tmod d < 0 then x.tdiv d - 1 else x.tdiv d) = x / d := by
  have h1 := Int.mul_tdiv_add_tmod x d
  have h2 : -d < x.tmod d ∧ x.tmod d < d := ⟨by have h3 := Int.tmod_lt_of_pos (-x) hd; rw [Int.neg_tmod] at h3; omega, Int.tmod_lt_of_pos x hd⟩
  split
  · rename_i h
    symm
    rw [Int.ediv_eq_iff_of_pos hd]
    rw [Int.sub_mul, Int.mul_comm (x.tdiv d) d]
    omega
  · rename_i h
    symm
    rw [Int.ediv_eq_iff_of_pos hd]
    rw [Int.mul_comm (x.tdiv d) d]
    omega
theorem tmod_up {x d : Int} (hd : 0 < d) : (if x.tmod d < 0 then x.tmod d + d else x.tmod d) = x % d := by
  have h1 := Int.mul_tdiv_add_tmod x d
  have h2 := tdiv_down (x := x) hd
  have h3 := Int.mul_ediv_add_emod x d
  split at h2
  · rename_i h
    rw [if_pos h]
    rw [← h2, Int.mul_sub] at h3
    omega
  · rename_i h
    rw [if_neg h]
    rw [← h2] at h3
    omega
theorem rest_div {x d : Int} (hd : 0 < d) : (x - x % d).tdiv d = x / d := by
  have h3 := Int.mul_ediv_add_emod x d
  have : x - x % d = d * (x / d) := by omega
  rw [this, Int.mul_tdiv_cancel_left _ (by omega)]
theorem div_bd {x d : Int} (hd : 1 ≤ d) (hx : -100000000000000 ≤ x ∧ x ≤ 100000000000000) : -100000000000000 ≤ x / d ∧ x / d ≤ 100000000000000 := by
  constructor
  · exact Int.le_ediv_of_mul_le (by omega) (by omega)
  · have := Int.ediv_lt_of_lt_mul (a := x) (b := 100000000000001) (c := d) (by omega) (by omega)
    omega
theorem tmod_bd {x d : Int} (hd : 1 ≤ d) : -d < x.tmod d ∧ x.tmod d < d :=
  ⟨by have h3 := Int.tmod_lt_of_pos (-x) (show 0 < d by omega); rw [Int.neg_tmod] at h3; omega, Int.tmod_lt_of_pos x (by omega)⟩
theorem mul_bd {u v a b : Int} (hu : -a ≤ u ∧ u ≤ a) (hv : -b ≤ v ∧ v ≤ b) : -(a * b) ≤ u * v ∧ u * v ≤ a * b := by
  have ha : 0 ≤ a := by omega
  have hb : 0 ≤ b := by omega
  have h : (u * v).natAbs ≤ (a * b).natAbs := by
    rw [Int.natAbs_mul, Int.natAbs_mul]
    exact Nat.mul_le_mul (by omega) (by omega)
  have := Int.mul_nonneg ha hb
  omega
theorem mul_nn {u v a b : Int} (hu : 0 ≤ u ∧ u ≤ a) (hv : 0 ≤ v ∧ v ≤ b) : 0 ≤ u * v ∧ u * v ≤ a * b :=
  ⟨Int.mul_nonneg hu.1 hv.1, (mul_bd (a := a) (b := b) (by omega) (by omega)).2⟩

/-- a quotient rounded, of two the greater -/
def rnd (a b : Int) : Int := (2 * a + b) / (2 * b)
theorem rnd_bd {a b lo hi : Int} (hb : 0 < b) (h1 : lo * b ≤ a) (h2 : a ≤ hi * b) : lo ≤ rnd a b ∧ rnd a b ≤ hi := by
  unfold rnd
  have e1 : lo * (2 * b) = 2 * (lo * b) := by rw [← Int.mul_assoc, Int.mul_comm lo 2, Int.mul_assoc]
  have e2 : (hi + 1) * (2 * b) = 2 * (hi * b) + 2 * b := by rw [Int.add_mul, ← Int.mul_assoc, Int.mul_comm hi 2, Int.mul_assoc]; omega
  constructor
  · exact Int.le_ediv_of_mul_le (by omega) (by omega)
  · have := Int.ediv_lt_of_lt_mul (a := 2 * a + b) (b := hi + 1) (c := 2 * b) (by omega) (by omega)
    omega
theorem rnd_exact {a b : Int} (hb : 0 < b) : rnd (a * b) b = a := by
  have := rnd_bd (a := a * b) (b := b) (lo := a) (hi := a) hb (Int.le_refl _) (Int.le_refl _)
  omega


/-- four numbers: red, green, blue and how full -/
abbrev Kl := Int × Int × Int × Int
theorem take_snocK {l : List Kl} {k : Nat} {c : Kl} (h : l[k]? = some c) : l.take (k + 1) = l.take k ++ [c] := by
  rw [List.take_add_one, h]; rfl
def Num (x : Int) : Prop := 0 ≤ x ∧ x ≤ 255
instance (v : Int) : Decidable (Num v) := by unfold Num; infer_instance
def PxNs (p : Kl) : Prop := Num p.1 ∧ Num p.2.1 ∧ Num p.2.2.1 ∧ Num p.2.2.2
instance (p : Kl) : Decidable (PxNs p) := by unfold PxNs; infer_instance
def Pix (p : Kl) : Prop := PxNs p ∧ p.1 ≤ p.2.2.2 ∧ p.2.1 ≤ p.2.2.2 ∧ p.2.2.1 ≤ p.2.2.2
instance (p : Kl) : Decidable (Pix p) := by unfold Pix; infer_instance
abbrev Z4 : Kl := (0, 0, 0, 0)
def part (a b : Int) : Int := rnd (a * b) 255
def scale (p : Kl) (n : Int) : Kl := (part p.1 n, part p.2.1 n, part p.2.2.1 n, part p.2.2.2 n)
def plusP (p q : Kl) : Kl := (p.1 + q.1, p.2.1 + q.2.1, p.2.2.1 + q.2.2.1, p.2.2.2 + q.2.2.2)
def over (a b : Kl) : Kl := plusP a (scale b (255 - a.2.2.2))
def least (p : Kl) : Kl := (min 255 p.1, min 255 p.2.1, min 255 p.2.2.1, min 255 p.2.2.2)
def overOf (a b : Kl) : Kl := if Pix a ∧ Pix b then over a b else Z4
def insideOf (a b : Kl) : Kl := if Pix a ∧ Pix b then scale a b.2.2.2 else Z4
def outsideOf (a b : Kl) : Kl := if Pix a ∧ Pix b then scale a (255 - b.2.2.2) else Z4
def addedOf (a b : Kl) : Kl := if Pix a ∧ Pix b then least (plusP a b) else Z4
def plainOf (p : Kl) : Kl := if Pix p ∧ p.2.2.2 ≠ 0 then (rnd (255 * p.1) p.2.2.2, rnd (255 * p.2.1) p.2.2.2, rnd (255 * p.2.2.1) p.2.2.2, p.2.2.2) else Z4
def premulOf (p : Kl) : Kl := if PxNs p then (part p.1 p.2.2.2, part p.2.1 p.2.2.2, part p.2.2.1 p.2.2.2, p.2.2.2) else Z4
theorem part_bd {a b : Int} (ha : Num a) (hb : Num b) : 0 ≤ part a b ∧ part a b ≤ a ∧ part a b ≤ b := by
  obtain ⟨a0, a1⟩ := ha
  obtain ⟨b0, b1⟩ := hb
  have h0 := mul_nn (u := a) (v := b) (a := a) (b := 255) ⟨a0, Int.le_refl _⟩ ⟨b0, b1⟩
  have h1 := mul_nn (u := a) (v := b) (a := 255) (b := b) ⟨a0, a1⟩ ⟨b0, Int.le_refl _⟩
  have r1 := rnd_bd (a := a * b) (b := 255) (lo := 0) (hi := a) (by omega) (by omega) (by omega)
  have r2 := rnd_bd (a := a * b) (b := 255) (lo := 0) (hi := b) (by omega) (by omega) (by rw [Int.mul_comm b 255]; omega)
  exact ⟨r1.1, r1.2, r2.2⟩
theorem mul_num {a b : Int} (ha : Num a) (hb : Num b) : 0 ≤ a * b ∧ a * b ≤ 65025 := mul_nn (a := 255) (b := 255) ha hb
theorem num_sub {a : Int} (h : Num a) : Num (255 - a) := by unfold Num at *; omega
theorem pix_dec (p : Kl) : decide (Pix p) = (decide (PxNs p) && decide (p.1 ≤ p.2.2.2) && decide (p.2.1 ≤ p.2.2.2) && decide (p.2.2.1 ≤ p.2.2.2)) := by
  rw [Bool.eq_iff_iff, decide_eq_true_iff]; simp [Pix, and_assoc]
theorem ns_dec (p : Kl) : decide (PxNs p) = (decide (Num p.1) && decide (Num p.2.1) && decide (Num p.2.2.1) && decide (Num p.2.2.2)) := by
  rw [Bool.eq_iff_iff, decide_eq_true_iff]; simp [PxNs, and_assoc]
theorem num_dec (x : Int) : decide (Num x) = (decide (0 ≤ x) && decide (x ≤ 255)) := by
  rw [Bool.eq_iff_iff, decide_eq_true_iff]; simp [Num]
theorem spix_dec (p : Kl) : decide (Pix p) = (decide (Num p.2.2.2) && (decide (0 ≤ p.1) && decide (p.1 ≤ p.2.2.2)) && (decide (0 ≤ p.2.1) && decide (p.2.1 ≤ p.2.2.2)) && (decide (0 ≤ p.2.2.1) && decide (p.2.2.1 ≤ p.2.2.2))) := by
  rw [Bool.eq_iff_iff, decide_eq_true_iff]; simp only [Bool.and_eq_true, decide_eq_true_iff]; simp only [Pix, PxNs, Num]; constructor <;> intro h <;> omega
end Go.Proofs.Ytmpbcmpjfcddoaa
