/-
  Plain facts on the reading of a time's text: of the text of a clock's number comes that number, and of that the frame. No program is named here; there are no conditions.
-/
import Derived.Test.YthjggjnkhhoigaaGreatDoorClock
namespace Go.Proofs.YthjggjnkhhoigaaGreatDoor.Pl

def dv (b : Int) : Nat → Int
  | 0 => 3600 * b
  | 1 => 60 * b
  | 2 => b
  | _ => 1
def fmk (dr : Bool) (i : Nat) : UInt8 := if dr = true ∧ i = 3 then 59 else 58
/-- what a byte does to the field, to the number so far and to the part -/
def rs (dr : Bool) (b : Int) (st : Nat × Int × Int) (c : UInt8) : Option (Nat × Int × Int) :=
  if 48 ≤ c.toNat ∧ c.toNat ≤ 57 then some (st.1, st.2.1, 10 * st.2.2 + ((c.toNat : Int) - 48))
  else if st.1 < 3 ∧ c = fmk dr (st.1 + 1) then some (st.1 + 1, st.2.1 + st.2.2 * dv b st.1, 0)
  else none
def rf (dr : Bool) (b : Int) : List UInt8 → Nat × Int × Int → Option Int
  | [], st => some (st.2.1 + st.2.2 * dv b st.1)
  | c :: l, st => match rs dr b st c with
    | none => none
    | some st' => rf dr b l st'
theorem rf_dg (dr : Bool) (b : Int) (n : Nat) (l : List UInt8) (f : Nat) (x p : Int) : rf dr b (dg n :: l) (f, x, p) = rf dr b l (f, x, 10 * p + ((n % 10 : Nat) : Int)) := by
  have h := dg_toNat n
  have e : rs dr b (f, x, p) (dg n) = some (f, x, 10 * p + ((n % 10 : Nat) : Int)) := by
    unfold rs
    rw [if_pos (by omega)]
    simp only [h]
    congr 3
    omega
  simp only [rf, e]
theorem rf_mk (dr : Bool) (b : Int) (l : List UInt8) (f : Nat) (hf : f < 3) (x p : Int) : rf dr b (fmk dr (f + 1) :: l) (f, x, p) = rf dr b l (f + 1, x + p * dv b f, 0) := by
  have e : rs dr b (f, x, p) (fmk dr (f + 1)) = some (f + 1, x + p * dv b f, 0) := by
    unfold rs
    rw [if_neg (by unfold fmk; split <;> simp), if_pos ⟨hf, rfl⟩]
  simp only [rf, e]
theorem rf_two (dr : Bool) (b : Int) (n : Nat) (hn : n < 100) (l : List UInt8) (f : Nat) (x : Int) : rf dr b (two n ++ l) (f, x, 0) = rf dr b l (f, x, (n : Int)) := by
  show rf dr b (dg (n / 10) :: dg n :: l) (f, x, 0) = _
  rw [rf_dg, rf_dg]
  congr 3
  omega
theorem rf_three (dr : Bool) (b : Int) (n : Nat) (hn : n < 1000) (l : List UInt8) (f : Nat) (x : Int) : rf dr b (three n ++ l) (f, x, 0) = rf dr b l (f, x, (n : Int)) := by
  show rf dr b (dg (n / 100) :: dg (n / 10) :: dg n :: l) (f, x, 0) = _
  rw [rf_dg, rf_dg, rf_dg]
  congr 3
  omega
theorem rf_txt (dr : Bool) (b c : Int) (h0 : 0 ≤ c) (hb : 1 ≤ b) (hb2 : b ≤ 120) (hh : ¬ 99 < c / b / 3600) : rf dr b (txt dr b c) (0, 0, 0) = some c := by
  have hc : b * (c / b) + c % b = c := Int.mul_ediv_add_emod c b
  have q0 : 0 ≤ c / b := Int.ediv_nonneg h0 (by omega)
  have r0 : 0 ≤ c % b := Int.emod_nonneg _ (by omega)
  have r1 : c % b < b := Int.emod_lt_of_pos _ (by omega)
  unfold txt
  generalize c / b = s at *
  generalize c % b = r at *
  have m1 : (58 : UInt8) = fmk dr (0 + 1) := by simp [fmk]
  have m2 : (58 : UInt8) = fmk dr (1 + 1) := by simp [fmk]
  have m3 : mark dr = fmk dr (2 + 1) := by simp [fmk, mark]
  rw [rf_two _ _ _ (by omega)]
  rw [m1, rf_mk _ _ _ _ (by omega), ← m1, rf_two _ _ _ (by omega)]
  rw [m2, rf_mk _ _ _ _ (by omega), rf_two _ _ _ (by omega)]
  rw [m3, rf_mk _ _ _ _ (by omega)]
  have e : ∀ X : Int, rf dr b (ff b r) (2 + 1, X, 0) = some (X + r) := by
    intro X
    unfold ff
    by_cases h : 100 < b
    · rw [if_pos h, ← List.append_nil (three _), rf_three _ _ _ (by omega)]; simp [rf, dv]; omega
    · rw [if_neg h, ← List.append_nil (two _), rf_two _ _ _ (by omega)]; simp [rf, dv]; omega
  rw [e]
  congr 1
  simp only [dv]
  have t1 : ((s / 3600).toNat : Int) = s / 3600 := by omega
  have t2 : ((s / 60 % 60).toNat : Int) = s / 60 % 60 := by omega
  have t3 : ((s % 60).toNat : Int) = s % 60 := by omega
  rw [t1, t2, t3]
  have u : s / 3600 * (3600 * b) + s / 60 % 60 * (60 * b) + s % 60 * b = b * s := by
    rw [← Int.mul_assoc, ← Int.mul_assoc, ← Int.add_mul, ← Int.add_mul, Int.mul_comm b s]
    congr 1
    omega
  omega

def cf (n : Int) (dr : Bool) (b x : Int) : Int := x - left n dr * (x / (60 * b) - x / (60 * b) / 10)
theorem cf_no (n b x : Int) : cf n false b x = x := by simp [cf, left]
theorem cf_clk {n d : Int} {dr : Bool} {f : Int} (hr : rok n d dr = true) (hf : isf f = true) : cf n dr (base n d dr) (clk n dr f) = f := by
  obtain ⟨f1, f2⟩ := isf_bd hf
  cases dr
  · rw [cf_no]; simp [clk]
  · obtain ⟨rfl, rfl | rfl⟩ := rok_drop hr
    · rw [base30 hr]; simp [cf, left, clk, cd]; split <;> omega
    · rw [base60 hr]; simp [cf, left, clk, cd]; split <;> omega

/-- a text that is not empty is read: its clock's number, and of that the frame -/
theorem tt_some {n d : Int} {dr : Bool} {f : Int} (h : tt n d dr f ≠ []) : rok n d dr = true ∧ isf f = true ∧ ¬ 99 < clk n dr f / base n d dr / 3600 ∧ tt n d dr f = txt dr (base n d dr) (clk n dr f) := by
  unfold tt at h ⊢
  by_cases h1 : rok n d dr = true ∧ isf f = true
  · rw [if_pos h1] at h ⊢
    by_cases h2 : 99 < clk n dr f / base n d dr / 3600
    · rw [if_pos h2] at h; exact absurd rfl h
    · rw [if_neg h2]; exact ⟨h1.1, h1.2, h2, rfl⟩
  · rw [if_neg h1] at h; exact absurd rfl h
theorem clk_bd {n : Int} {dr : Bool} {f : Int} (h0 : 0 ≤ f) (h1 : f ≤ 10000000) : 0 ≤ clk n dr f ∧ clk n dr f ≤ 20000000 := by
  unfold clk cd; split <;> (try split) <;> (try split) <;> omega
theorem tt_read {n d : Int} {dr : Bool} {f : Int} {t : List UInt8} (h : tt n d dr f = t) (ht : t ≠ []) :
    rf dr (base n d dr) t (0, 0, 0) = some (clk n dr f) ∧ cf n dr (base n d dr) (clk n dr f) = f := by
  subst h
  obtain ⟨h1, h2, h3, h4⟩ := tt_some ht
  obtain ⟨b1, b2⟩ := base_bd h1
  obtain ⟨f1, f2⟩ := isf_bd h2
  rw [h4]
  exact ⟨rf_txt dr _ _ (clk_bd f1 f2).1 b1 b2 h3, cf_clk h1 h2⟩

/-- what TimeRead answers of a text -/
def RD (n d : Int) (dr : Bool) (t : List UInt8) (x : Int) (ok : Bool) : Prop :=
  (ok = true ∧ t ≠ [] ∧ tt n d dr x = t) ∨ (ok = false ∧ x = 0 ∧ ∀ f, tt n d dr f = t → t = [])
theorem RD_one {n d : Int} {dr : Bool} {t : List UInt8} {x y : Int} {a b : Bool} (h : RD n d dr t x a) (k : RD n d dr t y b) : x = y ∧ a = b := by
  rcases h with ⟨h1, h2, h3⟩ | ⟨h1, h2, h3⟩ <;> rcases k with ⟨k1, k2, k3⟩ | ⟨k1, k2, k3⟩
  · obtain ⟨a1, a2⟩ := tt_read h3 h2
    obtain ⟨c1, c2⟩ := tt_read k3 k2
    rw [a1] at c1
    have e : clk n dr x = clk n dr y := Option.some.inj c1
    rw [e, c2] at a2
    exact ⟨a2.symm, by rw [h1, k1]⟩
  · exact absurd (k3 x h3) h2
  · exact absurd (h3 y k3) k2
  · exact ⟨by rw [h2, k2], by rw [h1, k1]⟩
theorem tt_length {n d : Int} {dr : Bool} {f : Int} (h : tt n d dr f ≠ []) : (tt n d dr f).length = if 100 < base n d dr then 12 else 11 := by
  obtain ⟨h1, h2, h3, h4⟩ := tt_some h
  rw [h4]
  unfold txt ff
  split <;> simp [two, three]

end Go.Proofs.YthjggjnkhhoigaaGreatDoor.Pl
