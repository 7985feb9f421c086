/-
  Plain facts on the clock's numbers and on a time's text, as functions of whole numbers. No program is named here; there are no conditions.
-/
import Derived.Test.YthjggjnkhhoigaaGreatDoorPlain
import Derived.Test.YthjggjnkhhoigaaGreatDoorDec
namespace Go.Proofs.YthjggjnkhhoigaaGreatDoor.Pl

def left (n : Int) (dr : Bool) : Int := if dr = true then (if n = 60000 then 4 else 2) else 0
def cd (L wh sh ten f : Int) : Int := if wh ≤ f % ten then f + 9 * L * (f / ten) + L * ((f % ten - wh) / sh + 1) else f + 9 * L * (f / ten)
def clk (n : Int) (dr : Bool) (f : Int) : Int := if dr = true then (if n = 60000 then cd 4 3600 3596 35964 f else cd 2 1800 1798 17982 f) else f

def mark (dr : Bool) : UInt8 := if dr = true then 59 else 58
def ff (b x : Int) : List UInt8 := if 100 < b then three x.toNat else two x.toNat
/-- the text of the clock's number c at the base b -/
def txt (dr : Bool) (b c : Int) : List UInt8 :=
  two (c / b / 3600).toNat ++ 58 :: (two (c / b / 60 % 60).toNat ++ 58 :: (two (c / b % 60).toNat ++ mark dr :: ff b (c % b)))
def tt (n d : Int) (dr : Bool) (f : Int) : List UInt8 :=
  if rok n d dr = true ∧ isf f = true then (if 99 < clk n dr f / base n d dr / 3600 then [] else txt dr (base n d dr) (clk n dr f)) else []

theorem base_bd {n d : Int} {dr : Bool} (h : rok n d dr = true) : 1 ≤ base n d dr ∧ base n d dr ≤ 120 := by
  obtain ⟨h1, h2, h3, h4, h5⟩ := rok_bd h
  have e : base n d dr = (n + d - 1) / d := by simp [base, h]
  rw [e]
  constructor
  · have := (Int.le_ediv_iff_mul_le (a := 1) (b := n + d - 1) (show 0 < d by omega)).2 (by omega); exact this
  · have := (Int.ediv_lt_iff_lt_mul (a := n + d - 1) (b := 121) (show 0 < d by omega)).2 (by omega); omega
theorem base_zero {n d : Int} {dr : Bool} (h : rok n d dr = false) : base n d dr = 0 := by simp [base, h]
theorem rok_drop {n d : Int} (h : rok n d true = true) : d = 1001 ∧ (n = 30000 ∨ n = 60000) := by
  simp [rok] at h; omega
theorem base30 (h : rok 30000 1001 true = true) : base 30000 1001 true = 30 := by simp [base, h]
theorem base60 (h : rok 60000 1001 true = true) : base 60000 1001 true = 60 := by simp [base, h]
theorem qr_bd {f b : Int} (h0 : 0 ≤ f) (h1 : f ≤ 10000000) (hb : 1 ≤ b) : 0 ≤ f / b ∧ f / b ≤ 10000000 ∧ 0 ≤ f % b ∧ f % b < b := by
  refine ⟨Int.ediv_nonneg h0 (by omega), ?_, Int.emod_nonneg _ (by omega), Int.emod_lt_of_pos _ (by omega)⟩
  have := Int.ediv_le_self (a := f) b h0; omega
theorem part (b t r k : Int) (hb : 0 < b) (h0 : 0 ≤ r) (h1 : r < b) : (b * t + r) / (k * b) = t / k ∧ (b * t + r) % (k * b) = b * (t % k) + r := by
  have e1 : (b * t + r) / b = t := by
    rw [Int.add_comm, Int.add_mul_ediv_left r t (by omega), Int.ediv_eq_zero_of_lt h0 h1, Int.zero_add]
  have e2 : (b * t + r) / (k * b) = t / k := by
    rw [Int.mul_comm k b, ← Int.ediv_ediv_of_nonneg (by omega), e1]
  refine ⟨e2, ?_⟩
  rw [Int.emod_def, e2, Int.emod_def, Int.mul_sub, ← Int.mul_assoc b k, Int.mul_comm b k]
  omega
/-- fields by the greatest divisor first -/
theorem fields (c b : Int) (hb : 1 ≤ b) :
    c / (3600 * b) = c / b / 3600 ∧ c % (3600 * b) / (60 * b) = c / b / 60 % 60 ∧ c % (3600 * b) % (60 * b) / b = c / b % 60 ∧ c % (3600 * b) % (60 * b) % b = c % b := by
  have h0 : 0 ≤ c % b := Int.emod_nonneg _ (by omega)
  have h1 : c % b < b := Int.emod_lt_of_pos _ (by omega)
  have hc : b * (c / b) + c % b = c := Int.mul_ediv_add_emod c b
  generalize c / b = s at *
  generalize c % b = r at *
  subst hc
  obtain ⟨a1, a2⟩ := part b s r 3600 (by omega) h0 h1
  obtain ⟨a3, a4⟩ := part b (s % 3600) r 60 (by omega) h0 h1
  obtain ⟨a5, a6⟩ := part b (s % 3600 % 60) r 1 (by omega) h0 h1
  rw [Int.one_mul, Int.ediv_one] at a5
  rw [Int.one_mul, Int.emod_one, Int.mul_zero, Int.zero_add] at a6
  rw [a1, a2, a3, a4, a5, a6]
  refine ⟨rfl, by omega, by omega, rfl⟩

end Go.Proofs.YthjggjnkhhoigaaGreatDoor.Pl
