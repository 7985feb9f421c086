/-
  Plain facts on whole numbers for the chapter on time: the greatest common divisor, what a right rate is, its base. No program is named here; there are no conditions.
  Plain facts on decimal digits: the digits of a whole number from 0 on, and of one in at least so many digits. No program is named here; there are no conditions.
  Plain facts on the clock's numbers and on a time's text, as functions of whole numbers. No program is named here; there are no conditions.
  Plain facts on a cut as text: its lines, and when it has one. No program is named here; there are no conditions.
  Plain facts on reading a cut from its text: words, numbers. No program is named here; there are no conditions.
  Plain facts on reading a cut from its text: words as the library splits them; the word of a source. No program is named here; there are no conditions.
  Plain facts on the reading of a time's text: of the text of a clock's number comes that number, and of that the frame. No program is named here; there are no conditions.
  Plain facts on the model's reading of a time's text by places: of the text of a frame come its fields, and of these the frame. No program is named here; there are no conditions.
-/
import Derived.WalkKit
import Derived.Test.YtfhbmfndjbdhcaaGreatDoorEdP
import Derived.Lib.Strings
import Derived.Lib.Split
import Derived.Lib.SplitLaws
import Derived.Lib.IndexBytes
import Derived.Lib.ParseIntB
namespace Go.Proofs.YtfhbmfndjbdhcaaGreatDoor.Pl

def gc (a b : Int) : Int := ((Int.gcd a b : Nat) : Int)
theorem gc_zero {a : Int} (h : 0 ≤ a) : gc a 0 = a := by
  unfold gc; rw [Int.gcd_zero_right]; omega
theorem gc_step (a b : Int) : gc b (a % b) = gc a b := by
  have h : a % b + b * (a / b) = a := Int.emod_add_mul_ediv a b
  have e := Int.gcd_add_mul_left_right b (a % b) (a / b)
  rw [h] at e
  unfold gc; rw [Int.gcd_comm a b, e]

def rok (n d : Int) (dr : Bool) : Bool :=
  (decide (1 ≤ n) && decide (n ≤ 240000) && decide (1 ≤ d) && decide (d ≤ 1001) && (gc n d == 1) && decide (n ≤ 120 * d)) && (!dr || (d == 1001 && (n == 30000 || n == 60000)))

theorem rok_bd {n d : Int} {dr : Bool} (h : rok n d dr = true) : 1 ≤ n ∧ n ≤ 240000 ∧ 1 ≤ d ∧ d ≤ 1001 ∧ n ≤ 120 * d := by
  simp [rok] at h; omega

def base (n d : Int) (dr : Bool) : Int := if rok n d dr = true then (n + d - 1) / d else 0

def isf (f : Int) : Bool := decide (0 ≤ f) && decide (f ≤ 10000000)
theorem isf_bd {f : Int} (h : isf f = true) : 0 ≤ f ∧ f ≤ 10000000 := by simp [isf] at h; exact h
theorem isf_mk {f : Int} (h : 0 ≤ f ∧ f ≤ 10000000) : isf f = true := by simp [isf]; exact h
theorem isf_no {f : Int} (h : ¬ (0 ≤ f ∧ f ≤ 10000000)) : isf f = false := by simp [isf]; omega

def inst (n d : Int) (dr : Bool) (f u : Int) : Int :=
  if rok n d dr = true ∧ isf f = true ∧ 1 ≤ u ∧ u ≤ 1000000 then f * d * u / n else -1
def fin (n d : Int) (dr : Bool) (m e : Int) (ds : Bool) (f : Int) : Int :=
  if rok n d dr = true ∧ rok m e ds = true ∧ isf f = true then (if isf (f * d * m / (n * e)) = true then f * d * m / (n * e) else -1) else -1

theorem mul_bd {a b A B : Int} (h0 : 0 ≤ a) (h1 : a ≤ A) (h2 : 0 ≤ b) (h3 : b ≤ B) : 0 ≤ a * b ∧ a * b ≤ A * B :=
  ⟨Int.mul_nonneg h0 h2, Int.mul_le_mul h1 h3 h2 (by omega)⟩

end Go.Proofs.YtfhbmfndjbdhcaaGreatDoor.Pl

namespace Go.Proofs.YtfhbmfndjbdhcaaGreatDoor.Pl

def dg (n : Nat) : UInt8 := UInt8.ofNat (48 + n % 10)
theorem dg_toNat (n : Nat) : (dg n).toNat = 48 + n % 10 := by unfold dg; simp; omega

def decF : Nat → Nat → List UInt8
  | 0, _ => []
  | k + 1, n => if n < 10 then [dg n] else decF k (n / 10) ++ [dg n]
def dec (n : Nat) : List UInt8 := decF (n + 1) n
theorem decF_enough : ∀ (f g n : Nat), n < f → n < g → decF f n = decF g n := by
  intro f
  induction f with
  | zero => intro g n h; omega
  | succ f ih =>
    intro g n h1 h2
    cases g with
    | zero => omega
    | succ g =>
      unfold decF
      by_cases h : n < 10
      · rw [if_pos h, if_pos h]
      · rw [if_neg h, if_neg h, ih g (n / 10) (by omega) (by omega)]
theorem dec_small {n : Nat} (h : n < 10) : dec n = [dg n] := by unfold dec decF; rw [if_pos h]
theorem dec_step {n : Nat} (h : 10 ≤ n) : dec n = dec (n / 10) ++ [dg n] := by
  unfold dec
  rw [decF, if_neg (by omega), decF_enough n (n / 10 + 1) (n / 10) (by omega) (by omega)]
/-- the digits of what is left ahead of what is there; nothing of 0 -/
def decOn (x : Nat) (acc : List UInt8) : List UInt8 := if x = 0 then acc else dec x ++ acc
theorem decOn_step {x : Nat} (acc : List UInt8) (h : x ≠ 0) : decOn (x / 10) (dg x :: acc) = decOn x acc := by
  unfold decOn
  rw [if_neg h]
  by_cases h1 : x < 10
  · rw [if_pos (by omega), dec_small h1]; rfl
  · rw [if_neg (by omega), dec_step (n := x) (by omega)]; simp
theorem decOn_first (n : Nat) : decOn (n / 10) [dg n] = dec n := by
  by_cases h : n = 0
  · subst h; rfl
  · rw [decOn_step [] h, decOn, if_neg h, List.append_nil]
theorem dec_length_lt : ∀ (k n : Nat), n < 10 ^ (k + 1) → (dec n).length ≤ k + 1 := by
  intro k
  induction k with
  | zero => intro n h; rw [dec_small (by simpa using h)]; simp
  | succ k ih =>
    intro n h
    by_cases h1 : n < 10
    · rw [dec_small h1]; simp
    · rw [dec_step (by omega)]
      have := ih (n / 10) (by rw [Nat.pow_succ] at h; omega)
      simp; omega
theorem dec_ne (n : Nat) : dec n ≠ [] := by
  by_cases h : n < 10
  · rw [dec_small h]; simp
  · rw [dec_step (by omega)]; simp

/-- in at least k digits -/
def wide (k n : Nat) : List UInt8 := List.replicate (k - (dec n).length) 48 ++ dec n
def two (n : Nat) : List UInt8 := [dg (n / 10), dg n]
def three (n : Nat) : List UInt8 := [dg (n / 100), dg (n / 10), dg n]
theorem dec_two {n : Nat} (h : 10 ≤ n) (h2 : n < 100) : dec n = [dg (n / 10), dg n] := by rw [dec_step h, dec_small (by omega)]; rfl
theorem dec_three {n : Nat} (h : 100 ≤ n) (h2 : n < 1000) : dec n = [dg (n / 100), dg (n / 10), dg n] := by
  rw [dec_step (by omega), dec_two (by omega) (by omega), show n / 10 / 10 = n / 100 by omega]; rfl
theorem dg_zero {n : Nat} (h : n % 10 = 0) : dg n = 48 := by unfold dg; rw [h]; rfl
theorem wide_two {n : Nat} (h : n < 100) : wide 2 n = two n := by
  unfold wide two
  by_cases h1 : n < 10
  · rw [dec_small h1, dg_zero (n := n / 10) (by omega)]; rfl
  · rw [dec_two (by omega) h]; rfl
theorem wide_three {n : Nat} (h : n < 1000) : wide 3 n = three n := by
  unfold wide three
  by_cases h1 : n < 10
  · rw [dec_small h1, dg_zero (n := n / 10) (by omega), dg_zero (n := n / 100) (by omega)]; rfl
  by_cases h2 : n < 100
  · rw [dec_two (by omega) h2, dg_zero (n := n / 100) (by omega)]; rfl
  · rw [dec_three (by omega) h]; rfl

end Go.Proofs.YtfhbmfndjbdhcaaGreatDoor.Pl

namespace Go.Proofs.YtfhbmfndjbdhcaaGreatDoor.Pl

def left (n : Int) (dr : Bool) : Int := if dr = true then (if n = 60000 then 4 else 2) else 0
def cd (L wh sh ten f : Int) : Int := if wh ≤ f % ten then f + 9 * L * (f / ten) + L * ((f % ten - wh) / sh + 1) else f + 9 * L * (f / ten)
def clk (n : Int) (dr : Bool) (f : Int) : Int := if dr = true then (if n = 60000 then cd 4 3600 3596 35964 f else cd 2 1800 1798 17982 f) else f

def mark (dr : Bool) : UInt8 := if dr = true then 59 else 58
def ff (b x : Int) : List UInt8 := if 100 < b then three x.toNat else two x.toNat
/-- the text of the clock's number c at the base b -/
def txt (dr : Bool) (b c : Int) : List UInt8 :=
  two (c / b / 3600).toNat ++ 58 :: (two (c / b / 60 % 60).toNat ++ 58 :: (two (c / b % 60).toNat ++ mark dr :: ff b (c % b)))
def tt (n d : Int) (dr : Bool) (f : Int) : List UInt8 :=
  if rok n d dr = true ∧ isf f = true then (if 99 < clk n dr f / base n d dr / 3600 then [] else txt dr (base n d dr) (clk n dr f)) else []

theorem base_bd {n d : Int} {dr : Bool} (h : rok n d dr = true) : 1 ≤ base n d dr ∧ base n d dr ≤ 120 := by
  obtain ⟨h1, h2, h3, h4, h5⟩ := rok_bd h
  have e : base n d dr = (n + d - 1) / d := by simp [base, h]
  rw [e]
  constructor
  · have := (Int.le_ediv_iff_mul_le (a := 1) (b := n + d - 1) (show 0 < d by omega)).2 (by omega); exact this
  · have := (Int.ediv_lt_iff_lt_mul (a := n + d - 1) (b := 121) (show 0 < d by omega)).2 (by omega); omega
theorem base_zero {n d : Int} {dr : Bool} (h : rok n d dr = false) : base n d dr = 0 := by simp [base, h]
theorem rok_drop {n d : Int} (h : rok n d true = true) : d = 1001 ∧ (n = 30000 ∨ n = 60000) := by
  simp [rok] at h; omega
theorem base30 (h : rok 30000 1001 true = true) : base 30000 1001 true = 30 := by simp [base, h]
theorem base60 (h : rok 60000 1001 true = true) : base 60000 1001 true = 60 := by simp [base, h]
theorem qr_bd {f b : Int} (h0 : 0 ≤ f) (h1 : f ≤ 10000000) (hb : 1 ≤ b) : 0 ≤ f / b ∧ f / b ≤ 10000000 ∧ 0 ≤ f % b ∧ f % b < b := by
  refine ⟨Int.ediv_nonneg h0 (by omega), ?_, Int.emod_nonneg _ (by omega), Int.emod_lt_of_pos _ (by omega)⟩
  have := Int.ediv_le_self (a := f) b h0; omega
theorem part (b t r k : Int) (hb : 0 < b) (h0 : 0 ≤ r) (h1 : r < b) : (b * t + r) / (k * b) = t / k ∧ (b * t + r) % (k * b) = b * (t % k) + r := by
  have e1 : (b * t + r) / b = t := by
    rw [Int.add_comm, Int.add_mul_ediv_left r t (by omega), Int.ediv_eq_zero_of_lt h0 h1, Int.zero_add]
  have e2 : (b * t + r) / (k * b) = t / k := by
    rw [Int.mul_comm k b, ← Int.ediv_ediv_of_nonneg (by omega), e1]
  refine ⟨e2, ?_⟩
  rw [Int.emod_def, e2, Int.emod_def, Int.mul_sub, ← Int.mul_assoc b k, Int.mul_comm b k]
  omega
/-- fields by the greatest divisor first -/
theorem fields (c b : Int) (hb : 1 ≤ b) :
    c / (3600 * b) = c / b / 3600 ∧ c % (3600 * b) / (60 * b) = c / b / 60 % 60 ∧ c % (3600 * b) % (60 * b) / b = c / b % 60 ∧ c % (3600 * b) % (60 * b) % b = c % b := by
  have h0 : 0 ≤ c % b := Int.emod_nonneg _ (by omega)
  have h1 : c % b < b := Int.emod_lt_of_pos _ (by omega)
  have hc : b * (c / b) + c % b = c := Int.mul_ediv_add_emod c b
  generalize c / b = s at *
  generalize c % b = r at *
  subst hc
  obtain ⟨a1, a2⟩ := part b s r 3600 (by omega) h0 h1
  obtain ⟨a3, a4⟩ := part b (s % 3600) r 60 (by omega) h0 h1
  obtain ⟨a5, a6⟩ := part b (s % 3600 % 60) r 1 (by omega) h0 h1
  rw [Int.one_mul, Int.ediv_one] at a5
  rw [Int.one_mul, Int.emod_one, Int.mul_zero, Int.zero_add] at a6
  rw [a1, a2, a3, a4, a5, a6]
  refine ⟨rfl, by omega, by omega, rfl⟩

end Go.Proofs.YtfhbmfndjbdhcaaGreatDoor.Pl

namespace Go.Proofs.YtfhbmfndjbdhcaaGreatDoor
open Go.RowKit
set_option linter.unusedVariables false
set_option linter.unusedSimpArgs false

def kAt (l : List Kl) (k : Nat) : Kl := l.getD k (0, 0, 0)
theorem kAt_get {l : List Kl} {k : Nat} (h : k < l.length) : l[k]? = some (kAt l k) := by
  unfold kAt; rw [List.getD_eq_getElem?_getD, List.getElem?_eq_getElem h]; rfl
theorem kAt_eq {l : List Kl} {k : Nat} {c : Kl} (h : l[k]? = some c) : kAt l k = c := by unfold kAt; simp [List.getD, h]

/-- the word of the line i's number -/
def numW (i : Nat) : List UInt8 := Pl.three (i + 1)
/-- the word of a source -/
def srcW (s : Int) : List UInt8 := if s = 0 then [66, 76] else 82 :: Pl.dec s.toNat
/-- all four times of a clip have a text -/
def tOk (n d : Int) (dr : Bool) (at0 : Int) (c : Kl) : Bool := !((Pl.tt n d dr c.2.1).isEmpty || (Pl.tt n d dr (c.2.1 + c.2.2)).isEmpty || (Pl.tt n d dr at0).isEmpty || (Pl.tt n d dr (at0 + c.2.2)).isEmpty)
def lineL (n d : Int) (dr : Bool) (i : Nat) (at0 : Int) (c : Kl) : List UInt8 :=
  numW i ++ [32] ++ srcW c.1 ++ [32, 67, 32] ++ Pl.tt n d dr c.2.1 ++ [32] ++ Pl.tt n d dr (c.2.1 + c.2.2) ++ [32] ++ Pl.tt n d dr at0 ++ [32] ++ Pl.tt n d dr (at0 + c.2.2) ++ [10]
def linesL (n d : Int) (dr : Bool) (l : List Kl) : Nat → List UInt8
  | 0 => []
  | k + 1 => linesL n d dr l k ++ lineL n d dr k (clen (l.take k)) (kAt l k)
def allOk (n d : Int) (dr : Bool) (l : List Kl) (k : Nat) : Prop := ∀ i, i < k → tOk n d dr (clen (l.take i)) (kAt l i) = true
instance (n d : Int) (dr : Bool) (l : List Kl) (k : Nat) : Decidable (allOk n d dr l k) := Nat.decidableBallLT k _
theorem allOk_zero (n d : Int) (dr : Bool) (l : List Kl) : allOk n d dr l 0 := fun i h => by omega
theorem allOk_succ {n d : Int} {dr : Bool} {l : List Kl} {k : Nat} (h : allOk n d dr l k) (h1 : tOk n d dr (clen (l.take k)) (kAt l k) = true) : allOk n d dr l (k + 1) := fun i hi => by
  rcases Nat.lt_or_ge i k with h2 | h2
  · exact h i h2
  · have : i = k := by omega
    subst this; exact h1
/-- the lines of a list of clips, where all times have texts -/
def listOf (n d : Int) (dr : Bool) (l : List Kl) : List UInt8 := if allOk n d dr l l.length then linesL n d dr l l.length else []
theorem listOf_yes {n d : Int} {dr : Bool} {l : List Kl} (h : allOk n d dr l l.length) : listOf n d dr l = linesL n d dr l l.length := if_pos h
theorem listOf_no {n d : Int} {dr : Bool} {l : List Kl} {k : Nat} (hk : k < l.length) (h : tOk n d dr (clen (l.take k)) (kAt l k) = false) : listOf n d dr l = [] :=
  if_neg (fun h' => by have := h' k hk; rw [h] at this; cases this)
theorem tOk_rate {n d : Int} {dr : Bool} {a : Int} {c : Kl} (h : Pl.rok n d dr = false) : tOk n d dr a c = false := by
  simp [tOk, Pl.tt, h]
/-- what ShowList gives -/
def showOf (n d : Int) (dr : Bool) (l : List Kl) : List UInt8 := if TOk l then listOf n d dr (join l) else []
theorem listOf_rate {n d : Int} {dr : Bool} {l : List Kl} (h : Pl.rok n d dr = false) : listOf n d dr l = [] := by
  cases l with
  | nil => unfold listOf; split <;> rfl
  | cons c l => exact listOf_no (k := 0) (by simp) (tOk_rate h)
theorem showOf_rate {n d : Int} {dr : Bool} {l : List Kl} (h : Pl.rok n d dr = false) : showOf n d dr l = [] := by
  unfold showOf; split
  · exact listOf_rate h
  · rfl
theorem showOf_no {n d : Int} {dr : Bool} {l : List Kl} (h : ¬ TOk l) : showOf n d dr l = [] := if_neg h
theorem showOf_yes {n d : Int} {dr : Bool} {l : List Kl} (h : TOk l) : showOf n d dr l = listOf n d dr (join l) := if_pos h

theorem tt_len (n d : Int) (dr : Bool) (f : Int) : (Pl.tt n d dr f).length ≤ 12 := by
  unfold Pl.tt
  split
  · split
    · simp
    · simp only [Pl.txt, Pl.ff, Pl.two, Pl.three, List.length_append, List.length_cons, List.length_nil]
      split <;> simp
  · simp
theorem srcW_len {s : Int} (h : s ≤ 500) : (srcW s).length ≤ 4 := by
  unfold srcW
  split
  · simp
  · have := Pl.dec_length_lt 2 s.toNat (by omega)
    simp; omega
theorem lineL_len {n d : Int} {dr : Bool} {i : Nat} {at0 : Int} {c : Kl} (h : c.1 ≤ 500) : (lineL n d dr i at0 c).length ≤ 64 := by
  have h1 := tt_len n d dr c.2.1
  have h2 := tt_len n d dr (c.2.1 + c.2.2)
  have h3 := tt_len n d dr at0
  have h4 := tt_len n d dr (at0 + c.2.2)
  have h5 := srcW_len h
  unfold lineL
  simp only [List.length_append, List.length_cons, List.length_nil, numW, Pl.three]
  omega
theorem linesL_len {n d : Int} {dr : Bool} {l : List Kl} (h : AOk l) : ∀ k, k ≤ l.length → (linesL n d dr l k).length ≤ 64 * k := by
  intro k
  induction k with
  | zero => intro _; simp [linesL]
  | succ k ih =>
    intro hk
    have h1 := ih (by omega)
    have hm : kAt l k ∈ l := List.mem_of_getElem? (kAt_get (by omega))
    have h2 := lineL_len (n := n) (d := d) (dr := dr) (i := k) (at0 := clen (l.take k)) (c := kAt l k) (by have := (h (kAt l k) hm).2.2.2.2; omega)
    simp only [linesL, List.length_append]
    omega

end Go.Proofs.YtfhbmfndjbdhcaaGreatDoor

namespace Go.Proofs.YtfhbmfndjbdhcaaGreatDoor
open Go.RowKit
set_option linter.unusedVariables false
set_option linter.unusedSimpArgs false

/-- a byte more: the words that are done, and the one under way -/
def stepW (st : List (List UInt8) × List UInt8) (c : UInt8) : List (List UInt8) × List UInt8 := if c = 32 then (st.1 ++ [st.2], []) else (st.1, st.2 ++ [c])
def stW (l : List UInt8) : List (List UInt8) × List UInt8 := l.foldl stepW ([], [])
/-- the words of a line: what lies between blanks -/
def wordsL (l : List UInt8) : List (List UInt8) := (stW l).1 ++ [(stW l).2]
theorem stW_snoc (l : List UInt8) (c : UInt8) : stW (l ++ [c]) = stepW (stW l) c := by unfold stW; rw [List.foldl_append]; rfl
theorem foldW_len (l : List UInt8) : ∀ st, (l.foldl stepW st).1.length ≤ st.1.length + l.length := by
  induction l with
  | nil => intro st; simp
  | cons c l ih =>
    intro st
    have h := ih (stepW st c)
    have h2 : (stepW st c).1.length ≤ st.1.length + 1 := by unfold stepW; split <;> simp
    simp only [List.foldl_cons, List.length_cons]
    omega
theorem stW_len (l : List UInt8) : (stW l).1.length ≤ l.length := by have := foldW_len l ([], []); simpa [stW] using this
theorem stW_one {l : List UInt8} {k : Nat} {c : UInt8} (h : l[k]? = some c) : stW (l.take (k + 1)) = stepW (stW (l.take k)) c := by
  rw [List.take_add_one, h]
  exact stW_snoc _ _
/-- the words that are done at the place k of the loop -/
def outW (l : List UInt8) (k : Nat) : List (List UInt8) := if k ≤ l.length then (stW (l.take k)).1 else wordsL l
theorem outW_len (l : List UInt8) (k : Nat) : (outW l k).length ≤ l.length + 1 := by
  unfold outW
  split
  · have := stW_len (l.take k); simp at this; omega
  · unfold wordsL; have := stW_len l; simp; omega
theorem drop_snoc {l : List UInt8} {f k : Nat} {c : UInt8} (h : l[k]? = some c) (hf : f ≤ k) : (l.take (k + 1)).drop f = (l.take k).drop f ++ [c] := by
  have hk : k < l.length := (List.getElem?_eq_some_iff.1 h).1
  rw [List.take_add_one, h, List.drop_append_of_le_length (by simp; omega)]
  rfl
theorem outW_at {l : List UInt8} {k : Nat} (h : k ≤ l.length) : outW l k = (stW (l.take k)).1 := if_pos h
theorem outW_end (l : List UInt8) : outW l (l.length + 1) = wordsL l := if_neg (by omega)

end Go.Proofs.YtfhbmfndjbdhcaaGreatDoor

namespace Go.Proofs.YtfhbmfndjbdhcaaGreatDoor
open Go.RowKit
set_option linter.unusedVariables false
set_option linter.unusedSimpArgs false

/-- what a word under way adds to the words behind it -/
def glue (c : List UInt8) : List (List UInt8) → List (List UInt8)
  | [] => [c]
  | h :: t => (c ++ h) :: t
theorem fold_words (l : List UInt8) : ∀ o c, (l.foldl stepW (o, c)).1 ++ [(l.foldl stepW (o, c)).2] = o ++ glue c (wordsL l) := by
  induction l with
  | nil => intro o c; simp [wordsL, stW, glue]
  | cons b l ih =>
    intro o c
    rw [List.foldl_cons]
    by_cases h : b = 32
    · have e : stepW (o, c) b = (o ++ [c], []) := if_pos h
      have e2 : wordsL (b :: l) = [] :: wordsL l := by
        have := ih [[]] []
        unfold wordsL stW
        rw [List.foldl_cons, show stepW ([], []) b = ([[]], []) from if_pos h, this]
        cases hw : wordsL l with
        | nil => unfold wordsL at hw; simp at hw
        | cons x y => simp [glue]; exact hw.symm
      rw [e, ih, e2]
      cases hw : wordsL l with
      | nil => unfold wordsL at hw; simp at hw
      | cons x y => simp [glue]
    · have e : stepW (o, c) b = (o, c ++ [b]) := if_neg h
      have e2 : wordsL (b :: l) = glue [b] (wordsL l) := by
        have := ih [] [b]
        unfold wordsL stW
        rw [List.foldl_cons, show stepW ([], []) b = ([], [b]) from if_neg h, this]
        rfl
      rw [e, ih, e2]
      cases hw : wordsL l with
      | nil => simp [glue]
      | cons x y => simp [glue]
theorem wordsL_ne (l : List UInt8) : ∃ x y, wordsL l = x :: y := by
  cases hw : wordsL l with
  | nil => unfold wordsL at hw; simp at hw
  | cons x y => exact ⟨x, y, rfl⟩
theorem wordsL_blank (l : List UInt8) : wordsL (32 :: l) = [] :: wordsL l := by
  have := fold_words l [[]] []
  unfold wordsL stW
  rw [List.foldl_cons, show stepW ([], []) 32 = ([[]], []) from rfl, this]
  obtain ⟨x, y, h⟩ := wordsL_ne l
  rw [h]
  simp [glue]
  exact h.symm
theorem wordsL_char {b : UInt8} (hb : b ≠ 32) (l : List UInt8) : wordsL (b :: l) = glue [b] (wordsL l) := by
  have := fold_words l [] [b]
  have e : wordsL (b :: l) = (l.foldl stepW ([], [b])).1 ++ [(l.foldl stepW ([], [b])).2] := by
    unfold wordsL stW
    rw [List.foldl_cons, show stepW ([], []) b = ([], [b]) from if_neg hb]
  rw [e, this]; simp
/-- the library's split at a blank gives the words -/
theorem split_words : ∀ (l : List UInt8) (k : Nat), l.count 32 ≤ k → Lib.splitK [32] 0 k l = wordsL l := by
  intro l
  induction l with
  | nil =>
    intro k _
    cases k with
    | zero => rfl
    | succ k => simp [Lib.splitK, Lib.index, wordsL, stW]
  | cons b l ih =>
    intro k hk
    by_cases h : b = 32
    · subst h
      rw [wordsL_blank]
      cases k with
      | zero => simp at hk
      | succ k =>
        have h1 : l.count 32 ≤ k := by simp at hk; omega
        rw [← ih k h1]
        simp [Lib.splitK, Lib.index_one, Lib.indexByte]
    · rw [wordsL_char h]
      have h1 : l.count 32 ≤ k := by rw [List.count_cons_of_ne (by simpa using h)] at hk; exact hk
      have h2 := ih k h1
      rw [← h2]
      cases k with
      | zero => rfl
      | succ k =>
        unfold Lib.splitK
        rw [Lib.index_one, Lib.index_one]
        have hb : (b == 32) = false := by simpa using h
        have e : Lib.indexByte (b :: l) 32 = if Lib.indexByte l 32 == -1 then -1 else Lib.indexByte l 32 + 1 := by
          rw [Lib.indexByte, hb]; rfl
        rw [e]
        by_cases hm : Lib.indexByte l 32 = -1
        · rw [hm]; rfl
        · have hge := Lib.indexByte_ge l 32
          obtain ⟨i, hi⟩ := Int.eq_ofNat_of_zero_le (show 0 ≤ Lib.indexByte l 32 by omega)
          rw [hi]
          have n1 : ((i : Int) == -1) = false := by rw [beq_eq_false_iff_ne]; omega
          have n2 : ((i : Int) + 1 == -1) = false := by rw [beq_eq_false_iff_ne]; omega
          have t1 : ((i : Int) + 1).toNat = i + 1 := by omega
          simp [n1, n2, t1, glue]

/-- the word of a source, and the source -/
def SrcR (l : List UInt8) (x : Int) (ok : Bool) : Prop := (ok = true ∧ 0 ≤ x ∧ x ≤ 500 ∧ l = srcW x) ∨ (ok = false ∧ x = 0 ∧ ∀ y : Int, 0 ≤ y → y ≤ 500 → l ≠ srcW y)
theorem parse_dec : ∀ y : Nat, y < 501 → Lib.parseIntB 64 (Pl.dec y) = .ok (y : Int) := by decide +kernel
theorem srcW_inj {x y : Int} (hx : 0 ≤ x) (hx5 : x ≤ 500) (hy : 0 ≤ y) (hy5 : y ≤ 500) (h : srcW x = srcW y) : x = y := by
  unfold srcW at h
  split at h <;> split at h
  · omega
  · simp at h
  · simp at h
  · injection h with _ h
    have h1 := parse_dec x.toNat (by omega)
    have h2 := parse_dec y.toNat (by omega)
    rw [h] at h1
    rw [h1] at h2
    injection h2 with h2
    omega
theorem SrcR.one {l : List UInt8} {x y : Int} {a b : Bool} (h : SrcR l x a) (k : SrcR l y b) : x = y ∧ a = b := by
  rcases h with ⟨rfl, h0, h5, h⟩ | ⟨rfl, rfl, h⟩ <;> rcases k with ⟨rfl, k0, k5, k⟩ | ⟨rfl, rfl, k⟩
  · exact ⟨srcW_inj h0 h5 k0 k5 (h.symm.trans k), rfl⟩
  · exact absurd h (k x h0 h5)
  · exact absurd k (h y k0 k5)
  · exact ⟨rfl, rfl⟩

end Go.Proofs.YtfhbmfndjbdhcaaGreatDoor

namespace Go.Proofs.YtfhbmfndjbdhcaaGreatDoor.Pl

def dv (b : Int) : Nat → Int
  | 0 => 3600 * b
  | 1 => 60 * b
  | 2 => b
  | _ => 1
def fmk (dr : Bool) (i : Nat) : UInt8 := if dr = true ∧ i = 3 then 59 else 58
/-- what a byte does to the field, to the number so far and to the part -/
def rs (dr : Bool) (b : Int) (st : Nat × Int × Int) (c : UInt8) : Option (Nat × Int × Int) :=
  if 48 ≤ c.toNat ∧ c.toNat ≤ 57 then some (st.1, st.2.1, 10 * st.2.2 + ((c.toNat : Int) - 48))
  else if st.1 < 3 ∧ c = fmk dr (st.1 + 1) then some (st.1 + 1, st.2.1 + st.2.2 * dv b st.1, 0)
  else none
def rf (dr : Bool) (b : Int) : List UInt8 → Nat × Int × Int → Option Int
  | [], st => some (st.2.1 + st.2.2 * dv b st.1)
  | c :: l, st => match rs dr b st c with
    | none => none
    | some st' => rf dr b l st'
theorem rf_dg (dr : Bool) (b : Int) (n : Nat) (l : List UInt8) (f : Nat) (x p : Int) : rf dr b (dg n :: l) (f, x, p) = rf dr b l (f, x, 10 * p + ((n % 10 : Nat) : Int)) := by
  have h := dg_toNat n
  have e : rs dr b (f, x, p) (dg n) = some (f, x, 10 * p + ((n % 10 : Nat) : Int)) := by
    unfold rs
    rw [if_pos (by omega)]
    simp only [h]
    congr 3
    omega
  simp only [rf, e]
theorem rf_mk (dr : Bool) (b : Int) (l : List UInt8) (f : Nat) (hf : f < 3) (x p : Int) : rf dr b (fmk dr (f + 1) :: l) (f, x, p) = rf dr b l (f + 1, x + p * dv b f, 0) := by
  have e : rs dr b (f, x, p) (fmk dr (f + 1)) = some (f + 1, x + p * dv b f, 0) := by
    unfold rs
    rw [if_neg (by unfold fmk; split <;> simp), if_pos ⟨hf, rfl⟩]
  simp only [rf, e]
theorem rf_two (dr : Bool) (b : Int) (n : Nat) (hn : n < 100) (l : List UInt8) (f : Nat) (x : Int) : rf dr b (two n ++ l) (f, x, 0) = rf dr b l (f, x, (n : Int)) := by
  show rf dr b (dg (n / 10) :: dg n :: l) (f, x, 0) = _
  rw [rf_dg, rf_dg]
  congr 3
  omega
theorem rf_three (dr : Bool) (b : Int) (n : Nat) (hn : n < 1000) (l : List UInt8) (f : Nat) (x : Int) : rf dr b (three n ++ l) (f, x, 0) = rf dr b l (f, x, (n : Int)) := by
  show rf dr b (dg (n / 100) :: dg (n / 10) :: dg n :: l) (f, x, 0) = _
  rw [rf_dg, rf_dg, rf_dg]
  congr 3
  omega
theorem rf_txt (dr : Bool) (b c : Int) (h0 : 0 ≤ c) (hb : 1 ≤ b) (hb2 : b ≤ 120) (hh : ¬ 99 < c / b / 3600) : rf dr b (txt dr b c) (0, 0, 0) = some c := by
  have hc : b * (c / b) + c % b = c := Int.mul_ediv_add_emod c b
  have q0 : 0 ≤ c / b := Int.ediv_nonneg h0 (by omega)
  have r0 : 0 ≤ c % b := Int.emod_nonneg _ (by omega)
  have r1 : c % b < b := Int.emod_lt_of_pos _ (by omega)
  unfold txt
  generalize c / b = s at *
  generalize c % b = r at *
  have m1 : (58 : UInt8) = fmk dr (0 + 1) := by simp [fmk]
  have m2 : (58 : UInt8) = fmk dr (1 + 1) := by simp [fmk]
  have m3 : mark dr = fmk dr (2 + 1) := by simp [fmk, mark]
  rw [rf_two _ _ _ (by omega)]
  rw [m1, rf_mk _ _ _ _ (by omega), ← m1, rf_two _ _ _ (by omega)]
  rw [m2, rf_mk _ _ _ _ (by omega), rf_two _ _ _ (by omega)]
  rw [m3, rf_mk _ _ _ _ (by omega)]
  have e : ∀ X : Int, rf dr b (ff b r) (2 + 1, X, 0) = some (X + r) := by
    intro X
    unfold ff
    by_cases h : 100 < b
    · rw [if_pos h, ← List.append_nil (three _), rf_three _ _ _ (by omega)]; simp [rf, dv]; omega
    · rw [if_neg h, ← List.append_nil (two _), rf_two _ _ _ (by omega)]; simp [rf, dv]; omega
  rw [e]
  congr 1
  simp only [dv]
  have t1 : ((s / 3600).toNat : Int) = s / 3600 := by omega
  have t2 : ((s / 60 % 60).toNat : Int) = s / 60 % 60 := by omega
  have t3 : ((s % 60).toNat : Int) = s % 60 := by omega
  rw [t1, t2, t3]
  have u : s / 3600 * (3600 * b) + s / 60 % 60 * (60 * b) + s % 60 * b = b * s := by
    rw [← Int.mul_assoc, ← Int.mul_assoc, ← Int.add_mul, ← Int.add_mul, Int.mul_comm b s]
    congr 1
    omega
  omega

def cf (n : Int) (dr : Bool) (b x : Int) : Int := x - left n dr * (x / (60 * b) - x / (60 * b) / 10)
theorem cf_no (n b x : Int) : cf n false b x = x := by simp [cf, left]
theorem cf_clk {n d : Int} {dr : Bool} {f : Int} (hr : rok n d dr = true) (hf : isf f = true) : cf n dr (base n d dr) (clk n dr f) = f := by
  obtain ⟨f1, f2⟩ := isf_bd hf
  cases dr
  · rw [cf_no]; simp [clk]
  · obtain ⟨rfl, rfl | rfl⟩ := rok_drop hr
    · rw [base30 hr]; simp [cf, left, clk, cd]; split <;> omega
    · rw [base60 hr]; simp [cf, left, clk, cd]; split <;> omega

/-- a text that is not empty is read: its clock's number, and of that the frame -/
theorem tt_some {n d : Int} {dr : Bool} {f : Int} (h : tt n d dr f ≠ []) : rok n d dr = true ∧ isf f = true ∧ ¬ 99 < clk n dr f / base n d dr / 3600 ∧ tt n d dr f = txt dr (base n d dr) (clk n dr f) := by
  unfold tt at h ⊢
  by_cases h1 : rok n d dr = true ∧ isf f = true
  · rw [if_pos h1] at h ⊢
    by_cases h2 : 99 < clk n dr f / base n d dr / 3600
    · rw [if_pos h2] at h; exact absurd rfl h
    · rw [if_neg h2]; exact ⟨h1.1, h1.2, h2, rfl⟩
  · rw [if_neg h1] at h; exact absurd rfl h
theorem clk_bd {n : Int} {dr : Bool} {f : Int} (h0 : 0 ≤ f) (h1 : f ≤ 10000000) : 0 ≤ clk n dr f ∧ clk n dr f ≤ 20000000 := by
  unfold clk cd; split <;> (try split) <;> (try split) <;> omega
theorem tt_read {n d : Int} {dr : Bool} {f : Int} {t : List UInt8} (h : tt n d dr f = t) (ht : t ≠ []) :
    rf dr (base n d dr) t (0, 0, 0) = some (clk n dr f) ∧ cf n dr (base n d dr) (clk n dr f) = f := by
  subst h
  obtain ⟨h1, h2, h3, h4⟩ := tt_some ht
  obtain ⟨b1, b2⟩ := base_bd h1
  obtain ⟨f1, f2⟩ := isf_bd h2
  rw [h4]
  exact ⟨rf_txt dr _ _ (clk_bd f1 f2).1 b1 b2 h3, cf_clk h1 h2⟩

/-- what TimeRead answers of a text -/
def RD (n d : Int) (dr : Bool) (t : List UInt8) (x : Int) (ok : Bool) : Prop :=
  (ok = true ∧ t ≠ [] ∧ tt n d dr x = t) ∨ (ok = false ∧ x = 0 ∧ ∀ f, tt n d dr f = t → t = [])
theorem RD_one {n d : Int} {dr : Bool} {t : List UInt8} {x y : Int} {a b : Bool} (h : RD n d dr t x a) (k : RD n d dr t y b) : x = y ∧ a = b := by
  rcases h with ⟨h1, h2, h3⟩ | ⟨h1, h2, h3⟩ <;> rcases k with ⟨k1, k2, k3⟩ | ⟨k1, k2, k3⟩
  · obtain ⟨a1, a2⟩ := tt_read h3 h2
    obtain ⟨c1, c2⟩ := tt_read k3 k2
    rw [a1] at c1
    have e : clk n dr x = clk n dr y := Option.some.inj c1
    rw [e, c2] at a2
    exact ⟨a2.symm, by rw [h1, k1]⟩
  · exact absurd (k3 x h3) h2
  · exact absurd (h3 y k3) k2
  · exact ⟨by rw [h2, k2], by rw [h1, k1]⟩
theorem tt_length {n d : Int} {dr : Bool} {f : Int} (h : tt n d dr f ≠ []) : (tt n d dr f).length = if 100 < base n d dr then 12 else 11 := by
  obtain ⟨h1, h2, h3, h4⟩ := tt_some h
  rw [h4]
  unfold txt ff
  split <;> simp [two, three]

end Go.Proofs.YtfhbmfndjbdhcaaGreatDoor.Pl

namespace Go.Proofs.YtfhbmfndjbdhcaaGreatDoor.Pl

/-- the number of n digits from a place on -/
def av (t : List UInt8) (lo : Nat) : Nat → Int
  | 0 => 0
  | n + 1 => av t lo n * 10 + (((t.getD (lo + n) 0).toNat : Int) - 48)
def dgt (t : List UInt8) (p : Nat) : Prop := 48 ≤ (t.getD p 0).toNat ∧ (t.getD p 0).toNat ≤ 57
theorem av_bd (t : List UInt8) (lo n : Nat) (hn : n ≤ 3) (h : ∀ m, m < n → dgt t (lo + m)) : 0 ≤ av t lo n ∧ av t lo n ≤ 999 ∧ (n ≤ 2 → av t lo n ≤ 99) := by
  obtain rfl | rfl | rfl | rfl : n = 0 ∨ n = 1 ∨ n = 2 ∨ n = 3 := by omega
  · simp [av]
  · have h0 := h 0 (by omega)
    unfold dgt at h0
    simp only [av]; omega
  · have h0 := h 0 (by omega)
    have h1 := h 1 (by omega)
    unfold dgt at h0 h1
    simp only [av]; omega
  · have h0 := h 0 (by omega)
    have h1 := h 1 (by omega)
    have h2 := h 2 (by omega)
    unfold dgt at h0 h1 h2
    simp only [av]; omega
def nd (len i : Nat) : Nat := if i = 3 then len - 9 else 2
def sF (dr : Bool) (b l0 l1 l2 l3 : Int) : Int :=
  if dr = true then ((l0 * 60 + l1) * 60 + l2) * b + l3 - b / 15 * ((l0 * 60 + l1) - (l0 * 60 + l1) / 10) else ((l0 * 60 + l1) * 60 + l2) * b + l3

theorem sF_clk {n d : Int} {dr : Bool} {f : Int} (hr : rok n d dr = true) (hf : isf f = true) :
    sF dr (base n d dr) (clk n dr f / base n d dr / 3600) (clk n dr f / base n d dr / 60 % 60) (clk n dr f / base n d dr % 60) (clk n dr f % base n d dr) = f := by
  obtain ⟨b1, b2⟩ := base_bd hr
  have hcf := cf_clk hr hf
  have hc : base n d dr * (clk n dr f / base n d dr) + clk n dr f % base n d dr = clk n dr f := Int.mul_ediv_add_emod _ _
  have e : ∀ s : Int, (s / 3600 * 60 + s / 60 % 60) * 60 + s % 60 = s := by intro s; omega
  have hN : ((clk n dr f / base n d dr / 3600 * 60 + clk n dr f / base n d dr / 60 % 60) * 60 + clk n dr f / base n d dr % 60) * base n d dr + clk n dr f % base n d dr = clk n dr f := by
    rw [e, Int.mul_comm]; exact hc
  unfold sF
  rw [hN]
  cases dr
  · rw [if_neg (by simp)]; simp [clk]
  · rw [if_pos rfl]
    obtain ⟨rfl, rfl | rfl⟩ := rok_drop hr
    · rw [base30 hr] at hcf ⊢
      simp [cf, left] at hcf
      generalize clk 30000 true f = c at *
      omega
    · rw [base60 hr] at hcf ⊢
      simp [cf, left] at hcf
      generalize clk 60000 true f = c at *
      omega
theorem dg_dgt (n : Nat) : 48 ≤ (dg n).toNat ∧ (dg n).toNat ≤ 57 := by rw [dg_toNat]; omega
theorem dg_val (n : Nat) : ((dg n).toNat : Int) - 48 = ((n % 10 : Nat) : Int) := by rw [dg_toNat]; omega

/-- the text of a frame is read by places -/
theorem txt_read (dr : Bool) (b c : Int) (h0 : 0 ≤ c) (hb : 1 ≤ b) (hb2 : b ≤ 120) (hh : ¬ 99 < c / b / 3600) :
    (∀ i, i < 4 → ∀ m, m < nd (txt dr b c).length i → dgt (txt dr b c) (3 * i + m)) ∧ av (txt dr b c) 0 2 = c / b / 3600 ∧ av (txt dr b c) 3 2 = c / b / 60 % 60 ∧ av (txt dr b c) 6 2 = c / b % 60 ∧ av (txt dr b c) 9 ((txt dr b c).length - 9) = c % b := by
  have q0 : 0 ≤ c / b := Int.ediv_nonneg h0 (by omega)
  have r0 : 0 ≤ c % b := Int.emod_nonneg _ (by omega)
  have r1 : c % b < b := Int.emod_lt_of_pos _ (by omega)
  unfold txt
  generalize c / b = s at *
  generalize c % b = r at *
  by_cases h : 100 < b
  · have e : ff b r = three r.toNat := by simp [ff, h]
    rw [e]
    refine ⟨?_, ?_, ?_, ?_, ?_⟩
    · intro i hi m hm
      obtain rfl | rfl | rfl | rfl : i = 0 ∨ i = 1 ∨ i = 2 ∨ i = 3 := by omega
      all_goals simp [nd, two, three] at hm
      · obtain rfl | rfl : m = 0 ∨ m = 1 := by omega
        all_goals exact dg_dgt _
      · obtain rfl | rfl : m = 0 ∨ m = 1 := by omega
        all_goals exact dg_dgt _
      · obtain rfl | rfl : m = 0 ∨ m = 1 := by omega
        all_goals exact dg_dgt _
      · obtain rfl | rfl | rfl : m = 0 ∨ m = 1 ∨ m = 2 := by omega
        all_goals exact dg_dgt _
    · simp [av, two, dg_val]; omega
    · simp [av, two, dg_val]; omega
    · simp [av, two, dg_val]; omega
    · simp [av, two, three, dg_val]; omega
  · have e : ff b r = two r.toNat := by simp [ff, h]
    rw [e]
    refine ⟨?_, ?_, ?_, ?_, ?_⟩
    · intro i hi m hm
      obtain rfl | rfl | rfl | rfl : i = 0 ∨ i = 1 ∨ i = 2 ∨ i = 3 := by omega
      all_goals simp [nd, two] at hm
      all_goals obtain rfl | rfl : m = 0 ∨ m = 1 := by omega
      all_goals exact dg_dgt _
    · simp [av, two, dg_val]; omega
    · simp [av, two, dg_val]; omega
    · simp [av, two, dg_val]; omega
    · simp [av, two, dg_val]; omega
theorem tt_sread {n d : Int} {dr : Bool} {f : Int} {t : List UInt8} (h : tt n d dr f = t) (ht : t ≠ []) :
    (∀ i, i < 4 → ∀ m, m < nd t.length i → dgt t (3 * i + m)) ∧ sF dr (base n d dr) (av t 0 2) (av t 3 2) (av t 6 2) (av t 9 (t.length - 9)) = f := by
  subst h
  obtain ⟨h1, h2, h3, h4⟩ := tt_some ht
  obtain ⟨b1, b2⟩ := base_bd h1
  obtain ⟨f1, f2⟩ := isf_bd h2
  rw [h4]
  obtain ⟨a0, a1, a2, a3, a4⟩ := txt_read dr _ _ (clk_bd (n := n) (dr := dr) f1 f2).1 b1 b2 h3
  refine ⟨a0, ?_⟩
  rw [a1, a2, a3, a4]
  exact sF_clk h1 h2

end Go.Proofs.YtfhbmfndjbdhcaaGreatDoor.Pl
