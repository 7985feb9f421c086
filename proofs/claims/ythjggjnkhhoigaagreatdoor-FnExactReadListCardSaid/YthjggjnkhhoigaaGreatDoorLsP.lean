/-
  Plain facts on a cut as text: its lines, and when it has one. No program is named here; there are no conditions.
-/
import Derived.Test.YthjggjnkhhoigaaGreatDoorEdP
import Derived.Test.YthjggjnkhhoigaaGreatDoorClock
namespace Go.Proofs.YthjggjnkhhoigaaGreatDoor
open Go.RowKit
set_option linter.unusedVariables false
set_option linter.unusedSimpArgs false

def kAt (l : List Kl) (k : Nat) : Kl := l.getD k (0, 0, 0)
theorem kAt_get {l : List Kl} {k : Nat} (h : k < l.length) : l[k]? = some (kAt l k) := by
  unfold kAt; rw [List.getD_eq_getElem?_getD, List.getElem?_eq_getElem h]; rfl
theorem kAt_eq {l : List Kl} {k : Nat} {c : Kl} (h : l[k]? = some c) : kAt l k = c := by unfold kAt; simp [List.getD, h]

/-- the word of the line i's number -/
def numW (i : Nat) : List UInt8 := Pl.three (i + 1)
/-- the word of a source -/
def srcW (s : Int) : List UInt8 := if s = 0 then [66, 76] else 82 :: Pl.dec s.toNat
/-- all four times of a clip have a text -/
def tOk (n d : Int) (dr : Bool) (at0 : Int) (c : Kl) : Bool := !((Pl.tt n d dr c.2.1).isEmpty || (Pl.tt n d dr (c.2.1 + c.2.2)).isEmpty || (Pl.tt n d dr at0).isEmpty || (Pl.tt n d dr (at0 + c.2.2)).isEmpty)
def lineL (n d : Int) (dr : Bool) (i : Nat) (at0 : Int) (c : Kl) : List UInt8 :=
  numW i ++ [32] ++ srcW c.1 ++ [32, 67, 32] ++ Pl.tt n d dr c.2.1 ++ [32] ++ Pl.tt n d dr (c.2.1 + c.2.2) ++ [32] ++ Pl.tt n d dr at0 ++ [32] ++ Pl.tt n d dr (at0 + c.2.2) ++ [10]
def linesL (n d : Int) (dr : Bool) (l : List Kl) : Nat → List UInt8
  | 0 => []
  | k + 1 => linesL n d dr l k ++ lineL n d dr k (clen (l.take k)) (kAt l k)
def allOk (n d : Int) (dr : Bool) (l : List Kl) (k : Nat) : Prop := ∀ i, i < k → tOk n d dr (clen (l.take i)) (kAt l i) = true
instance (n d : Int) (dr : Bool) (l : List Kl) (k : Nat) : Decidable (allOk n d dr l k) := Nat.decidableBallLT k _
theorem allOk_zero (n d : Int) (dr : Bool) (l : List Kl) : allOk n d dr l 0 := fun i h => by omega
theorem allOk_succ {n d : Int} {dr : Bool} {l : List Kl} {k : Nat} (h : allOk n d dr l k) (h1 : tOk n d dr (clen (l.take k)) (kAt l k) = true) : allOk n d dr l (k + 1) := fun i hi => by
  rcases Nat.lt_or_ge i k with h2 | h2
  · exact h i h2
  · have : i = k := by omega
    subst this; exact h1
/-- the lines of a list of clips, where all times have texts -/
def listOf (n d : Int) (dr : Bool) (l : List Kl) : List UInt8 := if allOk n d dr l l.length then linesL n d dr l l.length else []
theorem listOf_yes {n d : Int} {dr : Bool} {l : List Kl} (h : allOk n d dr l l.length) : listOf n d dr l = linesL n d dr l l.length := if_pos h
theorem listOf_no {n d : Int} {dr : Bool} {l : List Kl} {k : Nat} (hk : k < l.length) (h : tOk n d dr (clen (l.take k)) (kAt l k) = false) : listOf n d dr l = [] :=
  if_neg (fun h' => by have := h' k hk; rw [h] at this; cases this)
theorem tOk_rate {n d : Int} {dr : Bool} {a : Int} {c : Kl} (h : Pl.rok n d dr = false) : tOk n d dr a c = false := by
  simp [tOk, Pl.tt, h]
/-- what ShowList gives -/
def showOf (n d : Int) (dr : Bool) (l : List Kl) : List UInt8 := if TOk l then listOf n d dr (join l) else []
theorem listOf_rate {n d : Int} {dr : Bool} {l : List Kl} (h : Pl.rok n d dr = false) : listOf n d dr l = [] := by
  cases l with
  | nil => unfold listOf; split <;> rfl
  | cons c l => exact listOf_no (k := 0) (by simp) (tOk_rate h)
theorem showOf_rate {n d : Int} {dr : Bool} {l : List Kl} (h : Pl.rok n d dr = false) : showOf n d dr l = [] := by
  unfold showOf; split
  · exact listOf_rate h
  · rfl
theorem showOf_no {n d : Int} {dr : Bool} {l : List Kl} (h : ¬ TOk l) : showOf n d dr l = [] := if_neg h
theorem showOf_yes {n d : Int} {dr : Bool} {l : List Kl} (h : TOk l) : showOf n d dr l = listOf n d dr (join l) := if_pos h

theorem tt_len (n d : Int) (dr : Bool) (f : Int) : (Pl.tt n d dr f).length ≤ 12 := by
  unfold Pl.tt
  split
  · split
    · simp
    · simp only [Pl.txt, Pl.ff, Pl.two, Pl.three, List.length_append, List.length_cons, List.length_nil]
      split <;> simp
  · simp
theorem srcW_len {s : Int} (h : s ≤ 500) : (srcW s).length ≤ 4 := by
  unfold srcW
  split
  · simp
  · have := Pl.dec_length_lt 2 s.toNat (by omega)
    simp; omega
theorem lineL_len {n d : Int} {dr : Bool} {i : Nat} {at0 : Int} {c : Kl} (h : c.1 ≤ 500) : (lineL n d dr i at0 c).length ≤ 64 := by
  have h1 := tt_len n d dr c.2.1
  have h2 := tt_len n d dr (c.2.1 + c.2.2)
  have h3 := tt_len n d dr at0
  have h4 := tt_len n d dr (at0 + c.2.2)
  have h5 := srcW_len h
  unfold lineL
  simp only [List.length_append, List.length_cons, List.length_nil, numW, Pl.three]
  omega
theorem linesL_len {n d : Int} {dr : Bool} {l : List Kl} (h : AOk l) : ∀ k, k ≤ l.length → (linesL n d dr l k).length ≤ 64 * k := by
  intro k
  induction k with
  | zero => intro _; simp [linesL]
  | succ k ih =>
    intro hk
    have h1 := ih (by omega)
    have hm : kAt l k ∈ l := List.mem_of_getElem? (kAt_get (by omega))
    have h2 := lineL_len (n := n) (d := d) (dr := dr) (i := k) (at0 := clen (l.take k)) (c := kAt l k) (by have := (h (kAt l k) hm).2.2.2.2; omega)
    simp only [linesL, List.length_append]
    omega

end Go.Proofs.YthjggjnkhhoigaaGreatDoor
