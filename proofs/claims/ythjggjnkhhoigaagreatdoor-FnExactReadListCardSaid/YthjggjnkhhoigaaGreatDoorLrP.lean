/-
  Plain facts on reading a cut from its text: words, numbers. No program is named here; there are no conditions.
-/
import Derived.Test.YthjggjnkhhoigaaGreatDoorLsP
import Derived.Lib.Strings
namespace Go.Proofs.YthjggjnkhhoigaaGreatDoor
open Go.RowKit
set_option linter.unusedVariables false
set_option linter.unusedSimpArgs false

/-- a byte more: the words that are done, and the one under way -/
def stepW (st : List (List UInt8) × List UInt8) (c : UInt8) : List (List UInt8) × List UInt8 := if c = 32 then (st.1 ++ [st.2], []) else (st.1, st.2 ++ [c])
def stW (l : List UInt8) : List (List UInt8) × List UInt8 := l.foldl stepW ([], [])
/-- the words of a line: what lies between blanks -/
def wordsL (l : List UInt8) : List (List UInt8) := (stW l).1 ++ [(stW l).2]
theorem stW_snoc (l : List UInt8) (c : UInt8) : stW (l ++ [c]) = stepW (stW l) c := by unfold stW; rw [List.foldl_append]; rfl
theorem foldW_len (l : List UInt8) : ∀ st, (l.foldl stepW st).1.length ≤ st.1.length + l.length := by
  induction l with
  | nil => intro st; simp
  | cons c l ih =>
    intro st
    have h := ih (stepW st c)
    have h2 : (stepW st c).1.length ≤ st.1.length + 1 := by unfold stepW; split <;> simp
    simp only [List.foldl_cons, List.length_cons]
    omega
theorem stW_len (l : List UInt8) : (stW l).1.length ≤ l.length := by have := foldW_len l ([], []); simpa [stW] using this
theorem stW_one {l : List UInt8} {k : Nat} {c : UInt8} (h : l[k]? = some c) : stW (l.take (k + 1)) = stepW (stW (l.take k)) c := by
  rw [List.take_add_one, h]
  exact stW_snoc _ _
/-- the words that are done at the place k of the loop -/
def outW (l : List UInt8) (k : Nat) : List (List UInt8) := if k ≤ l.length then (stW (l.take k)).1 else wordsL l
theorem outW_len (l : List UInt8) (k : Nat) : (outW l k).length ≤ l.length + 1 := by
  unfold outW
  split
  · have := stW_len (l.take k); simp at this; omega
  · unfold wordsL; have := stW_len l; simp; omega
theorem drop_snoc {l : List UInt8} {f k : Nat} {c : UInt8} (h : l[k]? = some c) (hf : f ≤ k) : (l.take (k + 1)).drop f = (l.take k).drop f ++ [c] := by
  have hk : k < l.length := (List.getElem?_eq_some_iff.1 h).1
  rw [List.take_add_one, h, List.drop_append_of_le_length (by simp; omega)]
  rfl
theorem outW_at {l : List UInt8} {k : Nat} (h : k ≤ l.length) : outW l k = (stW (l.take k)).1 := if_pos h
theorem outW_end (l : List UInt8) : outW l (l.length + 1) = wordsL l := if_neg (by omega)

end Go.Proofs.YthjggjnkhhoigaaGreatDoor
