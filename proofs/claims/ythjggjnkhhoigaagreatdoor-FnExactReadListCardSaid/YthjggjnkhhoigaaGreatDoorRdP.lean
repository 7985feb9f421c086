/-
  Plain facts on reading a list: what its text is told as. No program is named here; there are no conditions.
-/
import Derived.Test.YthjggjnkhhoigaaGreatDoorLnR
import Derived.Test.YthjggjnkhhoigaaGreatDoorInst
namespace Go.Proofs.YthjggjnkhhoigaaGreatDoor
open Go.RowKit
set_option linter.unusedVariables false
set_option linter.unusedSimpArgs false

open Classical in
/-- what a text is told as: its track, a code, a line -/
noncomputable def rdO (n d : Int) (dr : Bool) (l : List UInt8) : List Kl × Int × Int :=
  if Pl.rok n d dr = false then ([], 1, 0) else if 20000 < l.length then ([], 2, 0) else if l ≠ [] ∧ l.getLast? ≠ some 10 then ([], 3, 0) else readF n d dr (linesOf l) [] 0
variable {n d : Int} {dr : Bool} {l : List UInt8}
theorem rd_1 (h : Pl.rok n d dr = false) : rdO n d dr l = ([], 1, 0) := by unfold rdO; rw [if_pos h]
theorem rd_2 (h : Pl.rok n d dr = true) (h2 : 20000 < l.length) : rdO n d dr l = ([], 2, 0) := by unfold rdO; rw [if_neg (by rw [h]; decide), if_pos h2]
theorem rd_3 (h : Pl.rok n d dr = true) (h2 : l.length ≤ 20000) (h3 : l ≠ [] ∧ l.getLast? ≠ some 10) : rdO n d dr l = ([], 3, 0) := by unfold rdO; rw [if_neg (by rw [h]; decide), if_neg (by omega), if_pos h3]
theorem rd_4 (h : Pl.rok n d dr = true) (h2 : l.length ≤ 20000) (h3 : ¬ (l ≠ [] ∧ l.getLast? ≠ some 10)) : rdO n d dr l = readF n d dr (linesOf l) [] 0 := by unfold rdO; rw [if_neg (by rw [h]; decide), if_neg (by omega), if_neg h3]
theorem readF_len {ls : List (List UInt8)} : ∀ {tr : List Kl} {en : Int}, TrI tr en → (readF n d dr ls tr en).1.length ≤ 300 := by
  induction ls with
  | nil => intro tr en h; exact h.ok.1
  | cons x ls ih =>
    intro tr en h
    by_cases h0 : (lineO n d dr x tr en).1 = 0
    · rw [readF_ok h0]; exact ih (h.step h0)
    · rw [readF_no h0]; simp
theorem rd_len : (rdO n d dr l).1.length ≤ 300 := by
  unfold rdO
  split
  · simp
  · split
    · simp
    · split
      · simp
      · exact readF_len TrI.zero
theorem last_at {b : UInt8} (h : l ≠ []) (hb : l[l.length - 1]? = some b) : l.getLast? = some b := by rw [List.getLast?_eq_getElem?]; exact hb
/-- a list read, in memory of its own, and its fault -/
def RlP (w : World) (R : List Kl × Int × Int) (e : Ending) (w' : World) : Prop :=
  ∃ g c, e = .returned (.tuple #[.slice (some ⟨g, 0, none⟩) R.1.length c, .agg #[.int .i64 R.2.1, .int .i64 R.2.2]]) ∧ w.heap.size ≤ g ∧ Own w' w.heap.size g R.1.length c R.1 ∧ Below w.heap.size w w'
end Go.Proofs.YthjggjnkhhoigaaGreatDoor
