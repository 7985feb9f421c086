/-
  Plain facts on reading a cut from its text: words as the library splits them; the word of a source. No program is named here; there are no conditions.
-/
import Derived.Test.YthjggjnkhhoigaaGreatDoorLrP
import Derived.Lib.Split
import Derived.Lib.SplitLaws
import Derived.Lib.IndexBytes
import Derived.Lib.ParseIntB
namespace Go.Proofs.YthjggjnkhhoigaaGreatDoor
open Go.RowKit
set_option linter.unusedVariables false
set_option linter.unusedSimpArgs false

/-- what a word under way adds to the words behind it -/
def glue (c : List UInt8) : List (List UInt8) → List (List UInt8)
  | [] => [c]
  | h :: t => (c ++ h) :: t
theorem fold_words (l : List UInt8) : ∀ o c, (l.foldl stepW (o, c)).1 ++ [(l.foldl stepW (o, c)).2] = o ++ glue c (wordsL l) := by
  induction l with
  | nil => intro o c; simp [wordsL, stW, glue]
  | cons b l ih =>
    intro o c
    rw [List.foldl_cons]
    by_cases h : b = 32
    · have e : stepW (o, c) b = (o ++ [c], []) := if_pos h
      have e2 : wordsL (b :: l) = [] :: wordsL l := by
        have := ih [[]] []
        unfold wordsL stW
        rw [List.foldl_cons, show stepW ([], []) b = ([[]], []) from if_pos h, this]
        cases hw : wordsL l with
        | nil => unfold wordsL at hw; simp at hw
        | cons x y => simp [glue]; exact hw.symm
      rw [e, ih, e2]
      cases hw : wordsL l with
      | nil => unfold wordsL at hw; simp at hw
      | cons x y => simp [glue]
    · have e : stepW (o, c) b = (o, c ++ [b]) := if_neg h
      have e2 : wordsL (b :: l) = glue [b] (wordsL l) := by
        have := ih [] [b]
        unfold wordsL stW
        rw [List.foldl_cons, show stepW ([], []) b = ([], [b]) from if_neg h, this]
        rfl
      rw [e, ih, e2]
      cases hw : wordsL l with
      | nil => simp [glue]
      | cons x y => simp [glue]
theorem wordsL_ne (l : List UInt8) : ∃ x y, wordsL l = x :: y := by
  cases hw : wordsL l with
  | nil => unfold wordsL at hw; simp at hw
  | cons x y => exact ⟨x, y, rfl⟩
theorem wordsL_blank (l : List UInt8) : wordsL (32 :: l) = [] :: wordsL l := by
  have := fold_words l [[]] []
  unfold wordsL stW
  rw [List.foldl_cons, show stepW ([], []) 32 = ([[]], []) from rfl, this]
  obtain ⟨x, y, h⟩ := wordsL_ne l
  rw [h]
  simp [glue]
  exact h.symm
theorem wordsL_char {b : UInt8} (hb : b ≠ 32) (l : List UInt8) : wordsL (b :: l) = glue [b] (wordsL l) := by
  have := fold_words l [] [b]
  have e : wordsL (b :: l) = (l.foldl stepW ([], [b])).1 ++ [(l.foldl stepW ([], [b])).2] := by
    unfold wordsL stW
    rw [List.foldl_cons, show stepW ([], []) b = ([], [b]) from if_neg hb]
  rw [e, this]; simp
/-- the library's split at a blank gives the words -/
theorem split_words : ∀ (l : List UInt8) (k : Nat), l.count 32 ≤ k → Lib.splitK [32] 0 k l = wordsL l := by
  intro l
  induction l with
  | nil =>
    intro k _
    cases k with
    | zero => rfl
    | succ k => simp [Lib.splitK, Lib.index, wordsL, stW]
  | cons b l ih =>
    intro k hk
    by_cases h : b = 32
    · subst h
      rw [wordsL_blank]
      cases k with
      | zero => simp at hk
      | succ k =>
        have h1 : l.count 32 ≤ k := by simp at hk; omega
        rw [← ih k h1]
        simp [Lib.splitK, Lib.index_one, Lib.indexByte]
    · rw [wordsL_char h]
      have h1 : l.count 32 ≤ k := by rw [List.count_cons_of_ne (by simpa using h)] at hk; exact hk
      have h2 := ih k h1
      rw [← h2]
      cases k with
      | zero => rfl
      | succ k =>
        unfold Lib.splitK
        rw [Lib.index_one, Lib.index_one]
        have hb : (b == 32) = false := by simpa using h
        have e : Lib.indexByte (b :: l) 32 = if Lib.indexByte l 32 == -1 then -1 else Lib.indexByte l 32 + 1 := by
          rw [Lib.indexByte, hb]; rfl
        rw [e]
        by_cases hm : Lib.indexByte l 32 = -1
        · rw [hm]; rfl
        · have hge := Lib.indexByte_ge l 32
          obtain ⟨i, hi⟩ := Int.eq_ofNat_of_zero_le (show 0 ≤ Lib.indexByte l 32 by omega)
          rw [hi]
          have n1 : ((i : Int) == -1) = false := by rw [beq_eq_false_iff_ne]; omega
          have n2 : ((i : Int) + 1 == -1) = false := by rw [beq_eq_false_iff_ne]; omega
          have t1 : ((i : Int) + 1).toNat = i + 1 := by omega
          simp [n1, n2, t1, glue]

/-- the word of a source, and the source -/
def SrcR (l : List UInt8) (x : Int) (ok : Bool) : Prop := (ok = true ∧ 0 ≤ x ∧ x ≤ 500 ∧ l = srcW x) ∨ (ok = false ∧ x = 0 ∧ ∀ y : Int, 0 ≤ y → y ≤ 500 → l ≠ srcW y)
theorem parse_dec : ∀ y : Nat, y < 501 → Lib.parseIntB 64 (Pl.dec y) = .ok (y : Int) := by decide +kernel
theorem srcW_inj {x y : Int} (hx : 0 ≤ x) (hx5 : x ≤ 500) (hy : 0 ≤ y) (hy5 : y ≤ 500) (h : srcW x = srcW y) : x = y := by
  unfold srcW at h
  split at h <;> split at h
  · omega
  · simp at h
  · simp at h
  · injection h with _ h
    have h1 := parse_dec x.toNat (by omega)
    have h2 := parse_dec y.toNat (by omega)
    rw [h] at h1
    rw [h1] at h2
    injection h2 with h2
    omega
theorem SrcR.one {l : List UInt8} {x y : Int} {a b : Bool} (h : SrcR l x a) (k : SrcR l y b) : x = y ∧ a = b := by
  rcases h with ⟨rfl, h0, h5, h⟩ | ⟨rfl, rfl, h⟩ <;> rcases k with ⟨rfl, k0, k5, k⟩ | ⟨rfl, rfl, k⟩
  · exact ⟨srcW_inj h0 h5 k0 k5 (h.symm.trans k), rfl⟩
  · exact absurd h (k x h0 h5)
  · exact absurd k (h y k0 k5)
  · exact ⟨rfl, rfl⟩

end Go.Proofs.YthjggjnkhhoigaaGreatDoor
