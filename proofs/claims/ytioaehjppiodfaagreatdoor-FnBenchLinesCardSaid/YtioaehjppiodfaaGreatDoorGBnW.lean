/-
  Words of a line, and what the deed of each word does: plain.
-/
import Derived.Test.YtioaehjppiodfaaGreatDoorGBnV
namespace Go.Proofs.YtioaehjppiodfaaGreatDoor
open Go.RowKit
set_option linter.unusedVariables false
set_option linter.unusedSimpArgs false

/-- what a word under way adds to the words behind it -/
def glue (c : List UInt8) : List (List UInt8) → List (List UInt8)
  | [] => [c]
  | h :: t => (c ++ h) :: t
def wordsL : List UInt8 → List (List UInt8)
  | [] => [[]]
  | b :: l => if b = 32 then [] :: wordsL l else glue [b] (wordsL l)
theorem wordsL_ne (l : List UInt8) : ∃ x y, wordsL l = x :: y := by
  cases l with
  | nil => exact ⟨_, _, rfl⟩
  | cons b l =>
    unfold wordsL
    split
    · exact ⟨_, _, rfl⟩
    · cases hw : wordsL l with
      | nil => exact ⟨_, _, rfl⟩
      | cons x y => exact ⟨_, _, rfl⟩
theorem wordsL_blank (l : List UInt8) : wordsL (32 :: l) = [] :: wordsL l := rfl
theorem wordsL_char {b : UInt8} (hb : b ≠ 32) (l : List UInt8) : wordsL (b :: l) = glue [b] (wordsL l) := by
  rw [wordsL, if_neg hb]
theorem split_words : ∀ (l : List UInt8) (k : Nat), l.count 32 ≤ k → Lib.splitK [32] 0 k l = wordsL l := by
  intro l
  induction l with
  | nil =>
    intro k _
    cases k with
    | zero => rfl
    | succ k => simp [Lib.splitK, Lib.index, wordsL]
  | cons b l ih =>
    intro k hk
    by_cases h : b = 32
    · subst h
      rw [wordsL_blank]
      cases k with
      | zero => simp at hk
      | succ k =>
        have h1 : l.count 32 ≤ k := by simp at hk; omega
        rw [← ih k h1]
        simp [Lib.splitK, Lib.index_one, Lib.indexByte]
    · rw [wordsL_char h]
      have h1 : l.count 32 ≤ k := by rw [List.count_cons_of_ne (by simpa using h)] at hk; exact hk
      have h2 := ih k h1
      rw [← h2]
      cases k with
      | zero => rfl
      | succ k =>
        unfold Lib.splitK
        rw [Lib.index_one, Lib.index_one]
        have hb : (b == 32) = false := by simpa using h
        have e : Lib.indexByte (b :: l) 32 = if Lib.indexByte l 32 == -1 then -1 else Lib.indexByte l 32 + 1 := by
          rw [Lib.indexByte, hb]; rfl
        rw [e]
        by_cases hm : Lib.indexByte l 32 = -1
        · rw [hm]; rfl
        · have hge := Lib.indexByte_ge l 32
          obtain ⟨i, hi⟩ := Int.eq_ofNat_of_zero_le (show 0 ≤ Lib.indexByte l 32 by omega)
          rw [hi]
          have n1 : ((i : Int) == -1) = false := by rw [beq_eq_false_iff_ne]; omega
          have n2 : ((i : Int) + 1 == -1) = false := by rw [beq_eq_false_iff_ne]; omega
          have t1 : ((i : Int) + 1).toNat = i + 1 := by omega
          simp [n1, n2, t1, glue]
theorem glue_len (c : List UInt8) (l : List UInt8) : (glue c (wordsL l)).length = (wordsL l).length := by
  obtain ⟨x, y, h⟩ := wordsL_ne l
  rw [h]; rfl
theorem wordsL_len (l : List UInt8) : (wordsL l).length = l.count 32 + 1 := by
  induction l with
  | nil => rfl
  | cons b l ih =>
    by_cases h : b = 32
    · subst h; rw [wordsL_blank]; simp [ih]
    · rw [wordsL_char h, glue_len, ih, List.count_cons_of_ne (by simpa using h)]
theorem words_le (l : List UInt8) : ∀ x ∈ wordsL l, x.length ≤ l.length := by
  induction l with
  | nil => intro x hx; simp [wordsL] at hx; subst hx; simp
  | cons b l ih =>
    intro x hx
    by_cases h : b = 32
    · subst h
      rw [wordsL_blank] at hx
      rcases List.mem_cons.1 hx with rfl | hx
      · simp
      · have := ih x hx; simp; omega
    · rw [wordsL_char h] at hx
      obtain ⟨y, z, e⟩ := wordsL_ne l
      rw [e] at hx ih
      simp only [glue] at hx
      rcases List.mem_cons.1 hx with rfl | hx
      · have := ih y (by simp); simp; omega
      · have := ih x (by simp [hx]); simp; omega
theorem countB_blank (s : ByteArray) : Lib.countB s ⟨#[32]⟩ = s.data.toList.count 32 := Lib.count_one 32 s.data.toList
theorem split_cells (s : ByteArray) : (Lib.splitB ⟨#[32]⟩ 0 (Lib.countB s ⟨#[32]⟩) s).map Value.string = (wordsL s.data.toList).map fun x => Value.string ⟨x.toArray⟩ := by
  have h := Lib.splitB_data ⟨#[32]⟩ 0 (Lib.countB s ⟨#[32]⟩) s
  have h2 := split_words s.data.toList (Lib.countB s ⟨#[32]⟩) (by rw [countB_blank]; exact Nat.le_refl _)
  rw [show ((⟨#[32]⟩ : ByteArray).data.toList) = [32] from rfl, h2] at h
  rw [← h, List.map_map]
  apply List.map_congr_left
  intro b _
  simp [Function.comp, Lib.mk_data]

/-- the word of each deed, and how many numbers it takes -/
def keyL : Nat → List UInt8
  | 0 => [105, 110, 115, 101, 114, 116]
  | 1 => [111, 118, 101, 114]
  | 2 => [101, 120, 116, 114, 97, 99, 116]
  | 3 => [108, 105, 102, 116]
  | 4 => [114, 111, 108, 108]
  | 5 => [115, 108, 105, 112]
  | 6 => [115, 108, 105, 100, 101]
  | 7 => [114, 105, 112, 112, 108, 101]
  | 8 => [117, 110, 100, 111]
  | 9 => [97, 116]
  | 10 => [115, 104, 111, 119]
  | 11 => [99, 104, 97, 110, 103, 101, 115]
  | _ => [115, 117, 109]
def cntL : Nat → Nat
  | 0 => 4 | 1 => 4 | 8 => 0 | 9 => 1 | 10 => 0 | 11 => 0 | 12 => 0
  | _ => 2
def codeOf (X : List UInt8) : Option Nat := (List.range 13).find? fun i => keyL i == X
noncomputable def doS : Nat → List Int → Bch → An × Bch
  | 0, [a, b, c, d], s => doE (insertS s.1 a (b, c, d)) s
  | 1, [a, b, c, d], s => doE (overS s.1 a (b, c, d)) s
  | 2, [a, b], s => doE (extractS s.1 a b) s
  | 3, [a, b], s => doE (liftS s.1 a b) s
  | 4, [a, b], s => doE (rollS s.1 a b) s
  | 5, [a, b], s => doE (slipS s.1 a b) s
  | 6, [a, b], s => doE (slidS s.1 a b) s
  | 7, [a, b], s => doE (rippleS s.1 a b) s
  | 8, [], s => undoS s
  | 9, [a], s => seeS a s
  | 10, [], s => (.clips s.1, s)
  | 11, [], s => chgS s
  | 12, [], s => (.nums [sumT s.1], s)
  | _, _, s => (.err 1, s)
noncomputable def tellS (i : Nat) (L : List Int) (s : Bch) : An × Bch := if L.length = cntL i then doS i L s else (.err 1, s)
/-- what a line does -/
noncomputable def lineS (X : List UInt8) (s : Bch) : An × Bch :=
  match codeOf ((wordsL X).headD []), numsOf ((wordsL X).tail.map fun x => ⟨x.toArray⟩) with
  | some i, some L => tellS i L s
  | _, _ => (.err 1, s)

theorem edit_tok {x t : List Kl} (h : edit x = some t) : TOk t := by
  unfold edit at h
  split at h
  · rename_i h1; cases h; exact h1.2
  · cases h
theorem med_tok {r : Option (List Kl)} {t : List Kl} (h : med r = some t) : TOk t := by
  cases r with
  | none => cases h
  | some x =>
    unfold med at h
    dsimp only at h
    split at h
    · rename_i h1; cases h; exact h1
    · cases h
theorem ins_tok {l t : List Kl} {a : Int} {c : Kl} (h : insertS l a c = some t) : TOk t := by unfold insertS at h; split at h; exact edit_tok h; cases h
theorem over_tok {l t : List Kl} {a : Int} {c : Kl} (h : overS l a c = some t) : TOk t := by unfold overS at h; split at h; exact edit_tok h; cases h
theorem ext_tok {l t : List Kl} {a b : Int} (h : extractS l a b = some t) : TOk t := by unfold extractS at h; split at h; exact edit_tok h; cases h
theorem lif_tok {l t : List Kl} {a b : Int} (h : liftS l a b = some t) : TOk t := by unfold liftS at h; split at h; exact edit_tok h; cases h
theorem rol_tok {l t : List Kl} {a b : Int} (h : rollS l a b = some t) : TOk t := by unfold rollS at h; split at h; exact edit_tok h; cases h
theorem slp_tok {l t : List Kl} {a b : Int} (h : slipS l a b = some t) : TOk t := by unfold slipS at h; split at h; exact edit_tok h; cases h
theorem rip_tok {l t : List Kl} {a b : Int} (h : rippleS l a b = some t) : TOk t := by unfold rippleS at h; split at h; exact edit_tok h; cases h
theorem sld_tok {l t : List Kl} {a b : Int} (h : slidS l a b = some t) : TOk t := by unfold slidS at h; split at h; exact med_tok h; cases h
end Go.Proofs.YtioaehjppiodfaaGreatDoor
