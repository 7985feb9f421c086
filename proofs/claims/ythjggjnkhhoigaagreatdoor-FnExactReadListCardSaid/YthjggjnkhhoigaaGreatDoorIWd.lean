/-
  The program's words of a line: contracts of the word of a number and of the word of a source.
-/
import Derived.Test.YthjggjnkhhoigaaGreatDoorBs
namespace Go.Proofs.YthjggjnkhhoigaaGreatDoor
open Go.RowKit
set_option linter.unusedVariables false
set_option linter.unusedSimpArgs false

/-- the library's table of powers of ten lies as its text lays it -/
abbrev Tab (w : World) : Prop := Lib.TabIs Tryz.prog w "internal/strconv.uint64pow10" .u64 Lib.pow10Tab
theorem tab_g : Tryz.prog.globalNamed "internal/strconv.uint64pow10" = some 4 := by kernel_rfl
theorem Tab.below {w w' : World} (h : Tab w) (hb : Below w.heap.size w w') : Tab w' := Joins.tab_stays tab_g h hb (Nat.le_refl _)

theorem dec_dig : ∀ (f n : Nat), n < f → Lib.decDigits n = Pl.decF f n := by
  intro f
  induction f with
  | zero => intro n h; omega
  | succ f ih =>
    intro n h
    rw [Lib.decDigits, Pl.decF]
    by_cases h1 : n < 10
    · rw [if_pos h1]
      simp [h1, Pl.dg, Nat.mod_eq_of_lt h1]
    · rw [if_neg h1, ← ih (n / 10) (by omega)]
      simp [h1, Pl.dg]
theorem itoa_dec {x : Int} (h : 0 ≤ x) : Lib.itoa x = Pl.dec x.toNat := by
  unfold Lib.itoa Pl.dec
  rw [if_neg (by omega), dec_dig _ _ (Nat.lt_succ_self _)]
theorem grow_below (w : World) (k : Nat) (os : Array Obj) : Below w.heap.size w (Sort.grow (w.drewN k) os) := by
  refine ⟨rfl, rfl, rfl, by simp [Sort.grow], fun k hk => ?_⟩
  simp [Sort.grow, Array.getElem?_append, hk]

set_option maxHeartbeats 400000 in
theorem inum_any (i : Nat) (w : World) (hi : i < 999) :
    Calls Tryz.prog 41 #[.int .i64 i] w fun e w' => e = .returned (.string ⟨(numW i).toArray⟩) ∧ Below w.heap.size w w' := by
  have cA := hide (iapp3 w.heap.size (.slice none 0 0) [] (i + 1) w (Nat.le_refl _) (World.ownsRow_nil _ _ _ _) (by simp) (by omega))
  rw [show (((i + 1 : Nat) : Nat) : Int) = (i : Int) + 1 by omega] at cA
  go_enter Tryz.func41, Tryz.ntmps41
  go_wp2_with fail
  refine (unhide cA).mono ?_
  rintro e w1 ⟨v, rfl, hown, hb⟩
  have hcv := conv_own hown
  clear cA hown
  go_wp2
  go_ret
  exact ⟨rfl, hb⟩

set_option maxHeartbeats 400000 in
theorem iword_any (x : Int) (w : World) (h0 : 0 ≤ x) (h1 : x ≤ 500) (ht : Tab w) :
    Calls Tryz.prog 64 #[.int .i64 x] w fun e w' => e = .returned (.string ⟨(srcW x).toArray⟩) ∧ Below w.heap.size w w' := by
  by_cases hz : x = 0
  · subst hz
    clear ht
    go_enter Tryz.func64, Tryz.ntmps64
    go_wp2
    go_ret
    exact ⟨rfl, Below.refl _ _⟩
  · have hz' : (x == 0) = false := by simpa using hz
    have cF := hide (Tryz.strconv_FormatInt_10 x (by omega) (by omega) w ht)
    rw [itoa_dec h0] at cF
    have e9 : srcW x = 82 :: Pl.dec x.toNat := if_neg hz
    have aS : ∀ w, (Op.stringOp .add ⟨#[82]⟩ ⟨(Pl.dec x.toNat).toArray⟩).run Tryz.prog w = .ok (.string ⟨(srcW x).toArray⟩) w := fun w => by
      have h9 := Pl.dec_length_lt 2 x.toNat (by omega)
      exact str_add (P := Tryz.prog) (a := [82]) (b := Pl.dec x.toNat) (c := srcW x) rfl rfl rfl (by simp; omega) e9 w
    clear hz ht e9
    go_enter Tryz.func64, Tryz.ntmps64
    go_wp2_with fail
    refine (unhide cF).mono ?_
    rintro e w1 ⟨rfl, k, os, rfl⟩
    have hb := grow_below w k os
    generalize Sort.grow (w.drewN k) os = w1 at *
    go_wp2
    go_ret
    exact ⟨rfl, hb⟩

end Go.Proofs.YthjggjnkhhoigaaGreatDoor
