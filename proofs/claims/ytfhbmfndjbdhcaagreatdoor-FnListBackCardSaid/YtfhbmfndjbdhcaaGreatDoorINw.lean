/-
  The program's words of a line: contracts of the word of a number and of the word of a source.
  The program's map of the numbers that lines begin with: its contract, and what a look-up in it gives.
-/
import Derived.Test.YtfhbmfndjbdhcaaGreatDoorBs
import Derived.Maps.OwnSet
import Derived.Lib.MinMax
import Derived.WalkArith
namespace Go.Proofs.YtfhbmfndjbdhcaaGreatDoor
open Go.RowKit
set_option linter.unusedVariables false
set_option linter.unusedSimpArgs false

/-- the library's table of powers of ten lies as its text lays it -/
abbrev Tab (w : World) : Prop := Lib.TabIs Tryz.prog w "internal/strconv.uint64pow10" .u64 Lib.pow10Tab
theorem tab_g : Tryz.prog.globalNamed "internal/strconv.uint64pow10" = some 2 := by kernel_rfl
theorem Tab.below {w w' : World} (h : Tab w) (hb : Below w.heap.size w w') : Tab w' := Joins.tab_stays tab_g h hb (Nat.le_refl _)

theorem dec_dig : ∀ (f n : Nat), n < f → Lib.decDigits n = Pl.decF f n := by
  intro f
  induction f with
  | zero => intro n h; omega
  | succ f ih =>
    intro n h
    rw [Lib.decDigits, Pl.decF]
    by_cases h1 : n < 10
    · rw [if_pos h1]
      simp [h1, Pl.dg, Nat.mod_eq_of_lt h1]
    · rw [if_neg h1, ← ih (n / 10) (by omega)]
      simp [h1, Pl.dg]
theorem itoa_dec {x : Int} (h : 0 ≤ x) : Lib.itoa x = Pl.dec x.toNat := by
  unfold Lib.itoa Pl.dec
  rw [if_neg (by omega), dec_dig _ _ (Nat.lt_succ_self _)]
theorem grow_belowN (w : World) (k : Nat) (os : Array Obj) : Below w.heap.size w (Sort.grow (w.drewN k) os) := by
  refine ⟨rfl, rfl, rfl, by simp [Sort.grow], fun k hk => ?_⟩
  simp [Sort.grow, Array.getElem?_append, hk]

set_option maxHeartbeats 400000 in
theorem inum_any (i : Nat) (w : World) (hi : i < 999) :
    Calls Tryz.prog 39 #[.int .i64 i] w fun e w' => e = .returned (.string ⟨(numW i).toArray⟩) ∧ Below w.heap.size w w' := by
  have cA := hide (iapp3 w.heap.size (.slice none 0 0) [] (i + 1) w (Nat.le_refl _) (World.ownsRow_nil _ _ _ _) (by simp) (by omega))
  rw [show (((i + 1 : Nat) : Nat) : Int) = (i : Int) + 1 by omega] at cA
  go_enter Tryz.func39, Tryz.ntmps39
  go_wp2_with fail
  refine (unhide cA).mono ?_
  rintro e w1 ⟨v, rfl, hown, hb⟩
  have hcv := conv_own hown
  clear cA hown
  go_wp2
  go_ret
  exact ⟨rfl, hb⟩

set_option maxHeartbeats 400000 in
theorem iword_any (x : Int) (w : World) (h0 : 0 ≤ x) (h1 : x ≤ 500) (ht : Tab w) :
    Calls Tryz.prog 40 #[.int .i64 x] w fun e w' => e = .returned (.string ⟨(srcW x).toArray⟩) ∧ Below w.heap.size w w' := by
  by_cases hz : x = 0
  · subst hz
    clear ht
    go_enter Tryz.func40, Tryz.ntmps40
    go_wp2
    go_ret
    exact ⟨rfl, Below.refl _ _⟩
  · have hz' : (x == 0) = false := by simpa using hz
    have cF := hide (Tryz.strconv_FormatInt_10 x (by omega) (by omega) w ht)
    rw [itoa_dec h0] at cF
    have e9 : srcW x = 82 :: Pl.dec x.toNat := if_neg hz
    have aS : ∀ w, (Op.stringOp .add ⟨#[82]⟩ ⟨(Pl.dec x.toNat).toArray⟩).run Tryz.prog w = .ok (.string ⟨(srcW x).toArray⟩) w := fun w => by
      have h9 := Pl.dec_length_lt 2 x.toNat (by omega)
      exact str_add (P := Tryz.prog) (a := [82]) (b := Pl.dec x.toNat) (c := srcW x) rfl rfl rfl (by simp; omega) e9 w
    clear hz ht e9
    go_enter Tryz.func40, Tryz.ntmps40
    go_wp2_with fail
    refine (unhide cF).mono ?_
    rintro e w1 ⟨rfl, k, os, rfl⟩
    have hb := grow_belowN w k os
    generalize Sort.grow (w.drewN k) os = w1 at *
    go_wp2
    go_ret
    exact ⟨rfl, hb⟩

end Go.Proofs.YtfhbmfndjbdhcaaGreatDoor

namespace Go.Proofs.YtfhbmfndjbdhcaaGreatDoor
open Go.RowKit Go.WideMaps Go.Maps
set_option linter.unusedVariables false
set_option linter.unusedSimpArgs false

theorem lawS : Keyed Tryz.prog 9 := string_keyed Tryz.underlying9
def numV (l : List UInt8) : Nat := l.foldl (fun a b => 10 * a + (b.toNat - 48)) 0
theorem numV_num : ∀ i : Nat, i < 999 → numV (numW i) = i + 1 := by decide +kernel
theorem numW_inj {i j : Nat} (hi : i < 999) (hj : j < 999) (h : numW i = numW j) : i = j := by
  have a := numV_num i hi
  have b := numV_num j hj
  rw [h, b] at a
  omega
abbrev keyN (j : Nat) : Lit := .string (numW j)
theorem key_num (j : Nat) (hj : j < 999) : keyOf Tryz.prog 9 (.string ⟨(numW j).toArray⟩) = some (keyN j) := by
  have h : (⟨(numW j).toArray⟩ : ByteArray).size ≤ maxLen := by
    show (numW j).toArray.size ≤ maxLen
    have : (numW j).length = 3 := rfl
    simp [this, maxLen]
  exact keyOf_string_mk Tryz.underlying9 h
/-- what the map holds: the first k numbers, and no other key -/
structure NumD (D : DataW Unit) (k : Nat) : Prop where
  here : ∀ j, j < k → has D (keyN j) = true ∧ ∀ z, D.atKey (keyN j) z = .lit (.int .i64 j)
  none : ∀ kl, (∀ j, j < k → kl ≠ keyN j) → has D kl = false
theorem NumD.zero : NumD (.map []) 0 := ⟨fun j h => by omega, fun kl _ => rfl⟩
theorem NumD.step {D : DataW Unit} {k : Nat} (h : NumD D k) (hD : IsMap D) (hk : k < 301) : NumD (D.put (keyN k) (.lit (.int .i64 k))) (k + 1) := by
  have hkl : WideAt.IsKeyLit (keyN k) := lawS.key (key_num k (by omega))
  refine ⟨fun j hj => ?_, fun kl hkl' => ?_⟩
  · by_cases e : j = k
    · subst e
      exact ⟨has_put_same hD hkl _, fun z => atKey_put_same hD hkl _ z⟩
    · have hne : keyN j ≠ keyN k := by
        intro h2
        injection h2 with h2
        exact e (numW_inj (by omega) (by omega) h2)
      rw [has_put_other hne]
      refine ⟨(h.here j (by omega)).1, fun z => ?_⟩
      rw [atKey_put_other hne]
      exact (h.here j (by omega)).2 z
  · rw [has_put_other (hkl' k (by omega))]
    exact h.none kl (fun j hj => hkl' j (by omega))
/-- the map in memory -/
def NumM (w : World) (M k : Nat) : Prop := ∃ D : DataW Unit, w.ownsMap Tryz.prog 9 (plainElem Tryz.prog 2) M k D ∧ NumD D k
theorem NumM.kept {w w' : World} {M k : Nat} (h : NumM w M k) (hb : w'.heap[M]? = w.heap[M]?) : NumM w' M k := by
  obtain ⟨D, ⟨es, cl, h1, h2⟩, h3⟩ := h
  exact ⟨D, ⟨es, cl, hb.trans h1, h2⟩, h3⟩
theorem NumM.lt {w : World} {M k : Nat} (h : NumM w M k) : M < w.heap.size := by
  obtain ⟨D, h, _⟩ := h
  exact h.lt

set_option maxRecDepth 100000 in
set_option maxHeartbeats 1000000 in
theorem inumw_any (L k : Nat) (w : World) (hL : L ≤ 1000000) (hk : k = min L 301) :
    Calls Tryz.prog 52 #[.int .i64 L] w fun e w' => e = .returned (.map (some w.heap.size)) ∧ NumM w' w.heap.size k ∧ Below w.heap.size w w' := by
  have hmm := @run_makeMap Tryz.prog
  have hmin : min (L : Int) 301 = (k : Int) := by omega
  have hk3 : k ≤ 301 := by omega
  clear hk
  go_enter Tryz.func52, Tryz.ntmps52
  go_wp2
  go_loopw [8] (fun i wr => ∃ j : Nat, j ≤ k ∧ i = .int .i64 j ∧ Hid (NumM wr w.heap.size j) ∧ Below w.heap.size w wr)
    (fun i _ => k - (intOf i).toNat)
  case atStart => exact ⟨0, Nat.zero_le _, rfl, hide ⟨_, World.ownsMap_made _ _ _ _, NumD.zero⟩, (Below.refl _ _).alloc (Nat.le_refl _) _⟩
  case round =>
    obtain ⟨j, hj, rfl, hM, hnx⟩ := hrel
    by_cases hlt : j < k
    · have hjk : (j : Int) < (k : Int) := by omega
      have hkey := hide (key_num j (by omega))
      obtain ⟨sK, hsK⟩ : ∃ s, (⟨(numW j).toArray⟩ : ByteArray) = s := ⟨_, rfl⟩
      have cN := hide (inum_any j wr (by omega))
      rw [hsK] at cN hkey
      clear hsK
      go_wp2_with fail
      refine (unhide cN).mono ?_
      rintro e w1 ⟨rfl, k1⟩
      obtain ⟨D, hown, hD⟩ := unhide hM
      have hown1 : w1.ownsMap Tryz.prog 9 (plainElem Tryz.prog 2) w.heap.size j D := by
        obtain ⟨es, cl, h1, h2⟩ := hown
        exact ⟨es, cl, blk_below h1 k1, h2⟩
      have hn1 := laterB hnx k1
      clear hown k1 cN
      go_wp2_with (at_mapUpdate; refine wpList_mapUpdate_own _ rfl _ _ _ 94 rfl 9 2 lawS Tryz.underlying94 _ w.heap.size j _ rfl hown1 (by unfold maxLen; omega) _ _ _ rfl rfl (unhide hkey) _ [] (plainElem_int Tryz.underlying2 (WalkArith.wf_i64 (by omega))) ?_)
      intro w2 hown2 hgrow
      have R1 := hide (show NumM w2 w.heap.size (j + 1) from ⟨_, hown2, hD.step hown1.isMap (by omega)⟩)
      have R2 := hn1.grown hgrow hn1.size (fun q hq => by cases hq; exact Nat.le_refl _)
      clear hown2 hgrow hown1 hD hM hn1
      go_wp2
      go_roundw
      case rel => exact ⟨j + 1, by omega, by go_num, R1, R2⟩
      case measure => simp [intOf]; omega
    · have : j = k := by omega
      subst this
      have hjk : ¬ (j : Int) < (j : Int) := by omega
      go_wp2
      go_ret
      exact ⟨rfl, unhide hM, hnx⟩
end Go.Proofs.YtfhbmfndjbdhcaaGreatDoor
