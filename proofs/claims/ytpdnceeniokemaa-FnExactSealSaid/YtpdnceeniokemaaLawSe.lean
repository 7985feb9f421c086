/-
  For every list of bytes and every secret Seal of the program answers as its model does; the list reads behind the call as it read before, and the answer owns its memory, behind another call too; no conditions.
-/
import Derived.Test.YtpdnceeniokemaaSl
namespace Go.Proofs.Ytpdnceeniokemaa
open Go.RowKit
set_option linter.unusedVariables false
set_option linter.unusedSimpArgs false

set_option maxHeartbeats 3200000 in
theorem lawSe {W : World} (a : Option Addr) (ca : Nat) (l : List Int) (hl0 : l.length ≤ maxLen) (hy : Byt l) (ha : Bys W a l) (s : Int) :
    Calls Try.prog 9 #[.slice a l.length ca, .int .i64 s] W fun e w' => e = .returned (.bool true) ∧ Below W.heap.size W w' := by
  have ha' := hide ha
  have hy' := hide hy
  have hl1 := hide hl0
  clear ha hy
  unfold maxLen at hl0
  by_cases hbig : 1048576 < l.length
  · have g1 : decide ((1048576 : Int) < l.length) = true := by simp; omega
    go_enter Try.func9, Try.ntmps9
    go_wp2
    go_ret
    exact ⟨rfl, Below.refl _ _⟩
  have g1 : decide ((1048576 : Int) < l.length) = false := by simp; omega
  have hl : l.length ≤ 1048576 := by omega
  clear hbig hl0
  obtain ⟨L, hL⟩ : ∃ L, sealOf l s = L := ⟨_, rfl⟩
  have hLn : L.length ≤ 40000 := by rw [← hL]; exact seal_len l s
  have hL' := hide hL
  have hLb : L.length ≤ 1048576 := by omega
  clear hL
  go_enter Try.func9, Try.ntmps9
  go_wp2_with fail
  refine (tob_any a ca l _ hl (unhide ha')).mono ?_
  rintro e w1 ⟨B1, rfl, q1, n1, k1⟩
  have oa := hide (own_mono n1 (Nat.le_refl _))
  have H1 := hide k1
  clear k1 n1 q1
  go_wp2_with fail
  refine (sseal_any _ _ l s _ (unhide hl1) (unhide hy') (bys_own (unhide oa))).mono ?_
  rintro e w2 hS
  rw [unhide hL'] at hS
  obtain ⟨G2, c2, rfl, gG2, oG2, k2⟩ := hS
  have Ow := hide (own_mono oG2 (unhide H1).size)
  have oa := hide (ownsRow_below (unhide oa) k2)
  have H2 := hide (laterB (unhide H1) k2)
  clear H1
  clear k2 oG2 gG2
  clear oa
  go_wp2_with fail
  refine (tob_any a ca l _ hl ((unhide ha').below (unhide H2))).mono ?_
  rintro e w3 ⟨B3, rfl, q3, n3, k3⟩
  have ox := hide (own_mono n3 (unhide H2).size)
  have gB : G2 < B3 := by have := own_lt (unhide Ow); omega
  have Ow := hide (ownsRow_below (unhide Ow) k3)
  have H3 := hide (laterB (unhide H2) k3)
  clear H2
  clear k3 n3 q3
  go_wp2_with fail
  refine (iseal_any _ _ l s _ (unhide hl1) (unhide hy') (bys_own (unhide ox))).mono ?_
  rintro e w4 hS
  rw [unhide hL'] at hS
  obtain ⟨G4, c4, rfl, gG4, oG4, k4⟩ := hS
  have Og := hide (own_mono oG4 (unhide H3).size)
  have bG : B3 < G4 := by have := own_lt (unhide ox); omega
  have Ow := hide (ownsRow_below (unhide Ow) k4)
  have ox := hide (ownsRow_below (unhide ox) k4)
  have H4 := hide (laterB (unhide H3) k4)
  clear H3
  clear k4 oG4 gG4
  go_wp2_with fail
  refine (eqb_any _ _ _ _ L _ hLb (bys_own (unhide Og)) (bys_own (unhide Ow))).mono ?_
  rintro e w5 ⟨rfl, k5⟩
  have Ow := hide (ownsRow_below (unhide Ow) k5)
  have ox := hide (ownsRow_below (unhide ox) k5)
  have Og := hide (ownsRow_below (unhide Og) k5)
  have H5 := hide (laterB (unhide H4) k5)
  clear H4
  clear k5
  go_wp2_with fail
  refine (tob_any a ca l _ hl ((unhide ha').below (unhide H5))).mono ?_
  rintro e w6 ⟨B6, rfl, q6, n6, k6⟩
  have od := hide (own_mono n6 (unhide H5).size)
  have Ow := hide (ownsRow_below (unhide Ow) k6)
  have ox := hide (ownsRow_below (unhide ox) k6)
  have Og := hide (ownsRow_below (unhide Og) k6)
  have H6 := hide (laterB (unhide H5) k6)
  clear H5
  clear k6 n6 q6
  go_wp2_with fail
  refine (eqb_any _ _ _ _ l _ hl (bys_own (unhide ox)) (bys_own (unhide od))).mono ?_
  rintro e w7 ⟨rfl, k7⟩
  have Ow := hide (ownsRow_below (unhide Ow) k7)
  have ox := hide (ownsRow_below (unhide ox) k7)
  have Og := hide (ownsRow_below (unhide Og) k7)
  have od := hide (ownsRow_below (unhide od) k7)
  have H7 := hide (laterB (unhide H6) k7)
  clear H6
  clear k7
  clear od
  go_wp2_with fail
  refine (markb_any _ B3 l.length _ 1 _ _ (by omega) (by omega) (by omega) (unhide ox)).mono ?_
  rintro e w8 ⟨rfl, _, k8⟩
  have Og := hide (own_kept (unhide Og) k8 (by omega))
  have Ow := hide (own_kept (unhide Ow) k8 (by omega))
  have H8 := hide (below_grown (unhide H7) k8 (own_ge (unhide ox)))
  have hk0 : decide ((1 : Int) + l.length < 0) = false := by simp; omega
  clear k8 H7 ox
  go_wp2_with fail
  refine (eqb_any _ _ _ _ L _ hLb (bys_own (unhide Og)) (bys_own (unhide Ow))).mono ?_
  rintro e w9 ⟨rfl, k9⟩
  have Ow := hide (ownsRow_below (unhide Ow) k9)
  have Og := hide (ownsRow_below (unhide Og) k9)
  have H9 := hide (laterB (unhide H8) k9)
  clear H8
  clear k9
  go_wp2_with fail
  refine (markb_any _ G4 L.length _ 1 _ _ (by omega) (by omega) (by omega) (unhide Og)).mono ?_
  rintro e w10 ⟨rfl, ⟨ys, oy, my⟩, k10⟩
  have Oy := hide oy
  have My := hide my
  have Ow := hide (own_kept (unhide Ow) k10 (by omega))
  have H10 := hide (below_grown (unhide H9) k10 (own_ge (unhide Og)))
  clear k10 H9 Og oy my
  go_wp2_with fail
  refine (heldb_any _ G4 L.length _ 1 ys _ (by omega) (by omega) (by omega) (unhide Oy) (unhide My)).mono ?_
  rintro e w11 ⟨rfl, hw0⟩
  have hw1 := hw0.symm
  subst hw1
  have hq0 : decide ((1 : Int) + L.length < 0) = false := by simp; omega
  have hq1 : (((1 : Int) + L.length) != (1 + L.length)) = false := by simp
  go_wp2_with fail
  refine (tob_any a ca l _ hl ((unhide ha').below (unhide H10))).mono ?_
  rintro e w12 ⟨B12, rfl, q12, n12, k12⟩
  have oz := hide (own_mono n12 (unhide H10).size)
  have Ow := hide (ownsRow_below (unhide Ow) k12)
  have Oy := hide (ownsRow_below (unhide Oy) k12)
  have H12 := hide (laterB (unhide H10) k12)
  clear H10
  clear k12 n12 q12
  go_wp2_with fail
  refine (iseal_any _ _ l s _ (unhide hl1) (unhide hy') (bys_own (unhide oz))).mono ?_
  rintro e w13 hS
  rw [unhide hL'] at hS
  obtain ⟨G13, c13, rfl, gG13, oG13, k13⟩ := hS
  have Oh := hide (own_mono oG13 (unhide H12).size)
  have Ow := hide (ownsRow_below (unhide Ow) k13)
  have Oy := hide (ownsRow_below (unhide Oy) k13)
  have oz := hide (ownsRow_below (unhide oz) k13)
  have H13 := hide (laterB (unhide H12) k13)
  clear H12
  clear k13 oG13 gG13
  clear oz
  go_wp2_with fail
  refine (eqb_any _ _ _ _ L _ hLb (bys_own (unhide Oh)) (bys_own (unhide Ow))).mono ?_
  rintro e w14 ⟨rfl, k14⟩
  have Ow := hide (ownsRow_below (unhide Ow) k14)
  have Oy := hide (ownsRow_below (unhide Oy) k14)
  have Oh := hide (ownsRow_below (unhide Oh) k14)
  have H14 := hide (laterB (unhide H13) k14)
  clear H13
  clear k14
  go_wp2_with fail
  refine (heldb_any _ G4 L.length _ 1 ys _ (by omega) (by omega) (by omega) (unhide Oy) (unhide My)).mono ?_
  rintro e w15 ⟨rfl, hw0⟩
  have hw1 := hw0.symm
  subst hw1
  go_wp2
  go_ret
  exact ⟨rfl, unhide H14⟩

end Go.Proofs.Ytpdnceeniokemaa
