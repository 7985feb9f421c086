/-
  For every lock, every minute and every list of bytes Open of the program answers as its model does; the list reads behind the call as it read before, and the answer owns its memory, behind another call too; no conditions.
-/
import Derived.Test.YtpdnceeniokemaaOp
import Derived.Test.YtpdnceeniokemaaLkB
namespace Go.Proofs.Ytpdnceeniokemaa
open Go.RowKit
set_option linter.unusedVariables false
set_option linter.unusedSimpArgs false

set_option maxHeartbeats 3200000 in
theorem lawOp {W : World} (f t s m : Int) (a : Option Addr) (ca : Nat) (l : List Int) (hl0 : l.length ≤ maxLen) (hy : Byt l) (ha : Bys W a l)  :
    Calls Try.prog 10 #[lkv f t s, .int .i64 m, .slice a l.length ca] W fun e w' => e = .returned (.bool true) ∧ Below W.heap.size W w' := by
  have ha' := hide ha
  have hy' := hide hy
  have hl1 := hide hl0
  clear ha hy
  unfold maxLen at hl0
  by_cases hbig : 1048576 < l.length
  · have g1 : decide ((1048576 : Int) < l.length) = true := by simp; omega
    go_enter Try.func10, Try.ntmps10
    go_wp2
    go_ret
    exact ⟨rfl, (Below.refl _ _).alloc (Nat.le_refl _) _⟩
  have g1 : decide ((1048576 : Int) < l.length) = false := by simp; omega
  have hl : l.length ≤ 1048576 := by omega
  clear hbig hl0
  have hB0 := hide ((Below.refl W.heap.size W).alloc (Nat.le_refl _) (.cells #[.int .i64 f, .int .i64 t, .int .i64 s] 63))
  have hq0 : (W.alloc (.cells #[.int .i64 f, .int .i64 t, .int .i64 s] 63)).heap[W.heap.size]? = some (.cells #[.int .i64 f, .int .i64 t, .int .i64 s] 63 (0, 0)) := heap_alloc_new W _
  have hQ := hide hq0
  have ha2 := hide ((unhide ha').below ((Below.refl _ _).alloc (Nat.le_refl _) (.cells #[.int .i64 f, .int .i64 t, .int .i64 s] 63)))
  clear ha' hq0
  have hz : W.heap.size < (W.alloc (.cells #[.int .i64 f, .int .i64 t, .int .i64 s] 63)).heap.size := by simp
  obtain ⟨L, hL⟩ : ∃ L, openOf f t s m l = L := ⟨_, rfl⟩
  have hLn : L.length ≤ 40000 := by rw [← hL]; exact open_len f t s m l
  have hL' := hide hL
  have hLb : L.length ≤ 1048576 := by omega
  clear hL
  obtain ⟨v, hv⟩ : ∃ v, openB f t s m l = v := ⟨_, rfl⟩
  have hv' := hide hv
  clear hv
  have hvv : (v != v) = false := by simp
  go_enter Try.func10, Try.ntmps10
  go_wp2_with fail
  refine (tolk_any f t s _).mono ?_
  rintro e w1 ⟨rfl, k1⟩
  generalize W.alloc (.cells #[.int .i64 f, .int .i64 t, .int .i64 s] 63) = W1 at *
  have H1 := hide k1
  clear k1
  go_wp2_with fail
  refine (tob_any a ca l _ hl ((unhide ha2).below (unhide H1))).mono ?_
  rintro e w2 ⟨B2, rfl, q2, n2, k2⟩
  have oa := hide (own_mono n2 (unhide H1).size)
  have H2 := hide (laterB (unhide H1) k2)
  clear H1
  clear k2 n2 q2
  go_wp2_with fail
  refine (sopen_any f t s m _ _ l _ (unhide hl1) (unhide hy') (bys_own (unhide oa))).mono ?_
  rintro e w3 hS
  rw [unhide hL', unhide hv'] at hS
  obtain ⟨G3, c3, rfl, gG3, oG3, k3⟩ := hS
  have Ow := hide (own_mono oG3 (unhide H2).size)
  have oa := hide (ownsRow_below (unhide oa) k3)
  have H3 := hide (laterB (unhide H2) k3)
  clear H2
  clear k3 oG3 gG3
  clear oa
  go_wp2_with fail
  refine (tob_any a ca l _ hl ((unhide ha2).below (unhide H3))).mono ?_
  rintro e w4 ⟨B4, rfl, q4, n4, k4⟩
  have ox := hide (own_mono n4 (unhide H3).size)
  have gB : G3 < B4 := by have := own_lt (unhide Ow); omega
  have Ow := hide (ownsRow_below (unhide Ow) k4)
  have H4 := hide (laterB (unhide H3) k4)
  clear H3
  clear k4 n4 q4
  obtain ⟨x50, x51, x52⟩ := blk3 ((((unhide H4).block W.heap.size hz)).trans (unhide hQ))
  go_wp2_with fail
  refine (tolk_any f t s _).mono ?_
  rintro e w5 ⟨rfl, k5⟩
  clear x50 x51 x52
  have Ow := hide (ownsRow_below (unhide Ow) k5)
  have ox := hide (ownsRow_below (unhide ox) k5)
  have H5 := hide (laterB (unhide H4) k5)
  clear H4
  clear k5
  go_wp2_with fail
  refine (iopen_any f t s m _ _ l _ (unhide hl1) (unhide hy') (bys_own (unhide ox))).mono ?_
  rintro e w6 hS
  rw [unhide hL', unhide hv'] at hS
  obtain ⟨G6, c6, rfl, gG6, oG6, k6⟩ := hS
  have Og := hide (own_mono oG6 (unhide H5).size)
  have bG : B4 < G6 := by have := own_lt (unhide ox); omega
  have Ow := hide (ownsRow_below (unhide Ow) k6)
  have ox := hide (ownsRow_below (unhide ox) k6)
  have H6 := hide (laterB (unhide H5) k6)
  clear H5
  clear k6 oG6 gG6
  go_wp2_with fail
  refine (eqb_any _ _ _ _ L _ hLb (bys_own (unhide Og)) (bys_own (unhide Ow))).mono ?_
  rintro e w7 ⟨rfl, k7⟩
  have Ow := hide (ownsRow_below (unhide Ow) k7)
  have ox := hide (ownsRow_below (unhide ox) k7)
  have Og := hide (ownsRow_below (unhide Og) k7)
  have H7 := hide (laterB (unhide H6) k7)
  clear H6
  clear k7
  go_wp2_with fail
  refine (tob_any a ca l _ hl ((unhide ha2).below (unhide H7))).mono ?_
  rintro e w8 ⟨B8, rfl, q8, n8, k8⟩
  have od := hide (own_mono n8 (unhide H7).size)
  have Ow := hide (ownsRow_below (unhide Ow) k8)
  have ox := hide (ownsRow_below (unhide ox) k8)
  have Og := hide (ownsRow_below (unhide Og) k8)
  have H8 := hide (laterB (unhide H7) k8)
  clear H7
  clear k8 n8 q8
  go_wp2_with fail
  refine (eqb_any _ _ _ _ l _ hl (bys_own (unhide ox)) (bys_own (unhide od))).mono ?_
  rintro e w9 ⟨rfl, k9⟩
  have Ow := hide (ownsRow_below (unhide Ow) k9)
  have ox := hide (ownsRow_below (unhide ox) k9)
  have Og := hide (ownsRow_below (unhide Og) k9)
  have od := hide (ownsRow_below (unhide od) k9)
  have H9 := hide (laterB (unhide H8) k9)
  clear H8
  clear k9
  clear od
  go_wp2_with fail
  refine (markb_any _ B4 l.length _ 1 _ _ (by omega) (by omega) (by omega) (unhide ox)).mono ?_
  rintro e w10 ⟨rfl, _, k10⟩
  have Og := hide (own_kept (unhide Og) k10 (by omega))
  have Ow := hide (own_kept (unhide Ow) k10 (by omega))
  have H10 := hide (below_grown (unhide H9) k10 (own_ge (unhide ox)))
  have hk0 : decide ((1 : Int) + l.length < 0) = false := by simp; omega
  clear k10 H9 ox
  go_wp2_with fail
  refine (eqb_any _ _ _ _ L _ hLb (bys_own (unhide Og)) (bys_own (unhide Ow))).mono ?_
  rintro e w11 ⟨rfl, k11⟩
  have Ow := hide (ownsRow_below (unhide Ow) k11)
  have Og := hide (ownsRow_below (unhide Og) k11)
  have H11 := hide (laterB (unhide H10) k11)
  clear H10
  clear k11
  go_wp2_with fail
  refine (markb_any _ G6 L.length _ 1 _ _ (by omega) (by omega) (by omega) (unhide Og)).mono ?_
  rintro e w12 ⟨rfl, ⟨ys, oy, my⟩, k12⟩
  have Oy := hide oy
  have My := hide my
  have Ow := hide (own_kept (unhide Ow) k12 (by omega))
  have H12 := hide (below_grown (unhide H11) k12 (own_ge (unhide Og)))
  clear k12 H11 Og oy my
  go_wp2_with fail
  refine (heldb_any _ G6 L.length _ 1 ys _ (by omega) (by omega) (by omega) (unhide Oy) (unhide My)).mono ?_
  rintro e w13 ⟨rfl, hw0⟩
  have hw1 := hw0.symm
  subst hw1
  have hq0 : decide ((1 : Int) + L.length < 0) = false := by simp; omega
  have hq1 : (((1 : Int) + L.length) != (1 + L.length)) = false := by simp
  obtain ⟨x140, x141, x142⟩ := blk3 ((((unhide H12).block W.heap.size hz)).trans (unhide hQ))
  go_wp2_with fail
  refine (tolk_any f t s _).mono ?_
  rintro e w14 ⟨rfl, k14⟩
  clear x140 x141 x142
  have Ow := hide (ownsRow_below (unhide Ow) k14)
  have Oy := hide (ownsRow_below (unhide Oy) k14)
  have H14 := hide (laterB (unhide H12) k14)
  clear H12
  clear k14
  go_wp2_with fail
  refine (tob_any a ca l _ hl ((unhide ha2).below (unhide H14))).mono ?_
  rintro e w15 ⟨B15, rfl, q15, n15, k15⟩
  have oz := hide (own_mono n15 (unhide H14).size)
  have Ow := hide (ownsRow_below (unhide Ow) k15)
  have Oy := hide (ownsRow_below (unhide Oy) k15)
  have H15 := hide (laterB (unhide H14) k15)
  clear H14
  clear k15 n15 q15
  go_wp2_with fail
  refine (iopen_any f t s m _ _ l _ (unhide hl1) (unhide hy') (bys_own (unhide oz))).mono ?_
  rintro e w16 hS
  rw [unhide hL', unhide hv'] at hS
  obtain ⟨G16, c16, rfl, gG16, oG16, k16⟩ := hS
  have Oh := hide (own_mono oG16 (unhide H15).size)
  have Ow := hide (ownsRow_below (unhide Ow) k16)
  have Oy := hide (ownsRow_below (unhide Oy) k16)
  have oz := hide (ownsRow_below (unhide oz) k16)
  have H16 := hide (laterB (unhide H15) k16)
  clear H15
  clear k16 oG16 gG16
  clear oz
  go_wp2_with fail
  refine (eqb_any _ _ _ _ L _ hLb (bys_own (unhide Oh)) (bys_own (unhide Ow))).mono ?_
  rintro e w17 ⟨rfl, k17⟩
  have Ow := hide (ownsRow_below (unhide Ow) k17)
  have Oy := hide (ownsRow_below (unhide Oy) k17)
  have Oh := hide (ownsRow_below (unhide Oh) k17)
  have H17 := hide (laterB (unhide H16) k17)
  clear H16
  clear k17
  go_wp2_with fail
  refine (heldb_any _ G6 L.length _ 1 ys _ (by omega) (by omega) (by omega) (unhide Oy) (unhide My)).mono ?_
  rintro e w18 ⟨rfl, hw0⟩
  have hw1 := hw0.symm
  subst hw1
  go_wp2
  go_ret
  exact ⟨rfl, (unhide hB0).trans ((unhide H17).mono (unhide hB0).size)⟩

end Go.Proofs.Ytpdnceeniokemaa
