/-
  For every list of clips, every number and every clip Overwrite of the program answers as its model does, its answer is memory of its own, and the law's argument reads behind the call as it read before; no conditions.
-/
import Derived.Test.YtnmahojdaodlgaaLwB
import Derived.Test.YtnmahojdaodlgaaFacOvr
import Derived.Test.YtnmahojdaodlgaaSEd2
namespace Go.Proofs.Ytnmahojdaodlgaa
open Go.RowKit
set_option linter.unusedVariables false
set_option linter.unusedSimpArgs false

set_option maxHeartbeats 3200000 in
theorem lawOvr {W : World} (a : Option Addr) (ca : Nat) (l : List Kl) (hl0 : l.length ≤ maxLen) (ha : Kls W a l) (t c1 c2 c3 : Int) :
    Calls Try.prog 11 #[.slice a l.length ca, .int .i64 t, .agg #[.int .i64 c1, .int .i64 c2, .int .i64 c3]] W fun e w' => e = .returned (.bool true) ∧ Below W.heap.size W w' := by
  obtain ⟨V, hV⟩ : ∃ V, V = W.alloc (.cells #[.int .i64 c1, .int .i64 c2, .int .i64 c3] 45) := ⟨_, rfl⟩
  have hWV : Below W.heap.size W V := by rw [hV]; exact (Below.refl _ _).alloc (Nat.le_refl _) _
  have d0 : V.cell? ⟨W.heap.size, 0, none⟩ = some (.int .i64 c1) := by rw [hV]; simp [go_sem]
  have d1 : V.cell? ⟨W.heap.size, 1, none⟩ = some (.int .i64 c2) := by rw [hV]; simp [go_sem]
  have d2 : V.cell? ⟨W.heap.size, 2, none⟩ = some (.int .i64 c3) := by rw [hV]; simp [go_sem]
  have dd := hide (show V.cell? ⟨W.heap.size, 0, none⟩ = some (.int .i64 c1) ∧ V.cell? ⟨W.heap.size, 1, none⟩ = some (.int .i64 c2) ∧ V.cell? ⟨W.heap.size, 2, none⟩ = some (.int .i64 c3) ∧ Below V.heap.size V V from ⟨d0, d1, d2, Below.refl _ _⟩)
  have ha' := hide (ha.below hWV)
  have hV' := hide hV
  have hWV' := hide hWV
  clear ha hV hWV d0 d1 d2
  go_enter Try.func11, Try.ntmps11
  go_wp2_with fail
  rw [← unhide hV']
  refine (szk_any a l.length ca V hl0).mono ?_
  rintro e w0 ⟨r, rfl, hr, hw0⟩
  have hw1 := hw0.symm
  subst hw1
  rcases hr with rfl | ⟨hr0, hl⟩
  · go_wp2
    go_ret
    exact ⟨rfl, unhide hWV'⟩
  have hr1 : decide (r < 0) = false := by simp; omega
  clear hl0
  obtain ⟨R, hR⟩ : ∃ R, R = overS l t (c1, c2, c3) := ⟨_, rfl⟩
  have hR' := hide hR
  obtain ⟨L, hL⟩ : ∃ L, L = outL R := ⟨_, rfl⟩
  obtain ⟨v, hv⟩ : ∃ v, v = R.isSome := ⟨_, rfl⟩
  have hLl : L.length ≤ 300 := by rw [hL, hR]; exact outl_edit
  have hL' := hide hL
  have hv' := hide hv
  have hvv : (v != v) = false := by simp
  have hmx : l.length ≤ maxLen := by unfold maxLen; omega
  clear hR hL hv
  go_wp2_with fail
  go_region_held3 (fun w' => w'.cell? ⟨W.heap.size, 0, none⟩ = some (.int .i64 c1) ∧ w'.cell? ⟨W.heap.size, 1, none⟩ = some (.int .i64 c2) ∧ w'.cell? ⟨W.heap.size, 2, none⟩ = some (.int .i64 c3) ∧ Below V.heap.size V w')
    (first | (refine keep3 ?_ hbA; assumption) | (refine keep3 ?_ hbB; assumption) | (refine keep3 ?_ hbC; assumption) | (exact keep3d (unhide dd)))
    (first
      | (go_at_call 35; refine (tok_any a ca l V.drew hl (show Kls V.drew a l from unhide ha')).mono ?_; rintro e wA ⟨BA, rfl, qA, nA, hbA⟩)
      | (go_at_call 37; refine (tok1_any c1 c2 c3 _).mono ?_; rintro e wB ⟨rfl, hbB⟩)
      | (go_at_call 29; refine (sover_any (some ⟨BA, 0, none⟩) _ l t c1 c2 c3 _ hmx (kls_own (ownsRow_below nA hbB))).mono ?_; rintro e wC hE; rw [← unhide hR'] at hE; obtain ⟨gC, cC, rfl, qC, nC, hbC⟩ := edR_let (unhide hL') (unhide hv') hE; clear hE))
  rename_i hH
  have ow := hide (own_mono nC (Nat.zero_le _))
  have H2 := hide hH.2.2.2
  have g2l0 := own_lt nC
  clear nC hbC hbB hbA nA hH qC qA
  go_wp2_with fail
  refine (tok_any a ca l _ hl ((unhide ha').below (unhide H2))).mono ?_
  rintro e w3 ⟨B3, rfl, q3, n3, k3⟩
  have g2l := own_lt (unhide ow)
  have g23 : gC < B3 := by omega
  have WB3 : V.heap.size ≤ B3 := by have := (unhide H2).size; omega
  have ow := hide (ownsRow_below (unhide ow) k3)
  have ox := hide (own_mono n3 (Nat.zero_le _))
  have H3 := hide (laterB (unhide H2) k3)
  have e0 := cell_later (unhide H3) (unhide dd).1
  have e1 := cell_later (unhide H3) (unhide dd).2.1
  have e2 := cell_later (unhide H3) (unhide dd).2.2.1
  clear k3 n3 q3 H2 g2l g2l0
  go_wp2_with fail
  refine (tok1_any c1 c2 c3 _).mono ?_
  rintro e w35 ⟨rfl, k35⟩
  have ow := hide (ownsRow_below (unhide ow) k35)
  have ox := hide (ownsRow_below (unhide ox) k35)
  have H35 := hide (laterB (unhide H3) k35)
  clear k35 H3 e0 e1 e2
  go_wp2_with fail
  refine (iOvr_any B3 0 _ l t c1 c2 c3 _ hmx (kls_own (unhide ox))).mono ?_
  rintro e w4 hE
  rw [← unhide hR'] at hE
  obtain ⟨g4, c4, rfl, q4, n4, k4⟩ := edR_let (unhide hL') (unhide hv') hE
  clear hE
  have B3lt := own_lt (unhide ox)
  have g34 : B3 < g4 := by omega
  have ow := hide (ownsRow_below (unhide ow) k4)
  have ox := hide (ownsRow_below (unhide ox) k4)
  have og := hide (own_mono n4 (Nat.zero_le _))
  have H4 := hide (laterB (unhide H35) k4)
  clear k4 n4 q4 H35 B3lt
  go_wp2_with fail
  refine (eqks_any _ _ _ _ L _ (by omega) (kls_own (unhide og)) (kls_own (unhide ow))).mono ?_
  rintro e w5 ⟨rfl, k5⟩
  have ow := hide (ownsRow_below (unhide ow) k5)
  have ox := hide (ownsRow_below (unhide ox) k5)
  have og := hide (ownsRow_below (unhide og) k5)
  have H5 := hide (laterB (unhide H4) k5)
  clear k5 H4
  go_wp2_with fail
  refine (tok_any a ca l _ hl ((unhide ha').below (unhide H5))).mono ?_
  rintro e w6 ⟨B6, rfl, q6, n6, k6⟩
  have ow := hide (ownsRow_below (unhide ow) k6)
  have ox := hide (ownsRow_below (unhide ox) k6)
  have og := hide (ownsRow_below (unhide og) k6)
  have o6 := hide (own_mono n6 (Nat.zero_le _))
  have H6 := hide (laterB (unhide H5) k6)
  clear k6 H5 n6 q6
  go_wp2_with fail
  refine (eqks_any _ _ _ _ l _ hl (kls_own (unhide ox)) (kls_own (unhide o6))).mono ?_
  rintro e w7 ⟨rfl, k7⟩
  have ow := hide (ownsRow_below (unhide ow) k7)
  have ox := hide (ownsRow_below (unhide ox) k7)
  have og := hide (ownsRow_below (unhide og) k7)
  have H7 := hide (laterB (unhide H6) k7)
  clear k7 H6 o6
  go_wp2_with fail
  refine (markk_any 0 B3 l.length l.length 1 _ _ (by omega) (by omega) (by omega) (unhide ox)).mono ?_
  rintro e w8 ⟨rfl, _, k8⟩
  have ow := hide (own_kept (unhide ow) k8 (by omega))
  have og := hide (own_kept (unhide og) k8 (by omega))
  have H8 := hide (below_grown (unhide H7) k8 WB3)
  have t1 : decide ((1 : Int) + (l.length : Int) * 3 < 0) = false := by simp; omega
  clear k8 H7 ox
  go_wp2_with fail
  refine (eqks_any _ _ _ _ L _ (by omega) (kls_own (unhide og)) (kls_own (unhide ow))).mono ?_
  rintro e w9 ⟨rfl, k9⟩
  have ow := hide (ownsRow_below (unhide ow) k9)
  have og := hide (ownsRow_below (unhide og) k9)
  have H9 := hide (laterB (unhide H8) k9)
  clear k9 H8
  go_wp2_with fail
  refine (markk_any 0 g4 L.length c4 1 _ _ (by omega) (by omega) (by omega) (unhide og)).mono ?_
  rintro e w10 ⟨rfl, ⟨ys, hy, hm⟩, k10⟩
  have ow := hide (own_kept (unhide ow) k10 (by omega))
  have og := hide hy
  have hm' := hide hm
  have H10 := hide (below_grown (unhide H9) k10 (by omega))
  clear k10 H9 hy hm
  go_wp2_with fail
  refine (heldk_any 0 g4 L.length c4 1 ys _ (by omega) (by omega) (by omega) (unhide og) (unhide hm')).mono ?_
  rintro e w11 ⟨rfl, rfl⟩
  have t2 : decide ((1 : Int) + (L.length : Int) * 3 < 0) = false := by simp; omega
  obtain ⟨X, hX⟩ : ∃ X, X = w11 := ⟨_, rfl⟩
  have dx := hide (show w11.cell? ⟨W.heap.size, 0, none⟩ = some (.int .i64 c1) ∧ w11.cell? ⟨W.heap.size, 1, none⟩ = some (.int .i64 c2) ∧ w11.cell? ⟨W.heap.size, 2, none⟩ = some (.int .i64 c3) ∧ Below V.heap.size V w11 from keep3 (unhide dd) (unhide H10))
  have KX := hide ((unhide ha').below (unhide H10))
  have ow2 := ow
  have og2 := og
  clear ow og hX X
  go_wp2_with fail
  go_region_held3 (fun w' => w'.cell? ⟨W.heap.size, 0, none⟩ = some (.int .i64 c1) ∧ w'.cell? ⟨W.heap.size, 1, none⟩ = some (.int .i64 c2) ∧ w'.cell? ⟨W.heap.size, 2, none⟩ = some (.int .i64 c3) ∧ Below V.heap.size V w')
    (first | (refine keep3 ?_ hbA; assumption) | (refine keep3 ?_ hbB; assumption) | (refine keep3 ?_ hbC; assumption) | (exact keep3d (unhide dx)))
    (first
      | (go_at_call 35; refine (tok_any a ca l w11.drew hl (show Kls w11.drew a l from unhide KX)).mono ?_; rintro e wA ⟨BA, rfl, qA, nA, hbA⟩)
      | (go_at_call 37; refine (tok1_any c1 c2 c3 _).mono ?_; rintro e wB ⟨rfl, hbB⟩)
      | (go_at_call 28; refine (iOvr_any BA 0 _ l t c1 c2 c3 _ hmx (kls_own (ownsRow_below nA hbB))).mono ?_; rintro e wC hE; rw [← unhide hR'] at hE; obtain ⟨gC, cC, rfl, qC, nC, hbC⟩ := edR_let (unhide hL') (unhide hv') hE; clear hE))
  rename_i hH
  have kAB : Below w11.heap.size w11 wC := Below.trans (b := w11.drew) ((Below.refl w11.heap.size w11).drew) (laterB (laterB hbA hbB) hbC)
  have ow := hide (ownsRow_below (unhide ow2) kAB)
  have og := hide (ownsRow_below (unhide og2) kAB)
  have oh := hide (own_mono nC (Nat.zero_le _))
  have H13 := hide hH.2.2.2
  clear nC hbC hbB hbA nA hH qC qA kAB ow2 og2 H10
  go_wp2_with fail
  refine (eqks_any _ _ _ _ L _ (by omega) (kls_own (unhide oh)) (kls_own (unhide ow))).mono ?_
  rintro e w14 ⟨rfl, k14⟩
  have og := hide (ownsRow_below (unhide og) k14)
  have H14 := hide (laterB (unhide H13) k14)
  clear k14 H13 ow oh
  go_wp2_with fail
  refine (heldk_any 0 g4 L.length c4 1 ys _ (by omega) (by omega) (by omega) (unhide og) (unhide hm')).mono ?_
  rintro e w15 ⟨rfl, rfl⟩
  go_wp2
  go_ret
  exact ⟨rfl, laterB (unhide hWV') (unhide H14)⟩

end Go.Proofs.Ytnmahojdaodlgaa
