/-
  For every picture and every move Moved of the program answers as its model does, its answer is memory of its own, and the law's argument reads behind the call as it read before; no conditions.
-/
import Derived.Test.YteabmbggljpmoaaMvS
namespace Go.Proofs.Yteabmbggljpmoaa
open Go.RowKit
set_option linter.unusedVariables false
set_option linter.unusedSimpArgs false

set_option maxHeartbeats 3200000 in
theorem lawMoved {W : World} (p q : Int) (a : Option Addr) (ca : Nat) (l : List Kl) (hl0 : l.length ≤ maxLen) (ha : Kls W a l) (dx dy : Int) :
    Calls Try.prog 13 #[.int .i64 p, .int .i64 q, .slice a l.length ca, .int .i64 dx, .int .i64 dy] W fun e w' => e = .returned (.bool true) ∧ Below W.heap.size W w' := by
  have ha' := hide ha
  clear ha
  go_enter Try.func13, Try.ntmps13
  go_wp2_with fail
  refine (szk_any a l.length ca W hl0).mono ?_
  rintro e w0 ⟨r, rfl, hr, hw0⟩
  have hw1 := hw0.symm
  subst hw1
  rcases hr with rfl | ⟨hr0, hl⟩
  · go_wp2
    go_ret
    exact ⟨rfl, Below.refl _ _⟩
  have hr1 : decide (r < 0) = false := by simp; omega
  clear hl0
  obtain ⟨L, hL⟩ : ∃ L, L = movedOf p q l dx dy := ⟨_, rfl⟩
  have hLl : L.length ≤ 1048576 := by rw [hL]; exact Nat.le_trans (moved_len _ _ _ _ _) hl
  have hL' := hide hL
  have hmx : l.length ≤ maxLen := by unfold maxLen; omega
  clear hL
  go_wp2_with fail
  refine (tok_any a ca l _ hl (unhide ha')).mono ?_
  rintro e w1 ⟨B1, rfl, q1, n1, k1⟩
  have n1' := hide n1
  have H1 := hide k1
  clear k1 n1 q1
  go_wp2_with fail
  refine (smv_any p q (some ⟨B1, 0, none⟩) _ l dx dy _ hmx (kls_own (unhide n1'))).mono ?_
  rintro e w2 hE
  rw [← unhide hL'] at hE
  obtain ⟨g2, c2, rfl, q2, n2, k2⟩ := hE
  have ow := hide (own_mono n2 (Nat.zero_le _))
  have H2 := hide (laterB (unhide H1) k2)
  clear k2 n2 q2 H1 n1'
  go_wp2_with fail
  refine (tok_any a ca l _ hl ((unhide ha').below (unhide H2))).mono ?_
  rintro e w3 ⟨B3, rfl, q3, n3, k3⟩
  have g2lt := own_lt (unhide ow)
  have g23 : g2 < B3 := by omega
  have WB3 : W.heap.size ≤ B3 := by have := (unhide H2).size; omega
  have ow := hide (ownsRow_below (unhide ow) k3)
  have ox := hide (own_mono n3 (Nat.zero_le _))
  have H3 := hide (laterB (unhide H2) k3)
  clear k3 n3 q3 H2 g2lt
  go_wp2_with fail
  refine (imv_any p q (some ⟨B3, 0, none⟩) _ l dx dy _ hmx (kls_own (unhide ox))).mono ?_
  rintro e w4 hE
  rw [← unhide hL'] at hE
  obtain ⟨g4, c4, rfl, q4, n4, k4⟩ := hE
  have B3lt := own_lt (unhide ox)
  have g34 : B3 < g4 := by omega
  have ow := hide (ownsRow_below (unhide ow) k4)
  have ox := hide (ownsRow_below (unhide ox) k4)
  have og := hide (own_mono n4 (Nat.zero_le _))
  have H4 := hide (laterB (unhide H3) k4)
  clear k4 n4 q4 H3 B3lt
  go_wp2_with fail
  refine (eqks_any _ _ _ _ L _ (by omega) (kls_own (unhide og)) (kls_own (unhide ow))).mono ?_
  rintro e w5 ⟨rfl, k5⟩
  have ow := hide (ownsRow_below (unhide ow) k5)
  have ox := hide (ownsRow_below (unhide ox) k5)
  have og := hide (ownsRow_below (unhide og) k5)
  have H5 := hide (laterB (unhide H4) k5)
  clear k5 H4
  go_wp2_with fail
  refine (tok_any a ca l _ hl ((unhide ha').below (unhide H5))).mono ?_
  rintro e w6 ⟨B6, rfl, q6, n6, k6⟩
  have ow := hide (ownsRow_below (unhide ow) k6)
  have ox := hide (ownsRow_below (unhide ox) k6)
  have og := hide (ownsRow_below (unhide og) k6)
  have o6 := hide (own_mono n6 (Nat.zero_le _))
  have H6 := hide (laterB (unhide H5) k6)
  clear k6 H5 n6 q6
  go_wp2_with fail
  refine (eqks_any _ _ _ _ l _ hl (kls_own (unhide ox)) (kls_own (unhide o6))).mono ?_
  rintro e w7 ⟨rfl, k7⟩
  have ow := hide (ownsRow_below (unhide ow) k7)
  have ox := hide (ownsRow_below (unhide ox) k7)
  have og := hide (ownsRow_below (unhide og) k7)
  have H7 := hide (laterB (unhide H6) k7)
  clear k7 H6 o6
  go_wp2_with fail
  refine (markk_any 0 B3 l.length l.length 1 _ _ (by omega) (by omega) (by omega) (unhide ox)).mono ?_
  rintro e w8 ⟨rfl, _, k8⟩
  have ow := hide (own_kept (unhide ow) k8 (by omega))
  have og := hide (own_kept (unhide og) k8 (by omega))
  have H8 := hide (below_grown (unhide H7) k8 WB3)
  have t1 : decide ((1 : Int) + (l.length : Int) * 4 < 0) = false := by simp; omega
  clear k8 H7 ox
  go_wp2_with fail
  refine (eqks_any _ _ _ _ L _ (by omega) (kls_own (unhide og)) (kls_own (unhide ow))).mono ?_
  rintro e w9 ⟨rfl, k9⟩
  have ow := hide (ownsRow_below (unhide ow) k9)
  have og := hide (ownsRow_below (unhide og) k9)
  have H9 := hide (laterB (unhide H8) k9)
  clear k9 H8
  go_wp2_with fail
  refine (markk_any 0 g4 L.length c4 1 _ _ (by omega) (by omega) (by omega) (unhide og)).mono ?_
  rintro e w10 ⟨rfl, ⟨ys, hy, hm⟩, k10⟩
  have ow := hide (own_kept (unhide ow) k10 (by omega))
  have og := hide hy
  have hm' := hide hm
  have H10 := hide (below_grown (unhide H9) k10 (by omega))
  clear k10 H9 hy hm
  go_wp2_with fail
  refine (heldk_any 0 g4 L.length c4 1 ys _ (by omega) (by omega) (by omega) (unhide og) (unhide hm')).mono ?_
  rintro e w11 ⟨rfl, rfl⟩
  have t2 : decide ((1 : Int) + (L.length : Int) * 4 < 0) = false := by simp; omega
  go_wp2_with fail
  refine (tok_any a ca l _ hl ((unhide ha').below (unhide H10))).mono ?_
  rintro e w12 ⟨B12, rfl, q12, n12, k12⟩
  have ow := hide (ownsRow_below (unhide ow) k12)
  have og := hide (ownsRow_below (unhide og) k12)
  have o12 := hide (own_mono n12 (Nat.zero_le _))
  have H12 := hide (laterB (unhide H10) k12)
  clear k12 H10 n12 q12
  go_wp2_with fail
  refine (imv_any p q (some ⟨B12, 0, none⟩) _ l dx dy _ hmx (kls_own (unhide o12))).mono ?_
  rintro e w13 hE
  rw [← unhide hL'] at hE
  obtain ⟨g13, c13, rfl, q13, n13, k13⟩ := hE
  have ow := hide (ownsRow_below (unhide ow) k13)
  have og := hide (ownsRow_below (unhide og) k13)
  have oh := hide (own_mono n13 (Nat.zero_le _))
  have H13 := hide (laterB (unhide H12) k13)
  clear k13 n13 q13 H12 o12
  go_wp2_with fail
  refine (eqks_any _ _ _ _ L _ (by omega) (kls_own (unhide oh)) (kls_own (unhide ow))).mono ?_
  rintro e w14 ⟨rfl, k14⟩
  have og := hide (ownsRow_below (unhide og) k14)
  have H14 := hide (laterB (unhide H13) k14)
  clear k14 H13 ow oh
  go_wp2_with fail
  refine (heldk_any 0 g4 L.length c4 1 ys _ (by omega) (by omega) (by omega) (unhide og) (unhide hm')).mono ?_
  rintro e w15 ⟨rfl, rfl⟩
  go_wp2
  go_ret
  exact ⟨rfl, unhide H14⟩

end Go.Proofs.Yteabmbggljpmoaa
