/-
  For every list of complex numbers Power of the program answers as its model does, all NaNs one, its answer is memory of its own, and the law's argument reads behind the call as it read before; no conditions.
-/
import Derived.Test.YtibeipcfokngjaaPw2
import Derived.Test.YtibeipcfokngjaaMark2
import Derived.Outline
namespace Go.Proofs.Ytibeipcfokngjaa
open Go.RowKit
set_option linter.unusedVariables false
set_option linter.unusedSimpArgs false

theorem own_kept {w w1 : World} {B g n m cap h : Nat} {e : TypeId} {xs : List Value} (ho : w.ownsRow B e m (.slice (some ⟨g, 0, none⟩) n cap) n xs) (hg : w.grownBy w1 (some h)) (hne : g ≠ h) : w1.ownsRow B e m (.slice (some ⟨g, 0, none⟩) n cap) n xs := by
  have hlt := own_lt ho
  obtain ⟨h1, h2⟩ := ho
  refine ⟨h1, ?_⟩
  rcases h2 with h2 | ⟨g', cap', cur, hv, hB, hh, r⟩
  · exact Or.inl h2
  · refine Or.inr ⟨g', cap', cur, hv, hB, ?_, r⟩
    injection hv with e1
    injection e1 with e1
    injection e1 with e1
    subst e1
    rw [hg.block g hlt (by intro hh; injection hh with hh; exact hne hh)]; exact hh
theorem below_grown {W w w1 : World} {g : Nat} (h : Below W.heap.size W w) (hg : w.grownBy w1 (some g)) (hB : W.heap.size ≤ g) : Below W.heap.size W w1 :=
  h.grown hg h.size (fun k hk => by injection hk with hk; omega)
theorem laterB {W w w1 : World} (h : Below W.heap.size W w) (hb : Below w.heap.size w w1) : Below W.heap.size W w1 := h.trans (hb.mono h.size)
theorem carryC {W w : World} {a : Option Addr} {l : List (Nat × Nat)} (h : Cxs false 0 W.heap.size W a l) (hb : Below W.heap.size W w) : Cxs false 0 w.heap.size w a l := (h.below hb (Nat.le_refl _)).mono (Nat.le_refl _) hb.size
theorem cxs_own {w : World} {B g n cap : Nat} {l : List (Nat × Nat)} (h : w.ownsRow B 25 2 (.slice (some ⟨g, 0, none⟩) n cap) n (flC l)) : Cxs false 0 w.heap.size w (some ⟨g, 0, none⟩) l :=
  (cxs_of_own h).read.mono (Nat.zero_le _) (own_lt h)
theorem fls_ownB {w : World} {B g n cap : Nat} {l : List Nat} (h : w.ownsRow B 22 1 (.slice (some ⟨g, 0, none⟩) n cap) n (l.map fl)) : Fls false 0 w.heap.size w (some ⟨g, 0, none⟩) l :=
  (fls_of_own h).read.mono (Nat.zero_le _) (own_lt h)
theorem SmL.symm {l m : List Nat} (h : SmL l m) : SmL m l := ⟨h.1.symm, fun j x y h1 h2 => (h.2 j y x h2 h1).symm⟩

set_option maxHeartbeats 3200000 in
theorem lawPw {W : World} (a : Option Addr) (ca : Nat) (l : List (Nat × Nat)) (hl0 : l.length ≤ maxLen) (ha : Cxs false 0 W.heap.size W a l) :
    Calls Try.prog 7 #[.slice a l.length ca] W fun e w' => e = .returned (.bool true) ∧ Below W.heap.size W w' := by
  have ha' := hide ha
  clear ha
  go_enter Try.func7, Try.ntmps7
  go_wp2_with fail
  refine (szc_any a l.length ca W hl0).mono ?_
  rintro e w0 ⟨r, rfl, hr, hw0⟩
  have hw1 := hw0.symm
  subst hw1
  rcases hr with rfl | ⟨hr0, hl⟩
  · go_wp2
    go_ret
    exact ⟨rfl, Below.refl _ _⟩
  have hr1 : decide (r < 0) = false := by simp; omega
  clear hl0
  go_wp2_with fail
  refine (toc_any a ca l _ hl (unhide ha')).mono ?_
  rintro e w1 ⟨B1, rfl, q1, n1, k1⟩
  have n1' := hide n1
  have H1 := hide k1
  clear k1 n1 q1
  go_wp2_with fail
  refine (spower_any _ _ l _ hl (cxs_own (unhide n1'))).mono ?_
  rintro e w2 ⟨g2, c2, L, rfl, q2, n2, v2, k2⟩
  have v2' := hide v2
  have ow := hide (own_mono n2 (Nat.zero_le _))
  have H2 := hide (laterB (unhide H1) k2)
  clear k2 n2 v2 q2 H1 n1'
  go_wp2_with fail
  refine (toc_any a ca l _ hl (carryC (unhide ha') (unhide H2))).mono ?_
  rintro e w3 ⟨B3, rfl, q3, n3, k3⟩
  have g2lt := own_lt (unhide ow)
  have g23 : g2 < B3 := by omega
  have WB3 : W.heap.size ≤ B3 := by have := (unhide H2).size; omega
  have ow := hide (ownsRow_below (unhide ow) k3)
  have ox := hide (own_mono n3 (Nat.zero_le _))
  have H3 := hide (laterB (unhide H2) k3)
  clear k3 n3 q3 H2 g2lt
  go_wp2_with fail
  refine (ipower_any _ _ l _ hl (cxs_own (unhide ox))).mono ?_
  rintro e w4 ⟨g4, c4, M, rfl, q4, n4, v4, k4⟩
  have B3lt := own_lt (unhide ox)
  have g34 : B3 < g4 := by omega
  have hs := hide (v4.sm (unhide v2'))
  have hML := hide v4.len
  have ow := hide (ownsRow_below (unhide ow) k4)
  have ox := hide (ownsRow_below (unhide ox) k4)
  have og := hide (own_mono n4 (Nat.zero_le _))
  have H4 := hide (laterB (unhide H3) k4)
  clear k4 n4 q4 H3 v4 B3lt
  go_wp2_with fail
  refine (eqfl_any _ _ _ _ M L _ (Nat.le_trans (unhide hML) (by omega)) (unhide hs) (fls_ownB (unhide og)) (fls_ownB (unhide ow))).mono ?_
  rintro e w5 ⟨rfl, k5⟩
  have ow := hide (ownsRow_below (unhide ow) k5)
  have ox := hide (ownsRow_below (unhide ox) k5)
  have og := hide (ownsRow_below (unhide og) k5)
  have H5 := hide (laterB (unhide H4) k5)
  clear k5 H4
  go_wp2_with fail
  refine (toc_any a ca l _ hl (carryC (unhide ha') (unhide H5))).mono ?_
  rintro e w6 ⟨B6, rfl, q6, n6, k6⟩
  have ow := hide (ownsRow_below (unhide ow) k6)
  have ox := hide (ownsRow_below (unhide ox) k6)
  have og := hide (ownsRow_below (unhide og) k6)
  have o6 := hide (own_mono n6 (Nat.zero_le _))
  have H6 := hide (laterB (unhide H5) k6)
  clear k6 H5 n6 q6
  go_wp2_with fail
  refine (eqcxs_any _ _ _ _ l l _ hl SmC.rfl (cxs_own (unhide ox)) (cxs_own (unhide o6))).mono ?_
  rintro e w7 ⟨rfl, k7⟩
  have ow := hide (ownsRow_below (unhide ow) k7)
  have ox := hide (ownsRow_below (unhide ox) k7)
  have og := hide (ownsRow_below (unhide og) k7)
  have H7 := hide (laterB (unhide H6) k7)
  clear k7 H6 o6
  go_wp2_with fail
  refine (markcx_any 0 B3 l.length l.length 1 _ _ (by omega) (by omega) (by omega) (unhide ox)).mono ?_
  rintro e w8 ⟨rfl, _, k8⟩
  have ow := hide (own_kept (unhide ow) k8 (by omega))
  have og := hide (own_kept (unhide og) k8 (by omega))
  have H8 := hide (below_grown (unhide H7) k8 WB3)
  have t1 : decide ((1 : Int) + (l.length : Int) * 2 < 0) = false := by simp; omega
  clear k8 H7 ox
  go_wp2_with fail
  refine (eqfl_any _ _ _ _ M L _ (Nat.le_trans (unhide hML) (by omega)) (unhide hs) (fls_ownB (unhide og)) (fls_ownB (unhide ow))).mono ?_
  rintro e w9 ⟨rfl, k9⟩
  have ow := hide (ownsRow_below (unhide ow) k9)
  have og := hide (ownsRow_below (unhide og) k9)
  have H9 := hide (laterB (unhide H8) k9)
  clear k9 H8
  go_wp2_with fail
  refine (markf_any 0 g4 M.length c4 1 _ _ (Nat.le_trans (unhide hML) (by omega)) (by omega) (by omega) (unhide og)).mono ?_
  rintro e w10 ⟨rfl, ⟨ys, hy, hm⟩, k10⟩
  have ow := hide (own_kept (unhide ow) k10 (by omega))
  have og := hide hy
  have hm' := hide hm
  have H10 := hide (below_grown (unhide H9) k10 (by omega))
  clear k10 H9 hy hm
  go_wp2_with fail
  refine (heldf_any 0 g4 M.length c4 1 ys _ (Nat.le_trans (unhide hML) (by omega)) (by omega) (by omega) (unhide og) (unhide hm')).mono ?_
  rintro e w11 ⟨rfl, rfl⟩
  have t2 : decide ((1 : Int) + (M.length : Int) < 0) = false := by simp; omega
  go_wp2_with fail
  refine (toc_any a ca l _ hl (carryC (unhide ha') (unhide H10))).mono ?_
  rintro e w12 ⟨B12, rfl, q12, n12, k12⟩
  have ow := hide (ownsRow_below (unhide ow) k12)
  have og := hide (ownsRow_below (unhide og) k12)
  have o12 := hide (own_mono n12 (Nat.zero_le _))
  have H12 := hide (laterB (unhide H10) k12)
  clear k12 H10 n12 q12
  go_wp2_with fail
  refine (ipower_any _ _ l _ hl (cxs_own (unhide o12))).mono ?_
  rintro e w13 ⟨g13, c13, K, rfl, q13, n13, v13, k13⟩
  have hs2 := hide (v13.sm (unhide v2'))
  have hKL := hide v13.len
  have ow := hide (ownsRow_below (unhide ow) k13)
  have og := hide (ownsRow_below (unhide og) k13)
  have oh := hide (own_mono n13 (Nat.zero_le _))
  have H13 := hide (laterB (unhide H12) k13)
  clear k13 n13 q13 H12 v13 o12
  go_wp2_with fail
  refine (eqfl_any _ _ _ _ K L _ (Nat.le_trans (unhide hKL) (by omega)) (unhide hs2) (fls_ownB (unhide oh)) (fls_ownB (unhide ow))).mono ?_
  rintro e w14 ⟨rfl, k14⟩
  have og := hide (ownsRow_below (unhide og) k14)
  have H14 := hide (laterB (unhide H13) k14)
  clear k14 H13 ow oh
  go_wp2_with fail
  refine (heldf_any 0 g4 M.length c4 1 ys _ (Nat.le_trans (unhide hML) (by omega)) (by omega) (by omega) (unhide og) (unhide hm')).mono ?_
  rintro e w15 ⟨rfl, rfl⟩
  go_wp2
  go_ret
  exact ⟨rfl, unhide H14⟩

end Go.Proofs.Ytibeipcfokngjaa
