/-
  For every list of colours Scope of the program answers as its model does; the list reads behind the call as it read before, and the answer owns its memory, behind another call too; no conditions.
-/
import Derived.Test.YtdmcbdogpeidjaaSco2
namespace Go.Proofs.Ytdmcbdogpeidjaa
open Go.RowKit
set_option linter.unusedVariables false
set_option linter.unusedSimpArgs false

theorem grown_later {W w w1 : World} {g : Nat} (h : Below W.heap.size W w) (hg : w.grownBy w1 (some g)) (hB : W.heap.size ≤ g) : Below W.heap.size W w1 := below_grown h hg hB
theorem scOf_len (l : List Kl) : (scOf l).length ≤ 16 := by
  by_cases h : ScOk l
  · rw [sc_yes h, cnt_len]; omega
  · rw [sc_no h]; simp
theorem own_far {w w1 : World} {B g n m cap h : Nat} {e : TypeId} {xs : List Value} (ho : w.ownsRow B e m (.slice (some ⟨g, 0, none⟩) n cap) n xs) (hg : w.grownBy w1 (some h)) (hne : g ≠ h) : w1.ownsRow B e m (.slice (some ⟨g, 0, none⟩) n cap) n xs := own_kept ho hg hne

set_option maxHeartbeats 3200000 in
theorem lawSco {W : World} (a : Option Addr) (ca : Nat) (l : List Kl) (hl0 : l.length ≤ maxLen) (ha : Kls W a l) :
    Calls Try.prog 9 #[.slice a l.length ca] W fun e w' => e = .returned (.bool true) ∧ Below W.heap.size W w' := by
  have ha' := hide ha
  have hl1 := hide hl0
  clear ha
  go_enter Try.func9, Try.ntmps9
  go_wp2_with fail
  refine (szk_any a l.length ca W hl0).mono ?_
  rintro e w0 ⟨r, rfl, hr, hw0⟩
  have hw1 := hw0.symm
  subst hw1
  rcases hr with rfl | ⟨hr0, hl⟩
  · go_wp2
    go_ret
    exact ⟨rfl, Below.refl _ _⟩
  have hr1 : decide (r < 0) = false := by simp; omega
  clear hl0
  obtain ⟨L, hL⟩ : ∃ L, scOf l = L := ⟨_, rfl⟩
  have hLn : L.length ≤ 16 := by rw [← hL]; exact scOf_len l
  have hL' := hide hL
  have hLb : L.length ≤ 1048576 := by omega
  clear hL
  go_wp2_with fail
  refine (tok_any a ca l _ hl (unhide ha')).mono ?_
  rintro e w0t ⟨B0, rfl, q0, n0, k0⟩
  have oa := hide n0
  have H1 := hide k0
  clear k0 n0 q0
  go_wp2_with fail
  refine (ssco_any (some ⟨B0, 0, none⟩) _ l _ (unhide hl1) (kls_own (unhide oa))).mono ?_
  rintro e w2t hS
  rw [unhide hL'] at hS
  obtain ⟨G, rfl, gG, oG, k2⟩ := hS
  have Ow := hide (own_mono oG (unhide H1).size)
  have H3 := hide (laterB (unhide H1) k2)
  have gl : G < w2t.heap.size := own_lt oG
  clear k2 H1 oa oG gG
  go_wp2_with fail
  refine (tok_any a ca l _ hl ((unhide ha').below (unhide H3))).mono ?_
  rintro e w3t ⟨B3, rfl, q3, n3, k3⟩
  have ox := hide (own_mono n3 (unhide H3).size)
  have Ow1 := hide (ownsRow_below (unhide Ow) k3)
  have H4 := hide (laterB (unhide H3) k3)
  have bl : B3 < w3t.heap.size := own_lt n3
  have gB : G < B3 := by omega
  clear k3 n3 q3 H3 gl Ow
  go_wp2_with fail
  refine (isco_any (some ⟨B3, 0, none⟩) _ l _ (unhide hl1) (kls_own (unhide ox))).mono ?_
  rintro e w4t hS
  rw [unhide hL'] at hS
  obtain ⟨G4, rfl, gG4, oG4, k4⟩ := hS
  have Og := hide (own_mono oG4 (unhide H4).size)
  have Ow2 := hide (ownsRow_below (unhide Ow1) k4)
  have ox2 := hide (ownsRow_below (unhide ox) k4)
  have H5 := hide (laterB (unhide H4) k4)
  have bG : B3 < G4 := by omega
  clear k4 H4 oG4 gG4 Ow1 ox bl
  go_wp2_with fail
  refine (eqi_any _ _ _ _ L _ hLb (ins_own (unhide Og)) (ins_own (unhide Ow2))).mono ?_
  rintro e w5t ⟨rfl, k5⟩
  have Og3 := hide (ownsRow_below (unhide Og) k5)
  have Ow3 := hide (ownsRow_below (unhide Ow2) k5)
  have ox3 := hide (ownsRow_below (unhide ox2) k5)
  have H6 := hide (laterB (unhide H5) k5)
  clear k5 H5 Og Ow2 ox2
  go_wp2_with fail
  refine (tok_any a ca l _ hl ((unhide ha').below (unhide H6))).mono ?_
  rintro e w6t ⟨B6, rfl, q6, n6, k6⟩
  have od := hide n6
  have Og4 := hide (ownsRow_below (unhide Og3) k6)
  have Ow4 := hide (ownsRow_below (unhide Ow3) k6)
  have ox4 := hide (ownsRow_below (unhide ox3) k6)
  have H7 := hide (laterB (unhide H6) k6)
  clear k6 n6 q6 H6 Og3 Ow3 ox3
  go_wp2_with fail
  refine (eqks_any _ _ _ _ l _ hl (kls_own (unhide ox4)) (kls_own (unhide od))).mono ?_
  rintro e w7t ⟨rfl, k7⟩
  have Og5 := hide (ownsRow_below (unhide Og4) k7)
  have Ow5 := hide (ownsRow_below (unhide Ow4) k7)
  have ox5 := hide (ownsRow_below (unhide ox4) k7)
  have H8 := hide (laterB (unhide H7) k7)
  clear k7 H7 Og4 Ow4 ox4 od
  go_wp2_with fail
  refine (markk_any _ B3 l.length _ 1 _ _ (by omega) (by omega) (by omega) (unhide ox5)).mono ?_
  rintro e w8t ⟨rfl, _, k8⟩
  have Og6 := hide (own_kept (unhide Og5) k8 (by omega))
  have Ow6 := hide (own_kept (unhide Ow5) k8 (by omega))
  have H9 := hide (below_grown (unhide H8) k8 (own_ge (unhide ox5)))
  have hk0 : decide ((1 : Int) + l.length * 3 < 0) = false := by simp; omega
  clear k8 H8 Og5 Ow5 ox5
  go_wp2_with fail
  refine (eqi_any _ _ _ _ L _ hLb (ins_own (unhide Og6)) (ins_own (unhide Ow6))).mono ?_
  rintro e w9t ⟨rfl, k9⟩
  have Og7 := hide (ownsRow_below (unhide Og6) k9)
  have Ow7 := hide (ownsRow_below (unhide Ow6) k9)
  have H10 := hide (laterB (unhide H9) k9)
  clear k9 H9 Og6 Ow6
  go_wp2_with fail
  refine (marki_any _ G4 L.length _ 1 _ _ (by omega) (by omega) (by omega) (unhide Og7)).mono ?_
  rintro e w10 ⟨rfl, ⟨ys, oy, my⟩, k10⟩
  have Oy := hide oy
  have My := hide my
  have Ow8 := hide (own_kept (unhide Ow7) k10 (by omega))
  have H11 := hide (below_grown (unhide H10) k10 (own_ge (unhide Og7)))
  clear k10 H10 Og7 Ow7 oy my
  go_wp2_with fail
  refine (heldi_any _ G4 L.length _ 1 ys _ (by omega) (by omega) (by omega) (unhide Oy) (unhide My)).mono ?_
  rintro e w11 ⟨rfl, hw0⟩
  have hw1 := hw0.symm
  subst hw1
  have hq0 : decide ((1 : Int) + L.length < 0) = false := by simp; omega
  have hq1 : (((1 : Int) + L.length) != (1 + L.length)) = false := by simp
  go_wp2_with fail
  refine (tok_any a ca l _ hl ((unhide ha').below (unhide H11))).mono ?_
  rintro e w12 ⟨B12, rfl, q12, n12, k12⟩
  have oz := hide n12
  have Oy1 := hide (ownsRow_below (unhide Oy) k12)
  have Ow9 := hide (ownsRow_below (unhide Ow8) k12)
  have H12 := hide (laterB (unhide H11) k12)
  clear k12 n12 q12 H11 Oy Ow8
  go_wp2_with fail
  refine (isco_any (some ⟨B12, 0, none⟩) _ l _ (unhide hl1) (kls_own (unhide oz))).mono ?_
  rintro e w13 hS
  rw [unhide hL'] at hS
  obtain ⟨G13, rfl, gG13, oG13, k13⟩ := hS
  have Oh := hide oG13
  have Oy2 := hide (ownsRow_below (unhide Oy1) k13)
  have Ow10 := hide (ownsRow_below (unhide Ow9) k13)
  have H13 := hide (laterB (unhide H12) k13)
  clear k13 H12 oG13 gG13 Oy1 Ow9 oz
  go_wp2_with fail
  refine (eqi_any _ _ _ _ L _ hLb (ins_own (unhide Oh)) (ins_own (unhide Ow10))).mono ?_
  rintro e w14 ⟨rfl, k14⟩
  have Oy3 := hide (ownsRow_below (unhide Oy2) k14)
  have H14 := hide (laterB (unhide H13) k14)
  clear k14 H13 Oy2 Ow10 Oh
  go_wp2_with fail
  refine (heldi_any _ G4 L.length _ 1 ys _ (by omega) (by omega) (by omega) (unhide Oy3) (unhide My)).mono ?_
  rintro e w15 ⟨rfl, hw0⟩
  have hw1 := hw0.symm
  subst hw1
  go_wp2
  go_ret
  exact ⟨rfl, unhide H14⟩

end Go.Proofs.Ytdmcbdogpeidjaa
