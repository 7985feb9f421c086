/-
  For every list of bytes: of the tracks that are drawn of them what is needed is told; with it nothing is missing; with handles it is no less; and the program answers as its model does; no conditions.
-/
import Derived.Test.YtfbifffmieimoaaDrN
import Derived.Test.YtfbifffmieimoaaSNd
import Derived.Test.YtfbifffmieimoaaLawMis
namespace Go.Proofs.Ytfbifffmieimoaa.Rl
open Go.RowKit
open Go.Proofs.Ytfbifffmieimoaa
set_option linter.unusedVariables false
set_option linter.unusedSimpArgs false

theorem needs_len2 (ts : List (List Kl)) (h : Int) : (needsOf ts h).length ≤ 15000 := by
  unfold needsOf
  split
  · rename_i x
    have h1 := told_len (shownOf h ts)
    have h2 := shown_len (h := h) x.2.2
    have := x.1
    omega
  · simp
theorem fn_facts {ts : List (List Kl)} {h : Int} (hne : (needsOf ts h).length ≠ 0) (n1 : (needsOf ts h).length ≤ 300) (n2 : (needsOf ts 0).length ≤ 300) :
    covOf (needsOf ts h) (needsOf ts h) = true ∧ covOf (needsOf ts 0) (needsOf ts h) = true ∧ missOf (needsOf ts 0) (needsOf ts h) = [] ∧ missOf (needsOf ts h) [] = needsOf ts h ∧ missOf (needsOf ts h) (missOf (needsOf ts h) (needsOf ts 0)) = missOf (needsOf ts 0) (missOf (needsOf ts h) (needsOf ts 0)) := by
  have hc : ts.length ≤ 50 ∧ (0 ≤ h ∧ h ≤ 1000) ∧ ∀ t ∈ ts, TOk t := by
    unfold needsOf at hne
    split at hne
    · assumption
    · simp at hne
  have e1 : needsOf ts h = told (shownOf h ts) := by unfold needsOf; rw [if_pos hc]
  have e2 : needsOf ts 0 = told (shownOf 0 ts) := by unfold needsOf; rw [if_pos ⟨hc.1, by omega, hc.2.2⟩]
  rw [e1] at n1 ⊢
  rw [e2] at n2 ⊢
  obtain ⟨f1, f2, f3, f4, f5, f6⟩ := needs_facts (h := h) (ts := ts) (fun t ht => (hc.2.2 t ht).2.1) hc.2.1.1 n1 n2
  refine ⟨?_, ?_, f4, f5, f6⟩
  · have e : missing (told (shownOf h ts)) (told (shownOf h ts)) = [] := by rw [← f3]; unfold missOf; rw [if_pos ⟨f1, f1⟩]
    simp only [covOf, e, decide_eq_true f1]; rfl
  · have e : missing (told (shownOf 0 ts)) (told (shownOf h ts)) = [] := by rw [← f4]; unfold missOf; rw [if_pos ⟨f2, f1⟩]
    simp only [covOf, e, decide_eq_true f1, decide_eq_true f2]; rfl

set_option maxRecDepth 100000 in
set_option maxHeartbeats 12800000 in
theorem lawFN {W : World} (a : Option Addr) (len cap : Nat) (hr : RdB W W.heap.size a len) :
    Calls Try.prog 3 #[.slice a len cap] W fun e w' => e = .returned (.bool true) ∧ Below W.heap.size W w' := by
  have hr' := hide hr
  clear hr
  by_cases hbig : (4096 : Int) < len
  · have hbd : decide ((4096 : Int) < len) = true := by simpa using hbig
    go_enter Try.func3, Try.ntmps3
    go_wp2_with fail
    refine (big_any a len cap true _ hbd).mono ?_
    rintro e w1 ⟨rfl, rfl⟩
    go_wp2
    go_ret
    exact ⟨rfl, Below.refl _ _⟩
  have hbd : decide ((4096 : Int) < len) = false := by simpa using hbig
  go_enter Try.func3, Try.ntmps3
  go_wp2_with fail
  refine (big_any a len cap false _ hbd).mono ?_
  rintro e w0 ⟨rfl, hw0⟩
  have hw1 := hw0.symm
  subst hw1
  go_wp2_with fail
  refine (Tk.dnd_any a len cap W (by omega) (unhide hr')).mono ?_
  rintro e w1 ⟨r, c, ts, h, rfl, tl, K1, H1⟩
  have K1 := hide K1
  have H1 := hide H1
  have tm : ts.length ≤ maxLen := by unfold maxLen; omega
  have hfa := hide (fn_facts (ts := ts) (h := h))
  have hn1 := needs_len2 ts h
  have hn2 := needs_len2 ts 0
  go_wp2_with fail
  refine (ineed_any (some ⟨r, 0, none⟩) c ts h _ tm (unhide K1)).mono ?_
  rintro e w2 ⟨g2, c2, rfl, n2, k2⟩
  have ol := hide (own_mono n2 (Nat.zero_le _))
  have K1 := hide ((unhide K1).below k2)
  have H2 := hide (laterB (unhide H1) k2)
  clear n2 k2 H1
  go_wp2_with fail
  refine (sneed_any (some ⟨r, 0, none⟩) c ts h _ tm (unhide K1)).mono ?_
  rintro e w3 ⟨g3, c3, rfl, n3, k3⟩
  have ow := hide (own_mono n3 (Nat.zero_le _))
  have ol := hide (ownsRow_below (unhide ol) k3)
  have K1 := hide ((unhide K1).below k3)
  have H3 := hide (laterB (unhide H2) k3)
  clear n3 k3 H2
  go_wp2_with fail
  refine (sames_any _ _ _ _ (needsOf ts h) _ (by omega) (kls_own (unhide ol)) (kls_own (unhide ow))).mono ?_
  rintro e w4 ⟨rfl, k4⟩
  have ol := hide (ownsRow_below (unhide ol) k4)
  have K1 := hide ((unhide K1).below k4)
  have H4 := hide (laterB (unhide H3) k4)
  clear k4 H3 ow
  have hLe : Hid (needsOf ts h = needsOf ts h) := hide rfl
  obtain ⟨L, hL⟩ : ∃ L, L = needsOf ts h := ⟨_, rfl⟩
  rw [← hL] at ol hn1 hfa ⊢
  have hL' := hide hL
  clear hL hLe
  by_cases z0 : L.length = 0
  · have z0d : ((L.length : Int) == 0) = true := by rw [z0]; rfl
    have z0' := hide z0
    clear z0
    go_wp2
    go_ret
    exact ⟨rfl, unhide H4⟩
  have z0d : ((L.length : Int) == 0) = false := by rw [beq_eq_false_iff_ne]; omega
  by_cases z3 : (300 : Int) < L.length
  · have z3d : decide ((300 : Int) < L.length) = true := by simpa using z3
    have z0' := hide z0
    clear z0
    go_wp2
    go_ret
    exact ⟨rfl, unhide H4⟩
  have z3d : decide ((300 : Int) < L.length) = false := by simpa using z3
  have z0' := hide z0
  have z3' := hide z3
  clear z0 z3
  go_wp2_with fail
  refine (ineed_any (some ⟨r, 0, none⟩) c ts 0 _ tm (unhide K1)).mono ?_
  rintro e w5 ⟨g5, c5, rfl, n5, k5⟩
  have op := hide (own_mono n5 (Nat.zero_le _))
  have ol := hide (ownsRow_below (unhide ol) k5)
  have K1 := hide ((unhide K1).below k5)
  have H5 := hide (laterB (unhide H4) k5)
  clear n5 k5 H4
  obtain ⟨P, hP⟩ : ∃ P, P = needsOf ts 0 := ⟨_, rfl⟩
  rw [← hP] at op hn2 hfa ⊢
  by_cases z4 : (300 : Int) < P.length
  · have z4d : decide ((300 : Int) < P.length) = true := by simpa using z4
    clear z4
    have hP' := hide hP
    clear hP
    go_wp2_with fail
    refine (sneed_any (some ⟨r, 0, none⟩) c ts 0 _ tm (unhide K1)).mono ?_
    rintro e w6 ⟨g6, c6, rfl, n6, k6⟩
    rw [← unhide hP'] at n6 ⊢
    have oq := hide (own_mono n6 (Nat.zero_le _))
    have op := hide (ownsRow_below (unhide op) k6)
    have H6 := hide (laterB (unhide H5) k6)
    clear n6 k6 H5
    go_wp2_with fail
    refine (sames_any _ _ _ _ P _ (by omega) (kls_own (unhide op)) (kls_own (unhide oq))).mono ?_
    rintro e w7 ⟨rfl, k7⟩
    have H7 := hide (laterB (unhide H6) k7)
    clear k7 H6 op oq
    go_wp2
    go_ret
    exact ⟨rfl, unhide H7⟩
  have z4d : decide ((300 : Int) < P.length) = false := by simpa using z4
  obtain ⟨q1, q2, q3, q4, q5⟩ := unhide hfa (unhide z0') (by have := unhide z3'; omega) (by omega)
  have q1 := hide q1
  have q2 := hide q2
  have q3 := hide q3
  have q4 := hide q4
  have q5 := hide q5
  have lm : L.length ≤ maxLen := by have := unhide z3'; unfold maxLen; omega
  have pm : P.length ≤ maxLen := by unfold maxLen; omega
  have z4' := hide z4
  clear z4 hfa hP
  go_wp2_with fail
  refine (icov_any (some ⟨g2, 0, none⟩) (some ⟨g2, 0, none⟩) c2 c2 L L _ lm lm (kls_own (unhide ol)) (kls_own (unhide ol))).mono ?_
  rintro e w6 ⟨rfl, k6⟩
  rw [unhide q1]
  have ol := hide (ownsRow_below (unhide ol) k6)
  have op := hide (ownsRow_below (unhide op) k6)
  have H6 := hide (laterB (unhide H5) k6)
  clear k6 H5
  go_wp2_with fail
  refine (icov_any (some ⟨g5, 0, none⟩) (some ⟨g2, 0, none⟩) c5 c2 P L _ pm lm (kls_own (unhide op)) (kls_own (unhide ol))).mono ?_
  rintro e w7 ⟨rfl, k7⟩
  rw [unhide q2]
  have ol := hide (ownsRow_below (unhide ol) k7)
  have op := hide (ownsRow_below (unhide op) k7)
  have H7 := hide (laterB (unhide H6) k7)
  clear k7 H6
  go_wp2_with fail
  refine (imiss_any (some ⟨g5, 0, none⟩) (some ⟨g2, 0, none⟩) c5 c2 P L _ pm lm (kls_own (unhide op)) (kls_own (unhide ol))).mono ?_
  rintro e w8 hE
  rw [unhide q3] at hE
  obtain ⟨g8, c8, rfl, _, k8⟩ := hE
  have ol := hide (ownsRow_below (unhide ol) k8)
  have op := hide (ownsRow_below (unhide op) k8)
  have H8 := hide (laterB (unhide H7) k8)
  clear k8 H7
  have hAl : Below w8.heap.size w8 (w8.alloc (.cells #[] 34)) := (Below.refl _ _).alloc (Nat.le_refl _) _
  have ol := hide (ownsRow_below (unhide ol) hAl)
  have op := hide (ownsRow_below (unhide op) hAl)
  have H9 := hide (laterB (unhide H8) hAl)
  clear hAl H8
  go_wp2_with fail
  refine (imiss_any (some ⟨g2, 0, none⟩) (some ⟨w8.heap.size, 0, none⟩) c2 0 L [] _ lm (by unfold maxLen; simp) (kls_own (unhide ol)) Kls.nil).mono ?_
  rintro e w10 hE
  rw [unhide q4] at hE
  obtain ⟨g10, c10, rfl, n10, k10⟩ := hE
  have om := hide (own_mono n10 (Nat.zero_le _))
  have ol := hide (ownsRow_below (unhide ol) k10)
  have op := hide (ownsRow_below (unhide op) k10)
  have H10 := hide (laterB (unhide H9) k10)
  clear n10 k10 H9
  go_wp2_with fail
  refine (sames_any _ _ _ _ L _ (by have := unhide z3'; omega) (kls_own (unhide om)) (kls_own (unhide ol))).mono ?_
  rintro e w11 ⟨rfl, k11⟩
  have ol := hide (ownsRow_below (unhide ol) k11)
  have op := hide (ownsRow_below (unhide op) k11)
  have H11 := hide (laterB (unhide H10) k11)
  clear k11 H10 om
  obtain ⟨M, hM⟩ : ∃ M, missOf L P = M := ⟨_, rfl⟩
  obtain ⟨X, hX⟩ : ∃ X, missOf L M = X := ⟨_, rfl⟩
  have ml : M.length ≤ 100000 := by rw [← hM]; exact missOf_len L P
  have ml1 : X.length ≤ 100000 := by rw [← hX]; exact missOf_len L M
  have mm : M.length ≤ maxLen := by unfold maxLen; omega
  have hY : Hid (missOf P M = X) := hide (by have := unhide q5; rw [hM, hX] at this; exact this.symm)
  have hM := hide hM
  have hX := hide hX
  clear q1 q2 q3 q4 q5
  go_wp2_with fail
  refine (imiss_any (some ⟨g2, 0, none⟩) (some ⟨g5, 0, none⟩) c2 c5 L P _ lm pm (kls_own (unhide ol)) (kls_own (unhide op))).mono ?_
  rintro e w12 hE
  rw [unhide hM] at hE
  obtain ⟨g12, c12, rfl, n12, k12⟩ := hE
  have om := hide (own_mono n12 (Nat.zero_le _))
  have ol := hide (ownsRow_below (unhide ol) k12)
  have op := hide (ownsRow_below (unhide op) k12)
  have H12 := hide (laterB (unhide H11) k12)
  clear n12 k12 H11
  go_wp2_with fail
  refine (imiss_any (some ⟨g2, 0, none⟩) (some ⟨g12, 0, none⟩) c2 c12 L M _ lm mm (kls_own (unhide ol)) (kls_own (unhide om))).mono ?_
  rintro e w13 hE
  rw [unhide hX] at hE
  obtain ⟨g13, c13, rfl, n13, k13⟩ := hE
  have ox := hide (own_mono n13 (Nat.zero_le _))
  have ol := hide (ownsRow_below (unhide ol) k13)
  have op := hide (ownsRow_below (unhide op) k13)
  have H13 := hide (laterB (unhide H12) k13)
  clear n13 k13 H12 om
  go_wp2_with fail
  refine (imiss_any (some ⟨g2, 0, none⟩) (some ⟨g5, 0, none⟩) c2 c5 L P _ lm pm (kls_own (unhide ol)) (kls_own (unhide op))).mono ?_
  rintro e w14 hE
  rw [unhide hM] at hE
  obtain ⟨g14, c14, rfl, n14, k14⟩ := hE
  have om := hide (own_mono n14 (Nat.zero_le _))
  have ox := hide (ownsRow_below (unhide ox) k14)
  have op := hide (ownsRow_below (unhide op) k14)
  have H14 := hide (laterB (unhide H13) k14)
  clear n14 k14 H13
  go_wp2_with fail
  refine (imiss_any (some ⟨g5, 0, none⟩) (some ⟨g14, 0, none⟩) c5 c14 P M _ pm mm (kls_own (unhide op)) (kls_own (unhide om))).mono ?_
  rintro e w15 hE
  rw [unhide hY] at hE
  obtain ⟨g15, c15, rfl, n15, k15⟩ := hE
  have oy := hide (own_mono n15 (Nat.zero_le _))
  have ox := hide (ownsRow_below (unhide ox) k15)
  have H15 := hide (laterB (unhide H14) k15)
  clear n15 k15 H14 om
  go_wp2_with fail
  refine (sames_any _ _ _ _ X _ (by omega) (kls_own (unhide ox)) (kls_own (unhide oy))).mono ?_
  rintro e w16 ⟨rfl, k16⟩
  have H16 := hide (laterB (unhide H15) k16)
  clear k16 H15 ox oy
  go_wp2
  go_ret
  exact ⟨rfl, unhide H16⟩

end Go.Proofs.Ytfbifffmieimoaa.Rl
