/-
  For every list of bytes: the changes from the one drawn cut to the other make the other, turned they take it back, and frames are where they say; no condition.
-/
import Derived.Test.YtfcjdempigoiiaaDrH
import Derived.Test.YtfcjdempigoiiaaILn
import Derived.Test.YtfcjdempigoiiaaFrB
import Derived.Test.YtfcjdempigoiiaaICh
import Derived.Test.YtfcjdempigoiiaaIApY
import Derived.Test.YtfcjdempigoiiaaShP
import Derived.Test.YtfcjdempigoiiaaSmC
namespace Go.Proofs.Ytfcjdempigoiiaa
open Go.RowKit
set_option linter.unusedVariables false
set_option linter.unusedSimpArgs false

theorem fc_facts {L M : List Kl} (hL : TOk L) (hM : TOk M) (hlen : (changesOf L M).length ≤ 300) :
    applyOf L (changesOf L M) = some (join M) ∧ turnedOf L (changesOf L M) = some (tnUp L (changesOf L M) (changesOf L M).length) ∧ joinOf M = join M ∧ joinOf L = join L ∧ (join M).length ≤ 300 ∧ (join L).length ≤ 300 ∧ lenOf L = clen L
      ∧ ((tnUp L (changesOf L M) (changesOf L M).length).length ≤ 300 → applyOf M (tnUp L (changesOf L M) (changesOf L M).length) = some (join L))
      ∧ (∀ i : Int, 0 ≤ i → 0 ≤ shiftOf (changesOf L M) i → frameAt M (shiftOf (changesOf L M) i) = frameAt L i) := by
  have h1 := changed_makes hL hM hlen
  refine ⟨h1, ?_, if_pos hM, if_pos hL, (join_tok hM).1, (join_tok hL).1, if_pos hL, changed_back hL hM hlen, fun i hi hk => ?_⟩
  · unfold turnedOf
    rw [h1]; rfl
  · rw [changed_shift hL hM hk, frameAt_yes hL hi]

/-- the two cuts, the changes, and what was there -/
structure CS (W wr : World) (G c : Nat) (L : List Kl) (H d : Nat) (M : List Kl) (gC cC : Nat) (C : List Ch) : Prop where
  l : Own wr 0 G L.length c L
  m : Own wr 0 H M.length d M
  c : OwnC wr 0 gC C.length cC C
  b : Below W.heap.size W wr
theorem CS.later {W wr w1 : World} {G c : Nat} {L : List Kl} {H d : Nat} {M : List Kl} {gC cC : Nat} {C : List Ch} (h : CS W wr G c L H d M gC cC C) (hb : Below wr.heap.size wr w1) : CS W w1 G c L H d M gC cC C :=
  ⟨ownsRow_below h.l hb, ownsRow_below h.m hb, ownsRow_below h.c hb, laterB h.b hb⟩

set_option maxRecDepth 10000 in
set_option maxHeartbeats 6400000 in
theorem lawFC {W : World} (a : Option Addr) (len cap : Nat) (hr : RdB W W.heap.size a len) :
    Calls Try.prog 3 #[.slice a len cap] W fun e w' => e = .returned (.bool true) ∧ Below W.heap.size W w' := by
  have hr' := hide hr
  clear hr
  by_cases hbig : (4096 : Int) < len
  · have hb' := hide (decide_eq_true hbig)
    clear hbig
    go_enter Try.func3, Try.ntmps3
    go_wp2_with fail
    refine (big_any a len cap true _ (unhide hb')).mono ?_
    rintro e w0 ⟨rfl, hw0⟩
    have hw1 := hw0.symm
    subst hw1
    go_wp2
    go_ret
    exact ⟨rfl, Below.refl _ _⟩
  have hb' := hide (decide_eq_false hbig)
  have hl : len ≤ 4096 := by omega
  clear hbig
  go_enter Try.func3, Try.ntmps3
  go_wp2_with fail
  refine (big_any a len cap false _ (unhide hb')).mono ?_
  rintro e w0 ⟨rfl, hw0⟩
  have hw1 := hw0.symm
  subst hw1
  clear hb'
  go_wp2_with fail
  refine (dchg_any a len cap _ hl (unhide hr')).mono ?_
  rintro e w1 ⟨G, c, L, H, d, M, rfl, hLl, hMl, oL, oM, B1⟩
  have hmL : L.length ≤ maxLen := by unfold maxLen; omega
  have hmM : M.length ≤ maxLen := by unfold maxLen; omega
  have oL1 := hide (own_mono oL (Nat.zero_le _))
  have oM1 := hide (own_mono oM (Nat.zero_le _))
  have B1' := hide B1
  clear oL oM B1 hr'
  have hCl := changes_len L M
  have hfac := hide (fun (hL : TOk L) (hM : TOk M) (hn : (changesOf L M).length ≤ 300) => fc_facts hL hM hn)
  go_wp2_with fail
  refine (ichanges_any (some ⟨G, 0, none⟩) (some ⟨H, 0, none⟩) c d L M _ hmL hmM (kls_own (unhide oL1)) (kls_own (unhide oM1))).mono ?_
  rintro e w2 hE
  have hsch := hide (fun (w : World) (h1 : Kls w (some ⟨G, 0, none⟩) L) (h2 : Kls w (some ⟨H, 0, none⟩) M) => schanges_any (some ⟨G, 0, none⟩) (some ⟨H, 0, none⟩) c d L M w hmL hmM h1 h2)
  generalize changesOf L M = C at hE hCl hfac hsch
  obtain ⟨gC, cC, rfl, q2, n2, b2⟩ := hE
  have S2 := hide (show CS W w2 G c L H d M gC cC C from ⟨ownsRow_below (unhide oL1) b2, ownsRow_below (unhide oM1) b2, own_mono n2 (Nat.zero_le _), laterB (unhide B1') b2⟩)
  have hmC : C.length ≤ maxLen := by unfold maxLen; omega
  clear q2 n2 b2 oL1 oM1 B1'
  go_wp2_with fail
  refine (unhide hsch _ (kls_own (unhide S2).l) (kls_own (unhide S2).m)).mono ?_
  rintro e w3 ⟨gS, cS, rfl, q3, n3, b3⟩
  have S3 := hide ((unhide S2).later b3)
  have hne : ((C.length : Int) != C.length) = false := by simp
  clear q3 n3 b3 S2 hsch
  by_cases hL : TOk L
  case neg =>
    have hv := hide (show decide (TOk L) = false from decide_eq_false hL)
    clear hL hfac
    go_wp2_with fail
    refine (strack_any (some ⟨G, 0, none⟩) c L false _ hmL (kls_own (unhide S3).l) (unhide hv)).mono ?_
    rintro e w4 ⟨rfl, b4⟩
    have S4 := hide ((unhide S3).later b4)
    clear b4 S3 hv
    go_wp2
    go_ret
    exact ⟨rfl, (unhide S4).b⟩
  have hv := hide (show decide (TOk L) = true from decide_eq_true hL)
  have hfac2 := hide (unhide hfac hL)
  clear hL hfac
  go_wp2_with fail
  refine (strack_any (some ⟨G, 0, none⟩) c L true _ hmL (kls_own (unhide S3).l) (unhide hv)).mono ?_
  rintro e w4 ⟨rfl, b4⟩
  have S4 := hide ((unhide S3).later b4)
  clear b4 S3 hv
  by_cases hM : TOk M
  case neg =>
    have hv := hide (show decide (TOk M) = false from decide_eq_false hM)
    clear hM hfac2
    go_wp2_with fail
    refine (strack_any (some ⟨H, 0, none⟩) d M false _ hmM (kls_own (unhide S4).m) (unhide hv)).mono ?_
    rintro e w5 ⟨rfl, b5⟩
    have S5 := hide ((unhide S4).later b5)
    clear b5 S4 hv
    go_wp2
    go_ret
    exact ⟨rfl, (unhide S5).b⟩
  have hv := hide (show decide (TOk M) = true from decide_eq_true hM)
  have hfac3 := hide (unhide hfac2 hM)
  clear hM hfac2
  go_wp2_with fail
  refine (strack_any (some ⟨H, 0, none⟩) d M true _ hmM (kls_own (unhide S4).m) (unhide hv)).mono ?_
  rintro e w5 ⟨rfl, b5⟩
  have S5 := hide ((unhide S4).later b5)
  clear b5 S4 hv
  by_cases hC : C.length ≤ 300
  case neg =>
    have hc1 : decide ((300 : Int) < C.length) = true := by rw [decide_eq_true_iff]; omega
    clear hC hfac3
    go_wp2
    go_ret
    exact ⟨rfl, (unhide S5).b⟩
  have hc1 : decide ((300 : Int) < C.length) = false := by rw [decide_eq_false_iff_not]; omega
  obtain ⟨a1, a2, a3, a4, a5, a6, a7, a8, shf⟩ := unhide hfac3 hC
  have hTl : (tnUp L C C.length).length ≤ 100000 := by have := turned_len L C; rw [a2] at this; exact this
  generalize tnUp L C C.length = T at a2 a8 hTl
  generalize join M = JM at a1 a3 a5
  generalize join L = JL at a4 a6 a8
  generalize clen L = NL at a7
  have ap1 := hide a1
  have tn1 := hide a2
  have jM := hide a3
  have jL := hide a4
  have hlen' := hide a7
  have ap2 := hide a8
  have hmT : T.length ≤ maxLen := by unfold maxLen; omega
  clear a1 a2 a3 a4 a7 a8 hfac3
  go_wp2_with fail
  refine (iapply_any (some ⟨G, 0, none⟩) (some ⟨gC, 0, none⟩) c cC L C _ hmL hmC (kls_own (unhide S5).l) (chs_own (unhide S5).c)).mono ?_
  rintro e w6 hE
  rw [unhide ap1] at hE
  obtain ⟨g6, c6, rfl, q6, n6, b6⟩ := hE
  have S6 := hide ((unhide S5).later b6)
  have e0 : outL (some JM) = JM := rfl
  have e1 : (some JM).isSome = true := rfl
  rw [e0] at n6 ⊢
  rw [e1]
  have o6 := hide (own_mono n6 (Nat.zero_le _))
  clear b6 n6 q6 S5 e0 e1
  go_wp2_with fail
  refine (ijoined_any (some ⟨H, 0, none⟩) d M _ hmM (kls_own (unhide S6).m)).mono ?_
  rintro e w7 hE
  rw [unhide jM] at hE
  obtain ⟨g7, c7, rfl, q7, n7, b7⟩ := hE
  have S7 := hide ((unhide S6).later b7)
  have o7 := hide (ownsRow_below (unhide o6) b7)
  have j7 := hide (own_mono n7 (Nat.zero_le _))
  clear b7 n7 q7 S6 o6
  go_wp2_with fail
  refine (sames_any _ _ _ _ JM _ (by omega) (kls_own (unhide o7)) (kls_own (unhide j7))).mono ?_
  rintro e w8 ⟨rfl, b8⟩
  have S8 := hide ((unhide S7).later b8)
  clear b8 S7 o7 j7
  go_wp2_with fail
  refine (iturned_any (some ⟨G, 0, none⟩) (some ⟨gC, 0, none⟩) c cC L C _ hmL hmC (kls_own (unhide S8).l) (chs_own (unhide S8).c)).mono ?_
  rintro e w9 hE
  rw [unhide tn1] at hE
  obtain ⟨g9, c9, rfl, q9, n9, b9⟩ := hE
  have S9 := hide ((unhide S8).later b9)
  have e0 : outC (some T) = T := rfl
  have e1 : (some T).isSome = true := rfl
  rw [e0] at n9 ⊢
  rw [e1]
  have o9 := hide (own_mono n9 (Nat.zero_le _))
  clear b9 n9 q9 S8 e0 e1
  by_cases hT : T.length ≤ 300
  · have ht1 : decide ((T.length : Int) ≤ 300) = true := by rw [decide_eq_true_iff]; omega
    have ap3 := hide (unhide ap2 hT)
    clear hT ap2
    go_wp2_with fail
    refine (iapply_any (some ⟨H, 0, none⟩) (some ⟨g9, 0, none⟩) d c9 M T _ hmM hmT (kls_own (unhide S9).m) (chs_own (unhide o9))).mono ?_
    rintro e wA hE
    rw [unhide ap3] at hE
    obtain ⟨gA, cA, rfl, qA, nA, bA⟩ := hE
    have SA := hide ((unhide S9).later bA)
    have e0 : outL (some JL) = JL := rfl
    have e1 : (some JL).isSome = true := rfl
    rw [e0] at nA ⊢
    rw [e1]
    have oA := hide (own_mono nA (Nat.zero_le _))
    clear bA nA qA S9 e0 e1 o9 ap3
    go_wp2_with fail
    refine (ijoined_any (some ⟨G, 0, none⟩) c L _ hmL (kls_own (unhide SA).l)).mono ?_
    rintro e wB hE
    rw [unhide jL] at hE
    obtain ⟨gB, cB, rfl, qB, nB, bB⟩ := hE
    have SB := hide ((unhide SA).later bB)
    have oB := hide (ownsRow_below (unhide oA) bB)
    have jB := hide (own_mono nB (Nat.zero_le _))
    clear bB nB qB SA oA
    go_wp2_with fail
    refine (sames_any _ _ _ _ JL _ (by omega) (kls_own (unhide oB)) (kls_own (unhide jB))).mono ?_
    rintro e wX ⟨rfl, bX⟩
    have SX := hide ((unhide SB).later bX)
    clear bX SB oB jB
    obtain ⟨wi, hwi⟩ : ∃ wi, wi = wX := ⟨_, rfl⟩
    clear hwi
    go_wp2
    go_loopw [12] (fun t wr => ∃ i : Nat, i ≤ 40 ∧ t = .int .i64 i ∧ Hid (CS W wr G c L H d M gC cC C)) (fun t _ => 40 - (intOf t).toNat)
    case atStart => exact ⟨0, by omega, rfl, SX⟩
    case round =>
      clear SX
      obtain ⟨i, hi, rfl, hS⟩ := hrel
      go_wp2_with fail
      refine (ilength_any (some ⟨G, 0, none⟩) c L _ hmL (kls_own (unhide hS).l)).mono ?_
      rintro e v1 ⟨rfl, b1⟩
      rw [unhide hlen']
      have S1 := hide ((unhide hS).later b1)
      clear b1 hS
      by_cases h1 : (i : Int) < NL
      · have h1' : decide ((i : Int) < NL) = true := by simpa using h1
        by_cases h2 : i < 40
        · have h2' : decide ((i : Int) < 40) = true := by simp; omega
          clear h1
          have hsh := hide (shf (i : Int) (by omega))
          go_wp2_with fail
          refine (ishift_any (some ⟨gC, 0, none⟩) cC C (i : Int) _ hmC (chs_own (unhide S1).c)).mono ?_
          rintro e v2 ⟨rfl, b2⟩
          have S2 := hide ((unhide S1).later b2)
          clear b2 S1
          generalize shiftOf C (i : Int) = k at hsh
          by_cases hk : k < 0
          · have hk' : decide (k < 0) = true := by simpa using hk
            clear hk hsh
            go_wp2
            go_roundw
            case rel => exact ⟨i + 1, by omega, by go_num, S2⟩
            case measure => simp [intOf]; omega
          · have hk' : decide (k < 0) = false := by simpa using hk
            have hf := hide (unhide hsh (by omega))
            clear hk hsh
            go_wp2_with fail
            refine (iframe_any (some ⟨G, 0, none⟩) c L (i : Int) _ hmL (kls_own (unhide S2).l)).mono ?_
            rintro e v3 ⟨rfl, b3⟩
            have S3 := hide ((unhide S2).later b3)
            clear b3 S2
            go_wp2_with fail
            refine (iframe_any (some ⟨H, 0, none⟩) d M k _ hmM (kls_own (unhide S3).m)).mono ?_
            rintro e v4 ⟨rfl, b4⟩
            have S4 := hide ((unhide S3).later b4)
            clear b4 S3
            rw [unhide hf]
            generalize frameAt L (i : Int) = X
            obtain ⟨X1, X2⟩ := X
            have n1 : (X1 != X1) = false := by simp
            have n2 : (X2 != X2) = false := by simp
            go_wp2
            go_roundw
            case rel => exact ⟨i + 1, by omega, by go_num, S4⟩
            case measure => simp [intOf]; omega
        · have h2' : decide ((i : Int) < 40) = false := by simp; omega
          clear h1
          go_wp2
          go_ret
          exact ⟨rfl, (unhide S1).b⟩
      · have h1' : decide ((i : Int) < NL) = false := by simpa using h1
        clear h1
        go_wp2
        go_ret
        exact ⟨rfl, (unhide S1).b⟩
  · have ht1 : decide ((T.length : Int) ≤ 300) = false := by rw [decide_eq_false_iff_not]; omega
    have SX := S9
    clear hT ap2 o9 S9
    obtain ⟨wi, hwi⟩ : ∃ wi, wi = w9 := ⟨_, rfl⟩
    clear hwi
    go_wp2
    go_loopw [12] (fun t wr => ∃ i : Nat, i ≤ 40 ∧ t = .int .i64 i ∧ Hid (CS W wr G c L H d M gC cC C)) (fun t _ => 40 - (intOf t).toNat)
    case atStart => exact ⟨0, by omega, rfl, SX⟩
    case round =>
      clear SX
      obtain ⟨i, hi, rfl, hS⟩ := hrel
      go_wp2_with fail
      refine (ilength_any (some ⟨G, 0, none⟩) c L _ hmL (kls_own (unhide hS).l)).mono ?_
      rintro e v1 ⟨rfl, b1⟩
      rw [unhide hlen']
      have S1 := hide ((unhide hS).later b1)
      clear b1 hS
      by_cases h1 : (i : Int) < NL
      · have h1' : decide ((i : Int) < NL) = true := by simpa using h1
        by_cases h2 : i < 40
        · have h2' : decide ((i : Int) < 40) = true := by simp; omega
          clear h1
          have hsh := hide (shf (i : Int) (by omega))
          go_wp2_with fail
          refine (ishift_any (some ⟨gC, 0, none⟩) cC C (i : Int) _ hmC (chs_own (unhide S1).c)).mono ?_
          rintro e v2 ⟨rfl, b2⟩
          have S2 := hide ((unhide S1).later b2)
          clear b2 S1
          generalize shiftOf C (i : Int) = k at hsh
          by_cases hk : k < 0
          · have hk' : decide (k < 0) = true := by simpa using hk
            clear hk hsh
            go_wp2
            go_roundw
            case rel => exact ⟨i + 1, by omega, by go_num, S2⟩
            case measure => simp [intOf]; omega
          · have hk' : decide (k < 0) = false := by simpa using hk
            have hf := hide (unhide hsh (by omega))
            clear hk hsh
            go_wp2_with fail
            refine (iframe_any (some ⟨G, 0, none⟩) c L (i : Int) _ hmL (kls_own (unhide S2).l)).mono ?_
            rintro e v3 ⟨rfl, b3⟩
            have S3 := hide ((unhide S2).later b3)
            clear b3 S2
            go_wp2_with fail
            refine (iframe_any (some ⟨H, 0, none⟩) d M k _ hmM (kls_own (unhide S3).m)).mono ?_
            rintro e v4 ⟨rfl, b4⟩
            have S4 := hide ((unhide S3).later b4)
            clear b4 S3
            rw [unhide hf]
            generalize frameAt L (i : Int) = X
            obtain ⟨X1, X2⟩ := X
            have n1 : (X1 != X1) = false := by simp
            have n2 : (X2 != X2) = false := by simp
            go_wp2
            go_roundw
            case rel => exact ⟨i + 1, by omega, by go_num, S4⟩
            case measure => simp [intOf]; omega
        · have h2' : decide ((i : Int) < 40) = false := by simp; omega
          clear h1
          go_wp2
          go_ret
          exact ⟨rfl, (unhide S1).b⟩
      · have h1' : decide ((i : Int) < NL) = false := by simpa using h1
        clear h1
        go_wp2
        go_ret
        exact ⟨rfl, (unhide S1).b⟩

end Go.Proofs.Ytfcjdempigoiiaa
