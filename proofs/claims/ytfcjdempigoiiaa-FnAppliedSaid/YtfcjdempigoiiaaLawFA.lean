/-
  For every list of bytes: what the drawn changes make of the drawn cut comes back when they are turned, whatever list of changes it is; no condition.
-/
import Derived.Test.YtfcjdempigoiiaaDrP
import Derived.Test.YtfcjdempigoiiaaFrB
import Derived.Test.YtfcjdempigoiiaaITn
import Derived.Test.YtfcjdempigoiiaaSAp
import Derived.Test.YtfcjdempigoiiaaCgP
import Derived.Test.YtfcjdempigoiiaaSmC
namespace Go.Proofs.Ytfcjdempigoiiaa
open Go.RowKit
set_option linter.unusedVariables false
set_option linter.unusedSimpArgs false

theorem fa_none {L : List Kl} {C : List Ch} (h : applyOf L C = none) : turnedOf L C = none := by
  unfold turnedOf
  rw [h]; rfl
theorem fa_some {L b : List Kl} {C : List Ch} (h : applyOf L C = some b) : turnedOf L C = some (tnUp L C C.length) ∧ joinOf L = join L ∧ (join L).length ≤ 300 ∧ b.length ≤ 300 ∧ (tnUp L C C.length).length ≤ 100000
    ∧ ((tnUp L C C.length).length ≤ 300 → applyOf b (tnUp L C C.length) = some (join L)) := by
  obtain ⟨hl, hcs, ho⟩ := apply_some (l := L) (cs := C) (by rw [h]; rfl)
  have ht : turnedOf L C = some (tnUp L C C.length) := by unfold turnedOf; rw [h]; rfl
  have hb := apply_len L C
  rw [h] at hb
  have hn := turned_len L C
  rw [ht] at hn
  exact ⟨ht, if_pos hl, (join_tok hl).1, hb, hn, applied_back h⟩

/-- the cut, the changes, and what was there -/
structure PS (W wr : World) (G c : Nat) (L : List Kl) (gC cC : Nat) (C : List Ch) : Prop where
  l : Own wr 0 G L.length c L
  c : OwnC wr 0 gC C.length cC C
  b : Below W.heap.size W wr
theorem PS.later {W wr w1 : World} {G c : Nat} {L : List Kl} {gC cC : Nat} {C : List Ch} (h : PS W wr G c L gC cC C) (hb : Below wr.heap.size wr w1) : PS W w1 G c L gC cC C :=
  ⟨ownsRow_below h.l hb, ownsRow_below h.c hb, laterB h.b hb⟩

set_option maxRecDepth 10000 in
set_option maxHeartbeats 6400000 in
theorem lawFA {W : World} (a : Option Addr) (len cap : Nat) (hr : RdB W W.heap.size a len) :
    Calls Try.prog 4 #[.slice a len cap] W fun e w' => e = .returned (.bool true) ∧ Below W.heap.size W w' := by
  have hr' := hide hr
  clear hr
  by_cases hbig : (4096 : Int) < len
  · have hb' := hide (decide_eq_true hbig)
    clear hbig
    go_enter Try.func4, Try.ntmps4
    go_wp2_with fail
    refine (big_any a len cap true _ (unhide hb')).mono ?_
    rintro e w0 ⟨rfl, hw0⟩
    have hw1 := hw0.symm
    subst hw1
    go_wp2
    go_ret
    exact ⟨rfl, Below.refl _ _⟩
  have hb' := hide (decide_eq_false hbig)
  have hl : len ≤ 4096 := by omega
  clear hbig
  go_enter Try.func4, Try.ntmps4
  go_wp2_with fail
  refine (big_any a len cap false _ (unhide hb')).mono ?_
  rintro e w0 ⟨rfl, hw0⟩
  have hw1 := hw0.symm
  subst hw1
  clear hb'
  go_wp2_with fail
  refine (dapl_any a len cap _ hl (unhide hr')).mono ?_
  rintro e w1 ⟨G, c, L, gC, cC, C, rfl, hLl, hCl, oL, oC, B1⟩
  have hmL : L.length ≤ maxLen := by unfold maxLen; omega
  have hmC : C.length ≤ maxLen := by unfold maxLen; omega
  have S1 := hide (show PS W w1 G c L gC cC C from ⟨own_mono oL (Nat.zero_le _), own_mono oC (Nat.zero_le _), B1⟩)
  clear oL oC B1 hr'
  obtain ⟨R, hR⟩ : ∃ R, applyOf L C = R := ⟨_, rfl⟩
  have hR' := hide hR
  have hRl : (outL R).length ≤ 300 := by rw [← hR]; exact apply_len L C
  clear hR
  go_wp2_with fail
  refine (iapply_any (some ⟨G, 0, none⟩) (some ⟨gC, 0, none⟩) c cC L C _ hmL hmC (kls_own (unhide S1).l) (chs_own (unhide S1).c)).mono ?_
  rintro e w2 hE
  rw [unhide hR'] at hE
  obtain ⟨g2, c2, rfl, q2, n2, b2⟩ := hE
  have S2 := hide ((unhide S1).later b2)
  have o2 := hide (own_mono n2 (Nat.zero_le _))
  clear q2 n2 b2 S1
  go_wp2_with fail
  refine (sapply_any (some ⟨G, 0, none⟩) (some ⟨gC, 0, none⟩) c cC L C _ hmL hmC (kls_own (unhide S2).l) (chs_own (unhide S2).c)).mono ?_
  rintro e w3 hE
  rw [unhide hR'] at hE
  obtain ⟨g3, c3, rfl, q3, n3, b3⟩ := hE
  have S3 := hide ((unhide S2).later b3)
  have o3 := hide (ownsRow_below (unhide o2) b3)
  have p3 := hide (own_mono n3 (Nat.zero_le _))
  clear q3 n3 b3 S2 o2
  cases R with
  | none =>
    have e0 : outL none = [] := rfl
    have e1 : (none : Option (List Kl)).isSome = false := rfl
    rw [e0] at o3 p3 ⊢
    rw [e1]
    have hT := hide (fa_none (unhide hR'))
    clear e0 e1
    go_wp2_with fail
    refine (sames_any _ _ _ _ [] _ (by simp) (kls_own (unhide o3)) (kls_own (unhide p3))).mono ?_
    rintro e w4 ⟨rfl, b4⟩
    have S4 := hide ((unhide S3).later b4)
    clear b4 S3 o3 p3
    go_wp2_with fail
    refine (iturned_any (some ⟨G, 0, none⟩) (some ⟨gC, 0, none⟩) c cC L C _ hmL hmC (kls_own (unhide S4).l) (chs_own (unhide S4).c)).mono ?_
    rintro e w5 hE
    rw [unhide hT] at hE
    obtain ⟨g5, c5, rfl, q5, n5, b5⟩ := hE
    have S5 := hide ((unhide S4).later b5)
    have e0 : outC none = [] := rfl
    have e1 : (none : Option (List Ch)).isSome = false := rfl
    rw [e0, e1]
    clear b5 n5 q5 S4 e0 e1
    go_wp2
    go_ret
    exact ⟨rfl, (unhide S5).b⟩
  | some b =>
    have e0 : outL (some b) = b := rfl
    have e1 : (some b).isSome = true := rfl
    rw [e0] at o3 p3 ⊢
    rw [e1]
    clear e0 e1
    obtain ⟨a1, a2, a3, a4, a5, a6⟩ := fa_some (unhide hR')
    generalize tnUp L C C.length = T at a1 a5 a6
    generalize join L = JL at a2 a3 a6
    have tn1 := hide a1
    have jL := hide a2
    have ap2 := hide a6
    have hmT : T.length ≤ maxLen := by unfold maxLen; omega
    have hmb : b.length ≤ maxLen := by unfold maxLen; omega
    clear a1 a2 a6
    go_wp2_with fail
    refine (sames_any _ _ _ _ b _ (by omega) (kls_own (unhide o3)) (kls_own (unhide p3))).mono ?_
    rintro e w4 ⟨rfl, b4⟩
    have S4 := hide ((unhide S3).later b4)
    have o4 := hide (ownsRow_below (unhide o3) b4)
    clear b4 S3 o3 p3
    go_wp2_with fail
    refine (iturned_any (some ⟨G, 0, none⟩) (some ⟨gC, 0, none⟩) c cC L C _ hmL hmC (kls_own (unhide S4).l) (chs_own (unhide S4).c)).mono ?_
    rintro e w5 hE
    rw [unhide tn1] at hE
    obtain ⟨g5, c5, rfl, q5, n5, b5⟩ := hE
    have S5 := hide ((unhide S4).later b5)
    have o5 := hide (ownsRow_below (unhide o4) b5)
    have e0 : outC (some T) = T := rfl
    have e1 : (some T).isSome = true := rfl
    rw [e0] at n5 ⊢
    rw [e1]
    have t5 := hide (own_mono n5 (Nat.zero_le _))
    clear b5 n5 q5 S4 o4 e0 e1
    by_cases hT : T.length ≤ 300
    · have ht1 : decide ((300 : Int) < T.length) = false := by rw [decide_eq_false_iff_not]; omega
      have ap3 := hide (unhide ap2 hT)
      clear hT ap2
      go_wp2_with fail
      refine (iapply_any (some ⟨g2, 0, none⟩) (some ⟨g5, 0, none⟩) c2 c5 b T _ hmb hmT (kls_own (unhide o5)) (chs_own (unhide t5))).mono ?_
      rintro e w6 hE
      rw [unhide ap3] at hE
      obtain ⟨g6, c6, rfl, q6, n6, b6⟩ := hE
      have S6 := hide ((unhide S5).later b6)
      have e0 : outL (some JL) = JL := rfl
      have e1 : (some JL).isSome = true := rfl
      rw [e0] at n6 ⊢
      rw [e1]
      have o6 := hide (own_mono n6 (Nat.zero_le _))
      clear b6 n6 q6 S5 o5 t5 e0 e1 ap3
      go_wp2_with fail
      refine (ijoined_any (some ⟨G, 0, none⟩) c L _ hmL (kls_own (unhide S6).l)).mono ?_
      rintro e w7 hE
      rw [unhide jL] at hE
      obtain ⟨g7, c7, rfl, q7, n7, b7⟩ := hE
      have S7 := hide ((unhide S6).later b7)
      have o7 := hide (ownsRow_below (unhide o6) b7)
      have j7 := hide (own_mono n7 (Nat.zero_le _))
      clear b7 n7 q7 S6 o6
      go_wp2_with fail
      refine (sames_any _ _ _ _ JL _ (by omega) (kls_own (unhide o7)) (kls_own (unhide j7))).mono ?_
      rintro e w8 ⟨rfl, b8⟩
      have S8 := hide ((unhide S7).later b8)
      clear b8 S7 o7 j7
      go_wp2
      go_ret
      exact ⟨rfl, (unhide S8).b⟩
    · have ht1 : decide ((300 : Int) < T.length) = true := by rw [decide_eq_true_iff]; omega
      clear hT ap2
      go_wp2
      go_ret
      exact ⟨rfl, (unhide S5).b⟩

end Go.Proofs.Ytfcjdempigoiiaa
