/-
  For every list of bytes that came in the law of Turn answers true: turned twice, a block is sixteen times itself; no conditions.
-/
import Derived.Test.YtcchgjeopmaemaaRRRDrT
import Derived.Test.YtcchgjeopmaemaaRRRITn
import Derived.Test.YtcchgjeopmaemaaRRRTtP
import Derived.Test.YtcchgjeopmaemaaRRRBg
namespace Go.Proofs.YtcchgjeopmaemaaRRR
open Go.RowKit
set_option linter.unusedVariables false
set_option linter.unusedSimpArgs false

set_option maxHeartbeats 3200000 in
theorem lawFT {W : World} (a : Option Addr) (len cap : Nat) (hr : RdB W W.heap.size a len) :
    Calls Try.prog 3 #[.slice a len cap] W fun e w' => e = .returned (.bool true) ∧ Below W.heap.size W w' := by
  have hr' := hide hr
  clear hr
  by_cases hbig : 4096 < len
  · have hbd := decide_eq_true hbig
    go_enter Try.func3, Try.ntmps3
    go_wp2_with fail
    refine (big_any a len cap true _ hbd).mono ?_
    rintro e w1 ⟨rfl, rfl⟩
    go_wp2
    go_ret
    exact ⟨rfl, Below.refl _ _⟩
  have hbd := decide_eq_false hbig
  have hl : len ≤ 4096 := by omega
  clear hbig
  go_enter Try.func3, Try.ntmps3
  go_wp2_with fail
  refine (big_any a len cap false _ hbd).mono ?_
  rintro e w9 ⟨rfl, hw0⟩
  have hw1 := hw0.symm
  subst hw1
  go_wp2_with fail
  refine (dturn_any a len cap _ (by omega) (by omega) (unhide hr')).mono ?_
  rintro e w1 ⟨A, ca, L, rfl, hLn, hI, hb⟩
  have I := hide hI
  have H := hide hb
  have hLm : L.length ≤ maxLen := by unfold maxLen; omega
  have hLm' := hide hLm
  clear hI hb hLm hbd
  obtain ⟨T, hT⟩ : ∃ T, trnOf L = T := ⟨_, rfl⟩
  have hT' := hide hT
  have hTn : T.length ≤ 1000 := by rw [← hT]; exact trn_len L
  have hT6 := hide (show T = [] ∨ (TnOk L ∧ T = fl (trn (nth L)) 16) by
    by_cases h : TnOk L
    · exact Or.inr ⟨h, by rw [← hT, trn_yes h]⟩
    · exact Or.inl (by rw [← hT, trn_no h]))
  clear hT
  go_wp2_with fail
  refine (iturn_any A ca L _ (unhide hLm') (unhide I)).mono ?_
  rintro e w2 hS
  rw [unhide hT'] at hS
  obtain ⟨t1, G1, c1, rfl, q1, o1, k1⟩ := hS
  have I := hide ((unhide I).below k1)
  have H := hide (laterB (unhide H) k1)
  have O1 := hide o1
  clear k1 o1 q1
  go_wp2_with fail
  refine (sturn_any A ca L _ (unhide hLm') (unhide I)).mono ?_
  rintro e w3 hS
  rw [unhide hT'] at hS
  obtain ⟨G2, c2, rfl, q2, o2, k2⟩ := hS
  have I := hide ((unhide I).below k2)
  have H := hide (laterB (unhide H) k2)
  have O1 := hide (ownsRow_below (unhide O1) k2)
  have O2 := hide o2
  clear k2 o2 q2
  go_wp2_with fail
  refine (same_any _ _ _ _ T _ (by omega) (ins_ownX (unhide O1)) (ins_own (unhide O2))).mono ?_
  rintro e w4 ⟨rfl, k3⟩
  have I := hide ((unhide I).below k3)
  have H := hide (laterB (unhide H) k3)
  have O1 := hide (ownsRow_below (unhide O1) k3)
  clear k3 O2
  rcases unhide hT6 with hnil | ⟨hOk, hTe⟩
  · have hn0 : T.length = 0 := by rw [hnil]; rfl
    rw [hn0]
    clear hnil hn0
    go_wp2
    go_ret
    exact ⟨rfl, unhide H⟩
  have hOk' := hide hOk
  have hTe' := hide hTe
  have h16 : T.length = 16 := by rw [hTe, fl_len]
  have h16' := hide h16
  have e16 : ((16 : Int) == 0) = false := by decide
  rw [h16] at O1 ⊢
  clear hOk hTe h16 hT6 hTn
  have I1 := hide (ins_ownX (unhide O1))
  clear O1
  go_wp2
  go_loop [5] (fun t => ∃ k : Nat, k ≤ 16 ∧ t = .int .i64 k ∧ Hid (NsPre By7 T k)) (fun t => 16 - (intOf t).toNat)
  case atStart => exact ⟨0, by omega, rfl, hide (NsPre.zero _ T)⟩
  case round =>
    obtain ⟨k, hk, rfl, hA⟩ := hrel
    by_cases hlt : k < 16
    · obtain ⟨b, o, x, hab, hx, hbl, c0⟩ := ins_at (unhide I1) (Below.refl _ _) (show k < T.length by rw [unhide h16']; exact hlt)
      injection hab with hab
      injection hab with e1 e2
      subst e1 e2
      rw [Nat.zero_add] at c0
      have hx' := hide hx
      clear hx hbl
      by_cases f1 : 10000000 < x
      · have hd1 : decide (10000000 < x) = true := decide_eq_true f1
        go_wp2
        go_ret
        exact ⟨rfl, unhide H⟩
      · have hd1 : decide (10000000 < x) = false := decide_eq_false f1
        by_cases f2 : x < -10000000
        · have hd2 : decide (x < -10000000) = true := decide_eq_true f2
          go_wp2
          go_ret
          exact ⟨rfl, unhide H⟩
        · have hd2 : decide (x < -10000000) = false := decide_eq_false f2
          have hnew := hide ((unhide hA).step (unhide hx') (show By7 x from ⟨by omega, by omega⟩))
          clear hA
          go_wp2
          go_round
          case rel => exact ⟨k + 1, by omega, by go_num, hnew⟩
          case measure => simp [intOf]; omega
    · have hke : k = 16 := by omega
      subst hke
      have hOkT : Hid (TnOk T) := hide ⟨unhide h16', NsPre.all (by rw [unhide h16']; exact unhide hA)⟩
      have hTT := hide (show trnOf T = fl (fun i => 16 * nth L i) 16 by
        have := trnOf_twice (unhide hOk') (by rw [unhide hT']; exact unhide hOkT)
        rw [unhide hT'] at this; exact this)
      have hTm := hide (show T.length ≤ maxLen by rw [unhide h16']; unfold maxLen; omega)
      have i1 := iturn_any (some ⟨G1, 0, none⟩) c1 T w4 (unhide hTm) (unhide I1)
      rw [unhide h16'] at i1
      have i1' := hide i1
      clear i1 hA hLn
      go_wp2_with fail
      refine (unhide i1').mono ?_
      rintro e w5 hS
      rw [unhide hTT] at hS
      obtain ⟨t5, G5, c5, rfl, q5, o5, k5⟩ := hS
      have I := hide ((unhide I).below k5)
      have H := hide (laterB (unhide H) k5)
      have I5 := hide (ins_ownX o5)
      clear k5 o5 q5 I1 i1'
      rw [fl_len]
      have L16 := hide (unhide hOk').1
      have Lbd := hide (unhide hOk').2
      go_wp2
      go_loopw [7] (fun t wr => ∃ k : Nat, k ≤ 16 ∧ t = .int .i64 k ∧ Hid (Below w5.heap.size w5 wr)) (fun t _ => 16 - (intOf t).toNat)
      case atStart => exact ⟨0, by omega, rfl, hide (Below.refl _ _)⟩
      case round =>
        obtain ⟨k, hk, rfl, hw⟩ := hrel
        by_cases hlt : k < 16
        · obtain ⟨b1, o1, y, hab, hy, hbl, c0⟩ := ins_at (unhide I5) (unhide hw) (show k < (fl (fun i => 16 * nth L i) 16).length by rw [fl_len]; exact hlt)
          injection hab with hab
          injection hab with e1 e2
          subst e1 e2
          rw [Nat.zero_add] at c0
          rw [fl_at _ hlt] at hy
          injection hy with hy
          subst hy
          obtain ⟨b2, o2, x, hA2, hx, hbl2, d0⟩ := ins_at (unhide I) (unhide hw) (show k < L.length by rw [unhide L16]; exact hlt)
          have hx2 := nth_at (l := L) (i := k) (by rw [unhide L16]; exact hlt)
          rw [hx2] at hx
          injection hx with hx
          have hxb := unhide Lbd _ (List.mem_of_getElem? hx2)
          rw [hx] at hxb c0
          unfold By7 at hxb
          obtain ⟨xb1, xb2⟩ := hxb
          have hAx := hide hA2
          subst hA2
          have L16' := unhide L16
          have u0 : (k : Int) < 16 := by omega
          have u1 : (k : Int) < L.length := by rw [L16']; omega
          have e9 : ((16 * x) != (16 * x)) = false := by simp
          clear hx hx2 hbl hbl2 L16'
          go_wp2_with fail
          go_quiet (fail)
          go_wp2
          go_roundw
          case rel => exact ⟨k + 1, by omega, by go_num, hide (below_drewN (unhide hw) _)⟩
          case measure => simp [intOf]; omega
        · have hke : k = 16 := by omega
          go_wp2
          go_ret
          exact ⟨rfl, laterB (unhide H) (unhide hw)⟩

end Go.Proofs.YtcchgjeopmaemaaRRR
