/-
  For every list of bytes that came in the law of Buffer answers true: a buffer is never above its room nor below nought, and fills when nothing is taken; no conditions.
-/
import Derived.Test.YtcchgjeopmaemaaRRRDrB
import Derived.Test.YtcchgjeopmaemaaRRRSBf
import Derived.Test.YtcchgjeopmaemaaRRRBfQ
import Derived.Test.YtcchgjeopmaemaaRRRBg
namespace Go.Proofs.YtcchgjeopmaemaaRRR
open Go.RowKit
set_option linter.unusedVariables false
set_option linter.unusedSimpArgs false

set_option maxHeartbeats 3200000 in
theorem lawFB {W : World} (a : Option Addr) (len cap : Nat) (hr : RdB W W.heap.size a len) :
    Calls Try.prog 4 #[.slice a len cap] W fun e w' => e = .returned (.bool true) ∧ Below W.heap.size W w' := by
  have hr' := hide hr
  clear hr
  by_cases hbig : 4096 < len
  · have hbd := decide_eq_true hbig
    go_enter Try.func4, Try.ntmps4
    go_wp2_with fail
    refine (big_any a len cap true _ hbd).mono ?_
    rintro e w1 ⟨rfl, rfl⟩
    go_wp2
    go_ret
    exact ⟨rfl, Below.refl _ _⟩
  have hbd := decide_eq_false hbig
  have hl : len ≤ 4096 := by omega
  clear hbig
  go_enter Try.func4, Try.ntmps4
  go_wp2_with fail
  refine (big_any a len cap false _ hbd).mono ?_
  rintro e w9 ⟨rfl, hw0⟩
  have hw1 := hw0.symm
  subst hw1
  go_wp2_with fail
  refine (dbuf_any a len cap _ (by omega) (by omega) (unhide hr')).mono ?_
  rintro e w1 ⟨A, ca, L, r, m, rfl, hLn, hI, hb⟩
  have I := hide hI
  have H := hide hb
  have hLm' := hide (show L.length ≤ maxLen by unfold maxLen; omega)
  clear hI hb hbd
  obtain ⟨T, hT⟩ : ∃ T, bufOf L r m = T := ⟨_, rfl⟩
  have hT' := hide hT
  have hTn : T.length ≤ 1000 := by rw [← hT]; exact buf_len L r m
  have hF := hide (fun i x (hx : T[i]? = some x) => buf_fact L r m (i := i) (x := x) (by rw [hT]; exact hx))
  clear hT
  go_wp2_with fail
  refine (ibuf_any A ca L r m _ (unhide hLm') (unhide I)).mono ?_
  rintro e w2 hS
  rw [unhide hT'] at hS
  obtain ⟨G1, c1, rfl, q1, o1, k1⟩ := hS
  have I := hide ((unhide I).below k1)
  have H := hide (laterB (unhide H) k1)
  have O1 := hide o1
  clear k1 o1 q1
  go_wp2_with fail
  refine (sbuf_any A ca L r m _ (unhide hLm') (unhide I)).mono ?_
  rintro e w3 hS
  rw [unhide hT'] at hS
  obtain ⟨G2, c2, rfl, q2, o2, k2⟩ := hS
  have I := hide ((unhide I).below k2)
  have H := hide (laterB (unhide H) k2)
  have O1 := hide (ownsRow_below (unhide O1) k2)
  have O2 := hide o2
  clear k2 o2 q2
  go_wp2_with fail
  refine (same_any _ _ _ _ T _ (by omega) (ins_own (unhide O1)) (ins_own (unhide O2))).mono ?_
  rintro e w4 ⟨rfl, k3⟩
  have I := hide ((unhide I).below k3)
  have H := hide (laterB (unhide H) k3)
  have I1 := hide (ins_own (ownsRow_below (unhide O1) k3))
  clear k3 O1 O2
  go_wp2
  go_loop [7] (fun t => ∃ k : Nat, k ≤ T.length ∧ t = .int .i64 k) (fun t => T.length - (intOf t).toNat)
  case atStart => exact ⟨0, by omega, rfl⟩
  case round =>
    obtain ⟨k, hk, rfl⟩ := hrel
    by_cases hlt : k < T.length
    · obtain ⟨b, o, x, hab, hx, hbl, c0⟩ := ins_at (unhide I1) (Below.refl _ _) hlt
      injection hab with hab
      injection hab with e1 e2
      subst e1 e2
      rw [Nat.zero_add] at c0
      obtain ⟨s, hs, x1, x2, x3, x4⟩ := unhide hF k x hx
      have hsl : k < L.length := (List.getElem?_eq_some_iff.1 hs).1
      obtain ⟨b2, o2, s', hA2, hs', hbl2, d0⟩ := ins_at (unhide I) (Below.refl _ _) hsl
      rw [hs] at hs'
      injection hs' with hs'
      subst hs'
      subst hA2
      have hd1 : decide (x < -1) = false := decide_eq_false (by omega)
      have hd2 : decide (m < x) = false := decide_eq_false (by omega)
      have u1 : (k : Int) < L.length := by omega
      clear hx hs hbl hbl2
      by_cases hx0 : 0 ≤ x
      · have hd3 : decide (0 ≤ x) = true := decide_eq_true hx0
        have hd4 : decide (m < s) = false := decide_eq_false (by have := x3 hx0; omega)
        have hd6 : decide (x < 0) = false := decide_eq_false (by omega)
        by_cases hs0 : s = 0
        · have hd5 : (s == 0) = true := by simpa using hs0
          clear x3 x4 hs0
          go_wp2
          go_round
          case rel => exact ⟨k + 1, by omega, by go_num⟩
          case measure => simp [intOf]; omega
        · have hd5 : (s == 0) = false := by simpa using hs0
          clear x3 x4 hs0
          go_wp2
          go_round
          case rel => exact ⟨k + 1, by omega, by go_num⟩
          case measure => simp [intOf]; omega
      · have hd3 : decide (0 ≤ x) = false := decide_eq_false hx0
        have hd5 : (s == 0) = false := by
          simp; intro h; exact hx0 (x4 h)
        clear x3 x4
        go_wp2
        go_round
        case rel => exact ⟨k + 1, by omega, by go_num⟩
        case measure => simp [intOf]; omega
    · have hke : k = T.length := by omega
      go_wp2
      go_ret
      exact ⟨rfl, unhide H⟩

end Go.Proofs.YtcchgjeopmaemaaRRR
