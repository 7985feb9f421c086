/-
  For every list of bytes: of the keys, the source and the number that are drawn of them the track that is retimed shows at each frame what the speed tells; the program answers as its model does; no conditions.
-/
import Derived.Test.YtbmkbhondlecaaaIFa
import Derived.Test.YtbmkbhondlecaaaIRv
import Derived.Test.YtbmkbhondlecaaaSRt
import Derived.Test.YtbmkbhondlecaaaDrS
namespace Go.Proofs.Ytbmkbhondlecaaa.Y
open Go.RowKit
open Go.Proofs.Ytbmkbhondlecaaa
set_option linter.unusedVariables false
set_option linter.unusedSimpArgs false

set_option maxHeartbeats 6400000 in
theorem lawFR {W : World} (a : Option Addr) (len cap : Nat) (hr : RdB W W.heap.size a len) :
    Calls Try.prog 4 #[.slice a len cap] W fun e w' => e = .returned (.bool true) ∧ Below W.heap.size W w' := by
  have hr' := hide hr
  clear hr
  by_cases hbig : 4096 < len
  · have hbd := decide_eq_true hbig
    go_enter Try.func4, Try.ntmps4
    go_wp2_with fail
    refine (big_any a len cap true _ hbd).mono ?_
    rintro e w1 ⟨rfl, rfl⟩
    go_wp2
    go_ret
    exact ⟨rfl, Below.refl _ _⟩
  have hbd := decide_eq_false hbig
  go_enter Try.func4, Try.ntmps4
  go_wp2_with fail
  refine (big_any a len cap false _ hbd).mono ?_
  rintro e w0 ⟨rfl, hw0⟩
  have hw1 := hw0.symm
  subst hw1
  go_wp2_with fail
  refine (drt_any a len cap W (by omega) (unhide hr')).mono ?_
  rintro e w1 ⟨r, c, n, s, q, rfl, hn, hwr, ⟨L, hLn, hO0⟩, H0⟩
  have hO1 := hide hO0
  have H1 := hide H0
  subst hLn
  clear hO0 H0 hr'
  have hmx : L.length ≤ maxLen := by unfold maxLen; omega
  obtain ⟨R, hR⟩ : ∃ R, retOf L s q = R := ⟨_, rfl⟩
  have hR' := hide hR
  clear hR
  obtain ⟨v, hv⟩ : ∃ v, R.isSome = v := ⟨_, rfl⟩
  have hv' := hide hv
  have e1 : (v != v) = false := by simp
  clear hv
  obtain ⟨U, hU⟩ : ∃ U, outL R = U := ⟨_, rfl⟩
  have hU' := hide hU
  have hU3 : U.length ≤ 300 := by rw [← hU, ← unhide hR']; exact ret_len L s q
  clear hU
  go_wp2_with fail
  refine (iret_any (some ⟨r, 0, none⟩) c L s q R _ hmx (kys_own (unhide hO1)) (unhide hR')).mono ?_
  rintro e w2 ⟨g2, c2, rfl, hg2, ho2, k2⟩
  rw [unhide hU'] at ho2 ⊢
  rw [unhide hv']
  have hO2 := hide (ownsRow_below (unhide hO1) k2)
  have oU := hide (own_mono ho2 (Nat.zero_le _))
  have H2 := hide (laterB (unhide H1) k2)
  clear k2 hO1 H1 ho2 hg2
  go_wp2_with fail
  refine (sret_any (some ⟨r, 0, none⟩) c L s q R _ hmx (kys_own (unhide hO2)) (unhide hR')).mono ?_
  rintro e w3 ⟨g3, c3, rfl, hg3, ho3, k3⟩
  rw [unhide hU'] at ho3 ⊢
  rw [unhide hv']
  have hO3 := hide (ownsRow_below (unhide hO2) k3)
  have oU := hide (ownsRow_below (unhide oU) k3)
  have H3 := hide (laterB (unhide H2) k3)
  clear k3 hO2 H2 ho3 hg3
  cases v with
  | false =>
    have hn0 : U.length = 0 := by
      have h1 := unhide hv'
      have h2 := unhide hU'
      cases R with
      | none => rw [← h2]; rfl
      | some x => cases h1
    have hu0 : ((U.length : Int) == 0) = true := by rw [hn0]; rfl
    clear hn0
    go_wp2
    go_ret
    exact ⟨rfl, unhide H3⟩
  | true =>
    have hsome : retOf L s q = some U := by
      have h1 := unhide hv'
      have h2 := unhide hU'
      rw [unhide hR']
      cases R with
      | none => cases h1
      | some x => rw [← h2]; rfl
    obtain ⟨hK, hS, hq, hT, hcl, hsee⟩ := ret_sees hsome
    obtain ⟨m, rfl⟩ : ∃ m : Nat, q = m := ⟨q.toNat, by have := hq.1; omega⟩
    have hm2 : m ≤ 2000 := by have := hq.2; omega
    have hfa := hide (fun (k : Nat) (W2 : World) (hk : k < m) (hb : Below w3.heap.size w3 W2) => ifat_any (some ⟨g2, 0, none⟩) c2 U (k : Int) s (spAt L (k : Int)).1 W2 hT (by omega) (by omega) ((kls_own (unhide oU)).below hb) (by rw [← hsee (k : Int) (by omega) (by omega), frameAt_yes hT (by omega)]))
    have hsp := hide (fun (k : Nat) (W2 : World) (hk : k < m) (hb : Below w3.heap.size w3 W2) => ispeed_any (some ⟨r, 0, none⟩) c L (k : Int) (spAt L (k : Int)).1 W2 hmx ((kys_own (unhide hO3)).below hb) (speed_yes hK ⟨by omega, by omega⟩))
    have hle := hide (fun (W2 : World) (hb : Below w3.heap.size w3 W2) => ilen_any (some ⟨g2, 0, none⟩) c2 U (m : Int) W2 hT hcl ((kls_own (unhide oU)).below hb))
    have es : (s != s) = false := by simp
    clear hK hS hq hT hcl hsee hsome
    go_wp2
    go_loopw [10] (fun y wr => ∃ k : Nat, k ≤ m ∧ y = .int .i64 (k : Nat) ∧ Hid (Below w3.heap.size w3 wr)) (fun y _ => m - (intOf y).toNat)
    case atStart => exact ⟨0, by omega, rfl, hide (Below.refl _ _)⟩
    case round =>
      obtain ⟨k, hk, rfl, hw⟩ := hrel
      by_cases hlt : k < m
      · have hltI : decide ((k : Int) < (m : Int)) = true := by simp; omega
        by_cases h60 : k < 60
        · have h6 : decide ((k : Int) < 60) = true := by simp; omega
          have hf1 := hide (unhide hfa k wr hlt (unhide hw))
          have hs1 := hide (fun (W2 : World) (hb : Below w3.heap.size w3 W2) => unhide hsp k W2 hlt hb)
          obtain ⟨f, hf⟩ : ∃ f, (spAt L (k : Int)).1 = f := ⟨_, rfl⟩
          rw [hf] at hf1 hs1
          have ef : (f != f) = false := by simp
          clear hf
          go_wp2_with fail
          refine (unhide hf1).mono ?_
          rintro e w5 ⟨rfl, k5⟩
          have hw5 := hide (laterB (unhide hw) k5)
          clear k5 hf1 hw
          go_wp2_with fail
          refine (unhide hs1 _ (unhide hw5)).mono ?_
          rintro e w6 ⟨rfl, k6⟩
          have hw6 := hide (laterB (unhide hw5) k6)
          clear k6 hs1 hw5
          go_wp2
          go_roundw
          case rel => exact ⟨k + 1, by omega, by go_num, hw6⟩
          case measure => simp [intOf]; omega
        · have h6 : decide ((k : Int) < 60) = false := by simp; omega
          have h6N : decide (k < 60) = false := decide_eq_false h60
          have em : (m == m) = true := by simp
          have em2 : ((m : Int) == (m : Int)) = true := by simp
          go_wp2_with fail
          refine (unhide hle _ (unhide hw)).mono ?_
          rintro e w5 ⟨rfl, k5⟩
          have hw5 := hide (laterB (unhide H3) (laterB (unhide hw) k5))
          clear k5
          go_wp2
          go_ret
          exact ⟨rfl, unhide hw5⟩
      · have hltI : decide ((k : Int) < (m : Int)) = false := by simp; omega
        have hltN : decide (k < m) = false := decide_eq_false hlt
        have em2 : ((m : Int) == (m : Int)) = true := by simp
        go_wp2_with fail
        refine (unhide hle _ (unhide hw)).mono ?_
        rintro e w5 ⟨rfl, k5⟩
        have hw5 := hide (laterB (unhide H3) (laterB (unhide hw) k5))
        clear k5
        go_wp2
        go_ret
        exact ⟨rfl, unhide hw5⟩
end Go.Proofs.Ytbmkbhondlecaaa.Y
