/-
  Contracts of the model's SpeedAt and Blend; nothing that was there is written.
-/
import Derived.Test.YtbmkbhondlecaaaSpS
import Derived.Test.YtbmkbhondlecaaaPt
namespace Go.Proofs.Ytbmkbhondlecaaa.Y
open Go.RowKit
open Go.Proofs.Ytbmkbhondlecaaa
set_option linter.unusedVariables false
set_option linter.unusedSimpArgs false

set_option maxHeartbeats 1600000 in
theorem sspeed_any (a : Option Addr) (cap : Nat) (l : List Ky) (t v : Int) (w : World) (hl : l.length ≤ maxLen) (hk : Kys w a l) (hv : speedOf l t = v) :
    Calls Try.prog 14 #[.slice a l.length cap, .int .i64 t] w fun e w' => e = .returned (.int .i64 v) ∧ Below w.heap.size w w' := by
  have hk' := hide hk
  have hl' := hide hl
  clear hk hl
  by_cases hK : KsOk l
  · have hK' := hide hK
    by_cases hF : FrOk t
    · have hF' := hide hF
      have hd := hide (decide_eq_true hF)
      have hR := hide (show (spAt l t).1 = v by rw [← hv, speed_yes hK hF])
      clear hK hF hv
      go_enter Try.func14, Try.ntmps14
      go_wp2_with fail
      refine (sks_any a cap l true _ (unhide hl') (unhide hk') ⟨fun _ => unhide hK', fun _ => rfl⟩).mono ?_
      rintro e w1 ⟨rfl, hb1⟩
      have H1 := hide hb1
      clear hb1
      go_wp2_with fail
      refine (sfr_any t true _ (unhide hd)).mono ?_
      rintro e w2 ⟨rfl, hw0⟩
      have hw1 := hw0.symm
      subst hw1
      go_wp2_with fail
      refine (sat_any a cap l t _ (unhide hK') (unhide hF') ((unhide hk').below (unhide H1))).mono ?_
      rintro e w3 ⟨rfl, hb3⟩
      have H3 := hide (laterB (unhide H1) hb3)
      clear hb3 H1
      generalize spAt l t = R at *
      obtain ⟨f, r, d⟩ := R
      have hfv : f = v := unhide hR
      subst hfv
      go_wp2
      go_ret
      exact ⟨rfl, unhide H3⟩
    · have hd := hide (decide_eq_false hF)
      rw [speed_no (fun h => hF h.2)] at hv
      subst hv
      clear hK hF
      go_enter Try.func14, Try.ntmps14
      go_wp2_with fail
      refine (sks_any a cap l true _ (unhide hl') (unhide hk') ⟨fun _ => unhide hK', fun _ => rfl⟩).mono ?_
      rintro e w1 ⟨rfl, hb1⟩
      have H1 := hide hb1
      clear hb1
      go_wp2_with fail
      refine (sfr_any t false _ (unhide hd)).mono ?_
      rintro e w2 ⟨rfl, hw0⟩
      have hw1 := hw0.symm
      subst hw1
      go_wp2
      go_ret
      exact ⟨rfl, unhide H1⟩
  · rw [speed_no (fun h => hK h.1)] at hv
    subst hv
    have hK' := hide hK
    clear hK
    go_enter Try.func14, Try.ntmps14
    go_wp2_with fail
    refine (sks_any a cap l false _ (unhide hl') (unhide hk') ⟨(fun h => by cases h), fun h => absurd h (unhide hK')⟩).mono ?_
    rintro e w1 ⟨rfl, hb1⟩
    have H1 := hide hb1
    clear hb1
    go_wp2
    go_ret
    exact ⟨rfl, unhide H1⟩

set_option maxHeartbeats 1600000 in
theorem sblend_any (a : Option Addr) (cap : Nat) (l : List Ky) (t : Int) (v : Int × Int × Int) (w : World) (hl : l.length ≤ maxLen) (hk : Kys w a l) (hv : blendOf l t = v) :
    Calls Try.prog 33 #[.slice a l.length cap, .int .i64 t] w fun e w' => e = .returned (tri v) ∧ Below w.heap.size w w' := by
  have hk' := hide hk
  have hl' := hide hl
  clear hk hl
  by_cases hK : KsOk l
  · have hK' := hide hK
    by_cases hF : FrOk t
    · have hF' := hide hF
      have hd := hide (decide_eq_true hF)
      have hin := (spAt_in hK t).2.2
      have hfr := spAt_fr hK t
      have hst := hide (fun e => (blend_still hK hF e).symm.trans hv)
      have hys := hide (fun e => (blend_yes hK hF e).symm.trans hv)
      clear hK hF hv
      go_enter Try.func33, Try.ntmps33
      go_wp2_with fail
      refine (sks_any a cap l true _ (unhide hl') (unhide hk') ⟨fun _ => unhide hK', fun _ => rfl⟩).mono ?_
      rintro e w1 ⟨rfl, hb1⟩
      have H1 := hide hb1
      clear hb1
      go_wp2_with fail
      refine (sfr_any t true _ (unhide hd)).mono ?_
      rintro e w2 ⟨rfl, hw0⟩
      have hw1 := hw0.symm
      subst hw1
      go_wp2_with fail
      refine (sat_any a cap l t _ (unhide hK') (unhide hF') ((unhide hk').below (unhide H1))).mono ?_
      rintro e w3 ⟨rfl, hb3⟩
      have H3 := hide (laterB (unhide H1) hb3)
      clear hb3 H1 hk' hK' hF' hd
      generalize spAt l t = R at *
      obtain ⟨f, r, d⟩ := R
      simp only at hst hys hin hfr ⊢
      by_cases hd0 : d = 0
      · have hfv : v = (f, f, 0) := ((unhide hst) hd0).symm
        subst hfv
        have hdb : (d == 0) = true := by simp [hd0]
        clear hst hys hin hd0
        go_wp2
        exact bodyPost_ret (v := tri (f, f, 0)) (by simp [results, Try.results33, go_sem]) rfl ⟨rfl, unhide H3⟩
      · have hdb : (d == 0) = false := by simpa using hd0
        obtain ⟨r0, r1, r2⟩ : 0 ≤ r ∧ r < d ∧ d ≤ 10000000 := by rcases hin with h | h; exact absurd h.2 hd0; exact h
        obtain ⟨f0, f1⟩ := hfr
        have hd1 : 1 ≤ d := by omega
        obtain ⟨q, hq⟩ : ∃ q, r * 256 / d = q := ⟨_, rfl⟩
        have w1 : IntKind.i64.wrap (r * 256) = r * 256 := by rw [IntKind.wrap_i64]; omega
        have w2 : IntKind.i64.wrap ((r * 256).tdiv d) = q := by rw [IntWalk.i64_quo _ _ (by omega), hq]
        obtain ⟨m, hm⟩ : ∃ m, min 10000000 (f + 1) = m := ⟨_, rfl⟩
        have hm2 : min (f + 1) 10000000 = m := by rw [← hm]; omega
        have hfv : v = (f, m, q) := by rw [← unhide hys hd0, hq, hm2]
        subst hfv
        have hm' := hide hm
        clear hst hys hin hq hm hm2
        go_wp2_with fail
        go_quiet ((go_at_call 57; exact Calls.quiet_of_same (min_any 10000000 (f + 1) m _ (unhide hm'))))
        go_wp2
        exact bodyPost_ret (v := tri (f, m, q)) (by simp [results, Try.results33, go_sem]) rfl ⟨rfl, below_drewN (unhide H3) _⟩
    · have hd := hide (decide_eq_false hF)
      rw [blend_no (fun h => hF h.2)] at hv
      subst hv
      clear hK hF
      go_enter Try.func33, Try.ntmps33
      go_wp2_with fail
      refine (sks_any a cap l true _ (unhide hl') (unhide hk') ⟨fun _ => unhide hK', fun _ => rfl⟩).mono ?_
      rintro e w1 ⟨rfl, hb1⟩
      have H1 := hide hb1
      clear hb1
      go_wp2_with fail
      refine (sfr_any t false _ (unhide hd)).mono ?_
      rintro e w2 ⟨rfl, hw0⟩
      have hw1 := hw0.symm
      subst hw1
      go_wp2
      exact bodyPost_ret (v := tri (-1, -1, -1)) (by simp [results, Try.results33, go_sem]) rfl ⟨rfl, unhide H1⟩
  · rw [blend_no (fun h => hK h.1)] at hv
    subst hv
    have hK' := hide hK
    clear hK
    go_enter Try.func33, Try.ntmps33
    go_wp2_with fail
    refine (sks_any a cap l false _ (unhide hl') (unhide hk') ⟨(fun h => by cases h), fun h => absurd h (unhide hK')⟩).mono ?_
    rintro e w1 ⟨rfl, hb1⟩
    have H1 := hide hb1
    clear hb1
    go_wp2
    exact bodyPost_ret (v := tri (-1, -1, -1)) (by simp [results, Try.results33, go_sem]) rfl ⟨rfl, unhide H1⟩
end Go.Proofs.Ytbmkbhondlecaaa.Y
