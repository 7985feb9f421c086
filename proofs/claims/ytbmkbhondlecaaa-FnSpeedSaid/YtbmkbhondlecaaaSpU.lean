/-
  Contracts of the program's SpeedAt and Blend; nothing that was there is written.
-/
import Derived.Test.YtbmkbhondlecaaaSeI
import Derived.Lib.MinMax
namespace Go.Proofs.Ytbmkbhondlecaaa.Y
open Go.RowKit
open Go.Proofs.Ytbmkbhondlecaaa
set_option linter.unusedVariables false
set_option linter.unusedSimpArgs false

set_option maxHeartbeats 1600000 in
theorem ispeed_any (a : Option Addr) (cap : Nat) (l : List Ky) (t v : Int) (w : World) (hl : l.length ≤ maxLen) (hk : Kys w a l) (hv : speedOf l t = v) :
    Calls Try.prog 12 #[.slice a l.length cap, .int .i64 t] w fun e w' => e = .returned (.int .i64 v) ∧ Below w.heap.size w w' := by
  have hS := iseen_any a cap l t w hl hk
  clear hk hl
  by_cases h : KsOk l ∧ FrOk t
  · rw [seen_yes h.1 h.2] at hS
    rw [speed_yes h.1 h.2] at hv
    clear h
    generalize spAt l t = R at *
    obtain ⟨f, r, d⟩ := R
    simp only at hv hS
    subst hv
    have hS' := hide hS
    clear hS
    go_enter Try.func12, Try.ntmps12
    go_wp2_with fail
    refine (unhide hS').mono ?_
    rintro e w1 ⟨rfl, hb⟩
    have H := hide hb
    clear hb
    go_wp2
    go_ret
    exact ⟨rfl, (unhide H).alloc (unhide H).size _⟩
  · rw [seen_no h] at hS
    rw [speed_no h] at hv
    subst hv
    have hS' := hide hS
    clear hS h
    go_enter Try.func12, Try.ntmps12
    go_wp2_with fail
    refine (unhide hS').mono ?_
    rintro e w1 ⟨rfl, hb⟩
    have H := hide hb
    clear hb
    go_wp2
    go_ret
    exact ⟨rfl, (unhide H).alloc (unhide H).size _⟩

set_option maxHeartbeats 1600000 in
theorem iblend_any (a : Option Addr) (cap : Nat) (l : List Ky) (t : Int) (v : Int × Int × Int) (w : World) (hl : l.length ≤ maxLen) (hk : Kys w a l) (hv : blendOf l t = v) :
    Calls Try.prog 13 #[.slice a l.length cap, .int .i64 t] w fun e w' => e = .returned (tri v) ∧ Below w.heap.size w w' := by
  have hS := iseen_any a cap l t w hl hk
  clear hk hl
  by_cases h : KsOk l ∧ FrOk t
  · rw [seen_yes h.1 h.2] at hS
    have hin := (spAt_in h.1 t).2.2
    have hfr := spAt_fr h.1 t
    have hst := hide (fun e => (blend_still h.1 h.2 e).symm.trans hv)
    have hys := hide (fun e => (blend_yes h.1 h.2 e).symm.trans hv)
    clear h hv
    generalize spAt l t = R at *
    obtain ⟨f, r, d⟩ := R
    simp only at hst hys hin hfr hS
    have hS' := hide hS
    clear hS
    by_cases hd0 : d = 0
    · have hfv : v = (f, f, 0) := ((unhide hst) hd0).symm
      subst hfv
      have hdb : (d == 0) = true := by simp [hd0]
      clear hst hys hin hd0
      go_enter Try.func13, Try.ntmps13
      go_wp2_with fail
      refine (unhide hS').mono ?_
      rintro e w1 ⟨rfl, hb⟩
      have H := hide hb
      clear hb
      go_wp2_with fail
      go_quiet (fail)
      go_wp2
      exact bodyPost_ret (v := tri (f, f, 0)) (by simp [results, Try.results13, go_sem]) rfl ⟨rfl, below_drewN ((unhide H).alloc (unhide H).size _) _⟩
    · have hdb : (d == 0) = false := by simpa using hd0
      obtain ⟨r0, r1, r2⟩ : 0 ≤ r ∧ r < d ∧ d ≤ 10000000 := by rcases hin with h | h; exact absurd h.2 hd0; exact h
      obtain ⟨f0, f1⟩ := hfr
      have hd1 : 1 ≤ d := by omega
      obtain ⟨q, hq⟩ : ∃ q, r * 256 / d = q := ⟨_, rfl⟩
      have w1 : IntKind.i64.wrap (r * 256) = r * 256 := by rw [IntKind.wrap_i64]; omega
      have w2 : IntKind.i64.wrap ((r * 256).tdiv d) = q := by rw [IntWalk.i64_quo _ _ (by omega), hq]
      obtain ⟨m, hm⟩ : ∃ m, min (f + 1) 10000000 = m := ⟨_, rfl⟩
      have hfv : v = (f, m, q) := by rw [← unhide hys hd0, hq, hm]
      subst hfv
      have hm' := hide hm
      clear hst hys hin hq hm
      go_enter Try.func13, Try.ntmps13
      go_wp2_with fail
      refine (unhide hS').mono ?_
      rintro e w1 ⟨rfl, hb⟩
      have H := hide hb
      clear hb
      have hmm := unhide hm'
      go_wp2_with fail
      go_region
      go_wp2
      exact bodyPost_ret (v := tri (f, m, q)) (by simp [results, Try.results13, go_sem]) rfl ⟨rfl, below_drewN ((unhide H).alloc (unhide H).size _) _⟩
  · rw [seen_no h] at hS
    rw [blend_no h] at hv
    subst hv
    have hS' := hide hS
    clear hS h
    go_enter Try.func13, Try.ntmps13
    go_wp2_with fail
    refine (unhide hS').mono ?_
    rintro e w1 ⟨rfl, hb⟩
    have H := hide hb
    clear hb
    go_wp2
    exact bodyPost_ret (v := tri (-1, -1, -1)) (by simp [results, Try.results13, go_sem]) rfl ⟨rfl, (unhide H).alloc (unhide H).size _⟩
end Go.Proofs.Ytbmkbhondlecaaa.Y
