/-
  What the program makes of a track by an edit is what the model answers; plain facts.
-/
import Derived.Test.YtnmahojdaodlgaaEdA
namespace Go.Proofs.Ytnmahojdaodlgaa
open Go.RowKit
set_option linter.unusedVariables false
set_option linter.unusedSimpArgs false

theorem inr0 : InR 0 (-10000000) 10000000 := ⟨by omega, by omega⟩
theorem fIns (l : List Kl) (t : Int) (c : Kl) : (if TOk l ∧ InR 0 (-10000000) 10000000 then med (repl l t 0 [c]) else none) = insertS l t c := by
  by_cases h : TOk l
  · rw [if_pos ⟨h, inr0⟩, insert_eq h]
  · rw [if_neg (fun k => h k.1)]; exact (if_neg (fun k => h k.1)).symm
theorem fOvr (l : List Kl) (t c1 c2 c3 : Int) : (if TOk l ∧ InR 0 (-10000000) 10000000 then med (repl l t (min c3 (clen l - t)) [(c1, c2, c3)]) else none) = overS l t (c1, c2, c3) := by
  by_cases h : TOk l
  · rw [if_pos ⟨h, inr0⟩]; exact over_eq h t (c1, c2, c3)
  · rw [if_neg (fun k => h k.1)]; exact (if_neg (fun k => h k.1)).symm
theorem rng_inr {l : List Kl} {t n : Int} (h : Rng l t n) : InR n (-10000000) 10000000 := by
  obtain ⟨h1, ⟨h2, _⟩, h3, h4⟩ := h
  have := h1.2.2
  exact ⟨by omega, by omega⟩
theorem fExt (l : List Kl) (t n : Int) : (if TOk l ∧ InR n (-10000000) 10000000 then med (if n < 1 then none else repl l t n []) else none) = extractS l t n := by
  by_cases h : TOk l ∧ InR n (-10000000) 10000000
  · rw [if_pos h, extract_eq h.1]
  · rw [if_neg h]; exact (if_neg (fun k => h ⟨k.1, rng_inr k⟩)).symm
theorem fLif (l : List Kl) (t n : Int) : (if TOk l ∧ InR n (-10000000) 10000000 then med (repl l t n [(0, 0, n)]) else none) = liftS l t n := by
  by_cases h : TOk l ∧ InR n (-10000000) 10000000
  · rw [if_pos h, lift_eq h.1]
  · rw [if_neg h]; exact (if_neg (fun k => h ⟨k.1, rng_inr k⟩)).symm
theorem fSlp (l : List Kl) (t n : Int) : (if TOk l ∧ InR n (-10000000) 10000000 then med (trimL l [(t, n, n)]) else none) = slipS l t n := by
  by_cases h : TOk l ∧ InR n (-10000000) 10000000
  · rw [if_pos h, slip_eq h.1 h.2]
  · rw [if_neg h]; exact (if_neg (fun k => h ⟨k.1, k.2.1⟩)).symm
theorem fRip (l : List Kl) (t n : Int) : (if TOk l ∧ InR n (-10000000) 10000000 then med (trimL l [(t, 0, n)]) else none) = rippleS l t n := by
  by_cases h : TOk l ∧ InR n (-10000000) 10000000
  · rw [if_pos h, ripple_eq h.1 h.2]
  · rw [if_neg h]; exact (if_neg (fun k => h ⟨k.1, k.2.1⟩)).symm
theorem fRol (l : List Kl) (t n : Int) : (if TOk l ∧ InR n (-10000000) 10000000 then med (trimL l [(t, 0, n), (IntKind.i64.wrap (t + 1), n, 0)]) else none) = rollS l t n := by
  by_cases h : TOk l ∧ InR n (-10000000) 10000000
  · rw [if_pos h, roll_eq h.1 h.2]
    intro hr
    have h1 := hr.1
    have h2 := hr.2.1
    have h3 := h.1.1
    rw [IntKind.wrap_i64]; omega
  · rw [if_neg h]; exact (if_neg (fun k => h ⟨k.1, k.2.1⟩)).symm

end Go.Proofs.Ytnmahojdaodlgaa
