/-
  Contract of the program's Cube; nothing that was there is written.
-/
import Derived.Test.YtdmcbdogpeidjaaCubP
import Derived.Test.YtdmcbdogpeidjaaR8
import Derived.Test.YtdmcbdogpeidjaaAr3
import Derived.Test.YtdmcbdogpeidjaaCrn
import Derived.Test.YtdmcbdogpeidjaaSco
namespace Go.Proofs.Ytdmcbdogpeidjaa
open Go.RowKit
set_option linter.unusedVariables false
set_option linter.unusedSimpArgs false

/-- a table of a cube -/
def TabOk (n : Int) (l : List Kl) : Prop := (2 ≤ n ∧ n ≤ 9) ∧ (l.length : Int) = n * n * n ∧ CsOk l
theorem cube_bd {n : Int} (h : 2 ≤ n ∧ n ≤ 9) : 4 ≤ n * n ∧ n * n ≤ 81 ∧ 8 ≤ n * n * n ∧ n * n * n ≤ 729 := by
  obtain ⟨h0, h9⟩ := h
  have : n = 2 ∨ n = 3 ∨ n = 4 ∨ n = 5 ∨ n = 6 ∨ n = 7 ∨ n = 8 ∨ n = 9 := by omega
  rcases this with rfl | rfl | rfl | rfl | rfl | rfl | rfl | rfl <;> omega

set_option maxHeartbeats 1600000 in
theorem itab_any (n : Int) (a : Option Addr) (cap : Nat) (l : List Kl) (v : Bool) (w : World) (hl : l.length ≤ maxLen) (hk : Kls w a l) (hv : v = true ↔ TabOk n l) :
    Calls Try.prog 39 #[.int .i64 n, .slice a l.length cap] w fun e w' => e = .returned (.bool v) ∧ Below w.heap.size w w' := by
  have hk' := hide hk
  have hl' := hide hl
  have hv' := hide hv
  clear hk hv
  unfold maxLen at hl
  by_cases hn : 2 ≤ n ∧ n ≤ 9
  · have hS := hide (show decide (2 ≤ n ∧ n ≤ 9) = true from decide_eq_true hn)
    obtain ⟨b0, b1, b2, b3⟩ := cube_bd hn
    have hn' := hide hn
    generalize hq : n * n = N2 at *
    generalize hr : N2 * n = N3 at *
    by_cases hE : (l.length : Int) = N3
    · have e1 : ((l.length : Int) == N3) = true := by simpa using hE
      have hE' := hide hE
      by_cases hC : CsOk l
      · have hyes : v = true := (unhide hv').2 ⟨hn, by rw [hq, hr]; exact hE, hC⟩
        subst hyes
        have hC' := hide hC
        clear hn hE hC
        go_enter Try.func39, Try.ntmps39
        go_wp2_with fail
        refine (side_any n true _ (unhide hS)).mono ?_
        rintro e w1 ⟨rfl, hw0⟩
        have hw1 := hw0.symm
        subst hw1
        go_wp2_with fail
        refine (icos_any a cap l true _ (unhide hl') (unhide hk') ⟨fun _ => unhide hC', fun _ => rfl⟩).mono ?_
        rintro e w1 ⟨rfl, hb⟩
        have H1 := hide hb
        clear hb
        go_wp2
        go_ret
        exact ⟨rfl, unhide H1⟩
      · have hno : v = false := by cases v with | false => rfl | true => exact absurd ((unhide hv').1 rfl).2.2 hC
        subst hno
        have hC' := hide hC
        clear hn hE hC
        go_enter Try.func39, Try.ntmps39
        go_wp2_with fail
        refine (side_any n true _ (unhide hS)).mono ?_
        rintro e w1 ⟨rfl, hw0⟩
        have hw1 := hw0.symm
        subst hw1
        go_wp2_with fail
        refine (icos_any a cap l false _ (unhide hl') (unhide hk') ⟨(fun h => by cases h), fun h => absurd h (unhide hC')⟩).mono ?_
        rintro e w1 ⟨rfl, hb⟩
        have H1 := hide hb
        clear hb
        go_wp2
        go_ret
        exact ⟨rfl, unhide H1⟩
    · have hno : v = false := by
        cases v with
        | false => rfl
        | true => exact absurd (by have := ((unhide hv').1 rfl).2.1; rw [hq, hr] at this; exact this) hE
      subst hno
      have e1 : ((l.length : Int) == N3) = false := by simpa using hE
      clear hn hE
      go_enter Try.func39, Try.ntmps39
      go_wp2_with fail
      refine (side_any n true _ (unhide hS)).mono ?_
      rintro e w1 ⟨rfl, hw0⟩
      have hw1 := hw0.symm
      subst hw1
      go_wp2
      go_ret
      exact ⟨rfl, Below.refl _ _⟩
  · have hno : v = false := by cases v with | false => rfl | true => exact absurd ((unhide hv').1 rfl).1 hn
    subst hno
    have hS := hide (show decide (2 ≤ n ∧ n ≤ 9) = false from decide_eq_false hn)
    clear hn
    go_enter Try.func39, Try.ntmps39
    go_wp2_with fail
    refine (side_any n false _ (unhide hS)).mono ?_
    rintro e w1 ⟨rfl, hw0⟩
    have hw1 := hw0.symm
    subst hw1
    go_wp2
    go_ret
    exact ⟨rfl, Below.refl _ _⟩
end Go.Proofs.Ytdmcbdogpeidjaa
