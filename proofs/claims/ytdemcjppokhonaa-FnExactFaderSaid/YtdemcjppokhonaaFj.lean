/-
  Contract of the program's Fader at every argument; nothing that was there is written.
-/
import Derived.Test.YtdemcjppokhonaaFi
namespace Go.Proofs.Ytdemcjppokhonaa
open Go.RowKit
set_option linter.unusedVariables false
set_option linter.unusedSimpArgs false

set_option maxHeartbeats 1600000 in
theorem ifad_no (a : Option Addr) (ca : Nat) (l : List Nat) (p q : Int) (w : World) (h : ¬ fadOk l p q) (f : Nat → Nat) :
    Calls Try.prog 34 #[.slice a l.length ca, .int .i64 p, .int .i64 q] w (Ans f 0 w) := by
  have hown0 := hide (own_lit w).2
  by_cases hl : l.length ≤ 4096
  · have c1 : Hid (∀ w, Calls Try.prog 38 #[.slice a l.length ca] w fun e w' => e = .returned (.bool true) ∧ w' = w) := hide fun w => by have := isnd_any a l.length ca w; rw [decide_eq_true hl] at this; exact this
    by_cases h1 : p < 0
    · have t1 : decide (p < 0) = true := decide_eq_true h1
      clear h h1
      go_enter Try.func34, Try.ntmps34
      go_wp2_with fail
      refine (unhide c1 _).mono ?_
      rintro e w0 ⟨rfl, hw0⟩
      have hw0 := hw0.symm
      subst hw0
      clear c1
      go_wp2
      go_ret
      exact Ans.mk (Nat.le_refl _) (unhide hown0) (Ls.nil _) ((Below.refl _ _).alloc (Nat.le_refl _) _)
    have t1 : decide (p < 0) = false := decide_eq_false h1
    by_cases h2 : q ≤ p
    · have t2 : decide (q ≤ p) = true := decide_eq_true h2
      clear h h1 h2
      go_enter Try.func34, Try.ntmps34
      go_wp2_with fail
      refine (unhide c1 _).mono ?_
      rintro e w0 ⟨rfl, hw0⟩
      have hw0 := hw0.symm
      subst hw0
      clear c1
      go_wp2
      go_ret
      exact Ans.mk (Nat.le_refl _) (unhide hown0) (Ls.nil _) ((Below.refl _ _).alloc (Nat.le_refl _) _)
    have t2 : decide (q ≤ p) = false := decide_eq_false h2
    have t3 : decide ((l.length : Int) < q) = true := decide_eq_true (by unfold fadOk at h; omega)
    clear h h1 h2
    go_enter Try.func34, Try.ntmps34
    go_wp2_with fail
    refine (unhide c1 _).mono ?_
    rintro e w0 ⟨rfl, hw0⟩
    have hw0 := hw0.symm
    subst hw0
    clear c1
    go_wp2
    go_ret
    exact Ans.mk (Nat.le_refl _) (unhide hown0) (Ls.nil _) ((Below.refl _ _).alloc (Nat.le_refl _) _)
  · have c1 : Hid (∀ w, Calls Try.prog 38 #[.slice a l.length ca] w fun e w' => e = .returned (.bool false) ∧ w' = w) := hide fun w => by have := isnd_any a l.length ca w; rw [decide_eq_false hl] at this; exact this
    clear h
    go_enter Try.func34, Try.ntmps34
    go_wp2_with fail
    refine (unhide c1 _).mono ?_
    rintro e w0 ⟨rfl, hw0⟩
    have hw0 := hw0.symm
    subst hw0
    clear c1
    go_wp2
    go_ret
    exact Ans.mk (Nat.le_refl _) (unhide hown0) (Ls.nil _) ((Below.refl _ _).alloc (Nat.le_refl _) _)

theorem ifad_any (a : Option Addr) (l : List Nat) (p q : Int) (w : World) (ha : Fls false 0 w.heap.size w a l) :
    Calls Try.prog 34 #[.slice a l.length l.length, .int .i64 p, .int .i64 q] w (Ans (fadE l p q) (fadN l p q) w) := by
  unfold fadN
  split
  · rename_i h
    exact ifad_yes a l.length l p q w h.1 h.2.1 h.2.2.1 h.2.2.2 (Nat.le_refl _) ha
  · exact ifad_no a l.length l p q w (by assumption) _
end Go.Proofs.Ytdemcjppokhonaa
