/-
  Contracts of Agree, the model's and the program's: each gives the sum; nothing is written.
-/
import Derived.Test.YtbmhllphpphmeaaAgP
import Derived.Deep.CutRange
import Derived.Deep.CutBlock
namespace Go.Proofs.Ytbmhllphpphmeaa
open Go.RowKit
set_option linter.unusedVariables false
set_option linter.unusedSimpArgs false

theorem fls_get {own : Bool} {lo hi : Nat} {w : World} {a : Option Addr} {l : List Nat} {k : Nat} (h : Fls own lo hi w a l) (hk : k < l.length) : ∃ b o, a = some ⟨b, o, none⟩ ∧ b < hi ∧ w.cell? ⟨b, o + k, none⟩ = some (.float .f64 (l.getD k 0)) := by
  obtain ⟨b, o, e, _, h2, c, _⟩ := h k (l.getD k 0) (by simp [List.getD_eq_getElem?_getD, hk])
  exact ⟨b, o, e, h2, c⟩

set_option maxHeartbeats 400000 in
theorem long_any (a b : Option Addr) (ca cb n m : Nat) (hn : n ≤ 1048576) (hm : m ≤ 1048576) (w : World) : Calls Try.prog 8 #[.slice a n ca, .slice b m cb] w fun e w' => e = .returned (.bool (decide (4096 < n ∨ 4096 < m))) ∧ w' = w := by
  by_cases h1 : (4096 : Int) < n
  · have x1 : decide ((4096 : Int) < n) = true := by simpa using h1
    go_enter Try.func8, Try.ntmps8
    go_wp2
    go_ret
    refine ⟨ret_bool ?_, rfl⟩
    simp; omega
  · have x1 : decide ((4096 : Int) < n) = false := by simpa using h1
    by_cases h2 : (4096 : Int) < m
    · go_enter Try.func8, Try.ntmps8
      go_wp2
      go_ret
      refine ⟨ret_bool ?_, rfl⟩
      simp; omega
    · go_enter Try.func8, Try.ntmps8
      go_wp2
      go_ret
      refine ⟨ret_bool ?_, rfl⟩
      simp; omega
theorem long_yes (a b : Option Addr) (ca cb n m : Nat) (hn : n ≤ 1048576) (hm : m ≤ 1048576) (h : 4096 < n ∨ 4096 < m) (w : World) : Calls Try.prog 8 #[.slice a n ca, .slice b m cb] w fun e w' => e = .returned (.bool true) ∧ w' = w :=
  (long_any a b ca cb n m hn hm w).mono fun e w' ⟨h1, h2⟩ => ⟨by rw [h1]; simp [h], h2⟩
theorem long_no (a b : Option Addr) (ca cb n m : Nat) (hn : n ≤ 1048576) (hm : m ≤ 1048576) (h : ¬ (4096 < n ∨ 4096 < m)) (w : World) : Calls Try.prog 8 #[.slice a n ca, .slice b m cb] w fun e w' => e = .returned (.bool false) ∧ w' = w :=
  (long_any a b ca cb n m hn hm w).mono fun e w' ⟨h1, h2⟩ => ⟨by rw [h1, decide_eq_false h], h2⟩

end Go.Proofs.Ytbmhllphpphmeaa
