/-
  Contracts of Convolve, the model's and the program's, at every argument; nothing that was there is written.
-/
import Derived.Test.YtdemcjppokhonaaCi
namespace Go.Proofs.Ytdemcjppokhonaa
open Go.RowKit
set_option linter.unusedVariables false
set_option linter.unusedSimpArgs false

set_option maxHeartbeats 1600000 in
theorem scv_no (a : Option Addr) (ca : Nat) (l : List Nat) (b : Option Addr) (cb : Nat) (m : List Nat) (w : World) (hl : l.length ≤ 1048576) (hm : m.length ≤ 1048576) (h : l.length = 0 ∨ m.length = 0 ∨ 4096 < l.length + m.length - 1) (f : Nat → Nat) :
    Calls Try.prog 19 #[.slice a l.length ca, .slice b m.length cb] w (Ans f 0 w) := by
  have hown0 := hide (own_lit w).2
  have hw1 : IntKind.i64.wrap ((l.length : Int) + (m.length : Int)) = (l.length : Int) + (m.length : Int) := by rw [IntKind.wrap_i64]; omega
  have hw2 : IntKind.i64.wrap ((l.length : Int) + (m.length : Int) - 1) = (l.length : Int) + (m.length : Int) - 1 := by rw [IntKind.wrap_i64]; omega
  by_cases h1 : l.length = 0
  · have t1 : ((l.length : Int) == 0) = true := by rw [h1]; rfl
    clear h h1
    go_enter Try.func19, Try.ntmps19
    go_wp2
    go_ret
    exact Ans.mk (Nat.le_refl _) (unhide hown0) (Ls.nil _) ((Below.refl _ _).alloc (Nat.le_refl _) _)
  have t1 : ((l.length : Int) == 0) = false := beq_eq_false_iff_ne.2 (by omega)
  by_cases h2 : m.length = 0
  · have t2 : ((m.length : Int) == 0) = true := by rw [h2]; rfl
    clear h h1 h2
    go_enter Try.func19, Try.ntmps19
    go_wp2
    go_ret
    exact Ans.mk (Nat.le_refl _) (unhide hown0) (Ls.nil _) ((Below.refl _ _).alloc (Nat.le_refl _) _)
  have t2 : ((m.length : Int) == 0) = false := beq_eq_false_iff_ne.2 (by omega)
  have t3 : decide ((4096 : Int) < (l.length : Int) + (m.length : Int) - 1) = true := decide_eq_true (by omega)
  clear h h1 h2
  go_enter Try.func19, Try.ntmps19
  go_wp2
  go_ret
  exact Ans.mk (Nat.le_refl _) (unhide hown0) (Ls.nil _) ((Below.refl _ _).alloc (Nat.le_refl _) _)
theorem scv_any (a : Option Addr) (ca : Nat) (l : List Nat) (b : Option Addr) (cb : Nat) (m : List Nat) (w : World) (hl : l.length ≤ 1048576) (hm : m.length ≤ 1048576) (ha : Fls false 0 w.heap.size w a l) (hb : Fls false 0 w.heap.size w b m) :
    Calls Try.prog 19 #[.slice a l.length ca, .slice b m.length cb] w (Ans (cvE l m) (cvN l m) w) := by
  unfold cvN
  split
  · exact scv_no a ca l b cb m w hl hm (by assumption) _
  · exact scv_yes a ca l b cb m w (by omega) (by omega) (by omega) ha hb

set_option maxHeartbeats 1600000 in
theorem icv_no (a : Option Addr) (ca : Nat) (l : List Nat) (b : Option Addr) (cb : Nat) (m : List Nat) (w : World) (hl : l.length ≤ 1048576) (hm : m.length ≤ 1048576) (h : l.length = 0 ∨ m.length = 0 ∨ 4096 < l.length + m.length - 1) (f : Nat → Nat) :
    Calls Try.prog 18 #[.slice a l.length ca, .slice b m.length cb] w (Ans f 0 w) := by
  have hown0 := hide (own_lit w).2
  have hw1 : IntKind.i64.wrap ((l.length : Int) + (m.length : Int)) = (l.length : Int) + (m.length : Int) := by rw [IntKind.wrap_i64]; omega
  have hw2 : IntKind.i64.wrap ((l.length : Int) + (m.length : Int) - 1) = (l.length : Int) + (m.length : Int) - 1 := by rw [IntKind.wrap_i64]; omega
  by_cases h1 : l.length = 0
  · have t1 : ((l.length : Int) == 0) = true := by rw [h1]; rfl
    clear h h1
    go_enter Try.func18, Try.ntmps18
    go_wp2
    go_ret
    exact Ans.mk (Nat.le_refl _) (unhide hown0) (Ls.nil _) ((Below.refl _ _).alloc (Nat.le_refl _) _)
  have t1 : ((l.length : Int) == 0) = false := beq_eq_false_iff_ne.2 (by omega)
  by_cases h2 : m.length = 0
  · have t2 : ((m.length : Int) == 0) = true := by rw [h2]; rfl
    clear h h1 h2
    go_enter Try.func18, Try.ntmps18
    go_wp2
    go_ret
    exact Ans.mk (Nat.le_refl _) (unhide hown0) (Ls.nil _) ((Below.refl _ _).alloc (Nat.le_refl _) _)
  have t2 : ((m.length : Int) == 0) = false := beq_eq_false_iff_ne.2 (by omega)
  have t3 : decide ((4096 : Int) < (l.length : Int) + (m.length : Int) - 1) = true := decide_eq_true (by omega)
  clear h h1 h2
  go_enter Try.func18, Try.ntmps18
  go_wp2
  go_ret
  exact Ans.mk (Nat.le_refl _) (unhide hown0) (Ls.nil _) ((Below.refl _ _).alloc (Nat.le_refl _) _)
theorem icv_any (a : Option Addr) (ca : Nat) (l : List Nat) (b : Option Addr) (cb : Nat) (m : List Nat) (w : World) (hl : l.length ≤ 1048576) (hm : m.length ≤ 1048576) (ha : Fls false 0 w.heap.size w a l) (hb : Fls false 0 w.heap.size w b m) :
    Calls Try.prog 18 #[.slice a l.length ca, .slice b m.length cb] w (Ans (cvE l m) (cvN l m) w) := by
  unfold cvN
  split
  · exact icv_no a ca l b cb m w hl hm (by assumption) _
  · exact icv_yes a ca l b cb m w (by omega) (by omega) (by omega) ha hb
end Go.Proofs.Ytdemcjppokhonaa
