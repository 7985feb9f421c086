/-
  Laws of memory for an asset's three cells; contracts of the leaves: copies, comparisons, sizes; nothing that was there is written.
-/
import Derived.Test.YtpdnceeniokemaaPkP
import Derived.Test.YtpdnceeniokemaaLkB
import Derived.Test.YtpdnceeniokemaaAp
namespace Go.Proofs.Ytpdnceeniokemaa
open Go.RowKit
set_option linter.unusedVariables false
set_option linter.unusedSimpArgs false

abbrev sv (s : ByteArray) : Value := .string s
abbrev ag3 (s : ByteArray) (a b : Int) : Value := .agg #[.string s, .int .i64 a, .int .i64 b]
theorem cell_later {w w1 : World} {a : Addr} {v : Value} (hb : Below w.heap.size w w1) (h : w.cell? a = some v) : w1.cell? a = some v := by
  rw [hb.cell (World.block_lt_of_cell? _ _ h)]; exact h
theorem ne_addr {g i j : Nat} (h : i ≠ j) : (⟨g, i, none⟩ : Addr) ≠ ⟨g, j, none⟩ := by intro e; injection e with _ e2 _; exact h e2
theorem ne_blk {g h i j : Nat} (hh : g ≠ h) : (⟨g, i, none⟩ : Addr) ≠ ⟨h, j, none⟩ := by intro e; injection e with e1 _ _; exact hh e1
set_option maxHeartbeats 800000 in
theorem tok1_any (s : ByteArray) (x y : Int) (w : World) : Calls Try.prog 62 #[ag3 s x y] w fun e w' => e = .returned (ag3 s x y) ∧ Below w.heap.size w w' := by
  go_enter Try.func62, Try.ntmps62
  go_wp2
  refine bodyPost_ret (v := ag3 s x y) (by simp [results, Try.results62, go_sem]) rfl ⟨rfl, ?_⟩
  exact ((((Below.refl _ _).alloc (Nat.le_refl _) _).alloc (by simp) _).alloc (by simp; omega) _)

set_option maxHeartbeats 800000 in
theorem eqk_any (s : ByteArray) (x y : Int) (w : World) : Calls Try.prog 64 #[ag3 s x y, ag3 s x y] w fun e w' => e = .returned (.bool true) ∧ Below w.heap.size w w' := by
  have e1 : (x != x) = false := by simp
  have e2 : (y != y) = false := by simp
  go_enter Try.func64, Try.ntmps64
  go_wp2
  go_ret
  exact ⟨rfl, (((Below.refl _ _).alloc (Nat.le_refl _) _).alloc (by simp) _)⟩

set_option maxHeartbeats 800000 in
theorem szt_any (s : ByteArray) (x y n : Int) (w : World) (h0 : 0 ≤ n) (h1 : n ≤ 1048576) (hs : s.size ≤ maxLen) :
    Calls Try.prog 59 #[ag3 s x y, .int .i64 n] w fun e w' => ∃ r : Int, e = .returned (.int .i64 r) ∧ (r = -1 ∨ (0 ≤ r ∧ r ≤ n ∧ s.size ≤ 1048576)) ∧ Below w.heap.size w w' := by
  unfold maxLen at hs
  by_cases h : n - s.size < 0
  · go_enter Try.func59, Try.ntmps59
    go_wp2
    go_ret
    exact ⟨_, rfl, by omega, ((Below.refl _ _).alloc (Nat.le_refl _) _)⟩
  · go_enter Try.func59, Try.ntmps59
    go_wp2
    go_ret
    exact ⟨_, rfl, by omega, ((Below.refl _ _).alloc (Nat.le_refl _) _)⟩

end Go.Proofs.Ytpdnceeniokemaa
