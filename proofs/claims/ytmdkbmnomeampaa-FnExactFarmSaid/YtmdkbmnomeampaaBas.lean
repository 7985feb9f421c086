/-
  Laws of memory for a run's four cells; contracts of the leaves that copy a run and hold two against each other; nothing that was there is written.
-/
import Derived.Test.YtmdkbmnomeampaaAp
namespace Go.Proofs.Ytmdkbmnomeampaa
open Go.RowKit
set_option linter.unusedVariables false
set_option linter.unusedSimpArgs false

/-- a run as a value: task, worker, from, to -/
abbrev Kl := Int × Int × Int × Int
abbrev ag4 (r g b a : Int) : Value := .agg #[.int .i64 r, .int .i64 g, .int .i64 b, .int .i64 a]
theorem take_snocK {α : Type} {l : List α} {k : Nat} {c : α} (h : l[k]? = some c) : l.take (k + 1) = l.take k ++ [c] := by
  rw [List.take_add_one, h]; rfl
theorem cell_later {w w1 : World} {a : Addr} {v : Value} (hb : Below w.heap.size w w1) (h : w.cell? a = some v) : w1.cell? a = some v := by
  rw [hb.cell (World.block_lt_of_cell? _ _ h)]; exact h
theorem ne_addr {g i j : Nat} (h : i ≠ j) : (⟨g, i, none⟩ : Addr) ≠ ⟨g, j, none⟩ := by intro e; injection e with _ e2 _; exact h e2
theorem ne_blk {g h i j : Nat} (hh : g ≠ h) : (⟨g, i, none⟩ : Addr) ≠ ⟨h, j, none⟩ := by intro e; injection e with e1 _ _; exact hh e1
theorem heap_set_ne {w : World} {b i : Nat} {v : Value} {r : Nat} (h : r ≠ b) : (w.setCell ⟨b, i, none⟩ v).heap[r]? = w.heap[r]? := by
  have hg : b ≠ r := fun e => h e.symm
  simp [World.setCell, Array.getElem?_modify, hg]
theorem sz_alloc {w : World} {o : Obj} : (w.alloc o).heap.size = w.heap.size + 1 := by simp
theorem blk_below {X Y : World} {b : Nat} {o : Obj} (h : X.heap[b]? = some o) (hb : Below X.heap.size X Y) : Y.heap[b]? = some o := by
  rw [hb.block b (Array.getElem?_eq_some_iff.1 h).1]; exact h

set_option maxHeartbeats 800000 in
theorem tok1_any (r g b a : Int) (w : World) : Calls Try.prog 58 #[ag4 r g b a] w fun e w' => e = .returned (ag4 r g b a) ∧ Below w.heap.size w w' := by
  go_enter Try.func58, Try.ntmps58
  go_wp2
  exact bodyPost_ret (v := ag4 r g b a) (by simp [results, Try.results58, go_sem]) rfl ⟨rfl, ((((Below.refl _ _).alloc (Nat.le_refl _) _).alloc (by simp) _).alloc (by simp; omega) _)⟩

set_option maxHeartbeats 800000 in
theorem eqk_any (r g b a : Int) (w : World) : Calls Try.prog 57 #[ag4 r g b a, ag4 r g b a] w fun e w' => e = .returned (.bool true) ∧ Below w.heap.size w w' := by
  have e1 : (r != r) = false := by simp
  have e2 : (g != g) = false := by simp
  have e3 : (b != b) = false := by simp
  have e4 : (a != a) = false := by simp
  go_enter Try.func57, Try.ntmps57
  go_wp2
  go_ret
  exact ⟨rfl, (((Below.refl _ _).alloc (Nat.le_refl _) _).alloc (by simp) _)⟩

end Go.Proofs.Ytmdkbmnomeampaa
