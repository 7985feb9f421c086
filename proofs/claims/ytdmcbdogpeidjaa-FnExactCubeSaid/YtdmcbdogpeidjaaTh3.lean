/-
  The three numbers that came in, kept while a law's statement runs: laws for the walk; no conditions.
-/
import Derived.Test.YtdmcbdogpeidjaaTri
import Derived.Deep.CutRange
import Derived.Deep.CutBlock
import Derived.Deep.DeepCutAuto
namespace Go.Proofs.Ytdmcbdogpeidjaa
open Go.RowKit
set_option linter.unusedVariables false
set_option linter.unusedSimpArgs false

/-- the three numbers that came in -/
abbrev Th (w : World) (x y z : Int) (w' : World) : Prop := w'.cell? ⟨w.heap.size, 0, none⟩ = some (.int .i64 x) ∧ w'.cell? ⟨w.heap.size, 1, none⟩ = some (.int .i64 y) ∧ w'.cell? ⟨w.heap.size, 2, none⟩ = some (.int .i64 z) ∧ Below w.heap.size w w'
theorem th_keep {w w0 w1 : World} {x y z : Int} (h : Th w x y z w0) (hb : Below w0.heap.size w0 w1) : Th w x y z w1 := by
  obtain ⟨h1, h2, h3, h7⟩ := h
  exact ⟨cell_later hb h1, cell_later hb h2, cell_later hb h3, laterB h7 hb⟩
theorem th_bel {w w0 : World} {x y z : Int} (h : Th w x y z w0) : Below w.heap.size w w0 := h.2.2.2
theorem th_alloc {w w0 : World} {x y z : Int} {o : Obj} (h : Th w x y z w0) : Th w x y z (w0.alloc o) := th_keep h ((Below.refl _ _).alloc (Nat.le_refl _) _)
theorem th_lt {w w1 : World} {x y z : Int} (h : Th w x y z w1) : w.heap.size < w1.heap.size := World.block_lt_of_cell? _ _ h.1
theorem th_old {w w1 : World} {x y z : Int} {o : Obj} (h : Th w x y z (w1.alloc o)) (hs : w.heap.size < w1.heap.size) : Th w x y z w1 := by
  obtain ⟨h1, h2, h3, h7⟩ := h
  have R : ∀ i, (w1.alloc o).cell? ⟨w.heap.size, i, none⟩ = w1.cell? ⟨w.heap.size, i, none⟩ := fun i => ((Below.refl w1.heap.size w1).alloc (Nat.le_refl _) o).cell (p := ⟨w.heap.size, i, none⟩) hs
  refine ⟨(R _).symm.trans h1, (R _).symm.trans h2, (R _).symm.trans h3, h7.os, h7.tape, h7.output, by omega, ?_⟩
  intro k hk
  exact (Below.heap_alloc w1 o k (by omega)).symm.trans (h7.block k hk)
theorem th_swap {w w1 : World} {x y z : Int} {o o' : Obj} (h : Th w x y z (w1.alloc o)) (hs : w.heap.size < w1.heap.size) : Th w x y z (w1.alloc o') := th_alloc (th_old h hs)
theorem th_drew {w w1 : World} {x y z : Int} (h : Th w x y z w1) : Th w x y z w1.drew := ⟨h.1, h.2.1, h.2.2.1, h.2.2.2.drew⟩
theorem th_undrew {w w1 : World} {x y z : Int} (h : Th w x y z w1.drew) : Th w x y z w1 := ⟨h.1, h.2.1, h.2.2.1, h.2.2.2.os, h.2.2.2.tape, h.2.2.2.output, h.2.2.2.size, h.2.2.2.block⟩
theorem th_allocd {w w0 : World} {x y z : Int} {o : Obj} (h : Th w x y z w0.drew) : Th w x y z (w0.alloc o).drew := th_drew (th_alloc (th_undrew h))
theorem th_set {w w1 : World} {x y z : Int} {g i : Nat} {v : Value} (h : Th w x y z w1) (hg : w.heap.size < g) : Th w x y z (w1.setCell ⟨g, i, none⟩ v) := by
  obtain ⟨h1, h2, h3, h7⟩ := h
  have R : ∀ o, (w1.setCell ⟨g, i, none⟩ v).cell? ⟨w.heap.size, o, none⟩ = w1.cell? ⟨w.heap.size, o, none⟩ := fun o => World.cell?_setCell_other _ _ _ _ (ne_blk (by omega))
  exact ⟨(R _).trans h1, (R _).trans h2, (R _).trans h3, h7.setCell (by simp; omega) _⟩
theorem th_set3 {w w1 : World} {x y z : Int} {g : Nat} {u v s : Value} (h : Th w x y z w1) (hg : w.heap.size < g) : Th w x y z (((w1.setCell ⟨g, 0, none⟩ u).setCell ⟨g, 1, none⟩ v).setCell ⟨g, 2, none⟩ s) := th_set (th_set (th_set h hg) hg) hg
theorem th_start {w : World} {x y z : Int} {T : TypeId} : Th w x y z (w.alloc (.cells #[.int .i64 x, .int .i64 y, .int .i64 z] T)) :=
  ⟨by simp [go_sem], by simp [go_sem], by simp [go_sem], (Below.refl _ _).alloc (Nat.le_refl _) _⟩
theorem sz_alloc {w : World} {o : Obj} : (w.alloc o).heap.size = w.heap.size + 1 := by simp
theorem bx_drew {w : World} {g : Nat} {x y z : Int} (h : Bx w g x y z) : Bx w.drew g x y z := h.block rfl
theorem bx_set3 {w : World} {g : Nat} {x y z a b c : Int} (h : Bx w g x y z) : Bx (((w.setCell ⟨g, 0, none⟩ (.int .i64 a)).setCell ⟨g, 1, none⟩ (.int .i64 b)).setCell ⟨g, 2, none⟩ (.int .i64 c)) g a b c := ((h.set0 a).set1 b).set2 c
end Go.Proofs.Ytdmcbdogpeidjaa
