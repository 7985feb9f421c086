/-
  Pixels that came in and one that was made, kept while a law's statement runs: laws for the walk; no conditions.
-/
import Derived.Test.YteabmbggljpmoaaPx3
import Derived.Deep.CutRange
import Derived.Deep.CutBlock
import Derived.Deep.DeepCutAuto
namespace Go.Proofs.Yteabmbggljpmoaa
open Go.RowKit
set_option linter.unusedVariables false
set_option linter.unusedSimpArgs false


theorem t1_old {w w1 : World} {r g b a : Int} {o : Obj} (h : T1 w r g b a (w1.alloc o)) (hs : w.heap.size < w1.heap.size) : T1 w r g b a w1 := by
  obtain ⟨h0, h1, h2, h3, hB⟩ := h
  have R : ∀ i, (w1.alloc o).cell? ⟨w.heap.size, i, none⟩ = w1.cell? ⟨w.heap.size, i, none⟩ := fun i => ((Below.refl w1.heap.size w1).alloc (Nat.le_refl _) o).cell (p := ⟨w.heap.size, i, none⟩) hs
  exact ⟨(R _).symm.trans h0, (R _).symm.trans h1, (R _).symm.trans h2, (R _).symm.trans h3, old_alloc hB (by omega)⟩
theorem t1_swap {w w1 : World} {r g b a : Int} {o o' : Obj} (h : T1 w r g b a (w1.alloc o)) (hs : w.heap.size < w1.heap.size) : T1 w r g b a (w1.alloc o') := t1_alloc (t1_old h hs)
theorem t1_undrew {w w1 : World} {r g b a : Int} (h : T1 w r g b a w1.drew) : T1 w r g b a w1 := ⟨h.1, h.2.1, h.2.2.1, h.2.2.2.1, h.2.2.2.2.os, h.2.2.2.2.tape, h.2.2.2.2.output, h.2.2.2.2.size, h.2.2.2.2.block⟩
theorem t1_allocd {w w0 : World} {r g b a : Int} {o : Obj} (h : T1 w r g b a w0.drew) : T1 w r g b a (w0.alloc o).drew := t1_drew (t1_alloc (t1_undrew h))
theorem bx_set4 {w : World} {g : Nat} {x y z a p q r s : Int} (h : Bx w g x y z a) : Bx ((((w.setCell ⟨g, 0, none⟩ (.int .i64 p)).setCell ⟨g, 1, none⟩ (.int .i64 q)).setCell ⟨g, 2, none⟩ (.int .i64 r)).setCell ⟨g, 3, none⟩ (.int .i64 s)) g p q r s := h.set4 p q r s


abbrev T2x (w : World) (r g b a r' g' b' a' : Int) (q : Nat) (x y z u : Int) (w' : World) : Prop := w'.cell? ⟨w.heap.size, 0, none⟩ = some (.int .i64 r) ∧ w'.cell? ⟨w.heap.size, 1, none⟩ = some (.int .i64 g) ∧ w'.cell? ⟨w.heap.size, 2, none⟩ = some (.int .i64 b) ∧ w'.cell? ⟨w.heap.size, 3, none⟩ = some (.int .i64 a) ∧ w'.cell? ⟨w.heap.size + 1, 0, none⟩ = some (.int .i64 r') ∧ w'.cell? ⟨w.heap.size + 1, 1, none⟩ = some (.int .i64 g') ∧ w'.cell? ⟨w.heap.size + 1, 2, none⟩ = some (.int .i64 b') ∧ w'.cell? ⟨w.heap.size + 1, 3, none⟩ = some (.int .i64 a') ∧ Below w.heap.size w w' ∧ Bx w' q x y z u
theorem t2x_of {w w1 : World} {r g b a r' g' b' a' x y z u : Int} {q : Nat} (h : T2 w r g b a r' g' b' a' w1) (hx : Bx w1 q x y z u) : T2x w r g b a r' g' b' a' q x y z u w1 := by
  obtain ⟨h0, h1, h2, h3, k0, k1, k2, k3, hB⟩ := h
  exact ⟨h0, h1, h2, h3, k0, k1, k2, k3, hB, hx⟩
theorem t2x_to {w w1 : World} {r g b a r' g' b' a' x y z u : Int} {q : Nat} (h : T2x w r g b a r' g' b' a' q x y z u w1) : T2 w r g b a r' g' b' a' w1 ∧ Bx w1 q x y z u := by
  obtain ⟨h0, h1, h2, h3, k0, k1, k2, k3, hB, hx⟩ := h
  exact ⟨⟨h0, h1, h2, h3, k0, k1, k2, k3, hB⟩, hx⟩
theorem t2x_keep {w w0 w1 : World} {r g b a r' g' b' a' x y z u : Int} {q : Nat} (h : T2x w r g b a r' g' b' a' q x y z u w0) (hb : Below w0.heap.size w0 w1) : T2x w r g b a r' g' b' a' q x y z u w1 := by
  obtain ⟨h, hx⟩ := t2x_to h
  exact t2x_of (t2_keep h hb) (hx.below hb)
theorem t2x_drew {w w1 : World} {r g b a r' g' b' a' x y z u : Int} {q : Nat} (h : T2x w r g b a r' g' b' a' q x y z u w1) : T2x w r g b a r' g' b' a' q x y z u w1.drew := by
  obtain ⟨h, hx⟩ := t2x_to h
  exact t2x_of (t2_drew h) hx.drew
theorem t2x_undrew {w w1 : World} {r g b a r' g' b' a' x y z u : Int} {q : Nat} (h : T2x w r g b a r' g' b' a' q x y z u w1.drew) : T2x w r g b a r' g' b' a' q x y z u w1 := by
  obtain ⟨h, hx⟩ := t2x_to h
  exact t2x_of (t2_undrew h) (hx.block rfl)
theorem t2x_alloc {w w1 : World} {r g b a r' g' b' a' x y z u : Int} {q : Nat} {o : Obj} (h : T2x w r g b a r' g' b' a' q x y z u w1) : T2x w r g b a r' g' b' a' q x y z u (w1.alloc o) := t2x_keep h ((Below.refl _ _).alloc (Nat.le_refl _) _)
theorem t2x_allocd {w w1 : World} {r g b a r' g' b' a' x y z u : Int} {q : Nat} {o : Obj} (h : T2x w r g b a r' g' b' a' q x y z u w1.drew) : T2x w r g b a r' g' b' a' q x y z u (w1.alloc o).drew := t2x_drew (t2x_alloc (t2x_undrew h))
theorem t2x_set4 {w w1 : World} {r g b a r' g' b' a' x y z u : Int} {q : Nat} {k : Nat} {u1 v1 s1 v2 : Value} (h : T2x w r g b a r' g' b' a' q x y z u w1) (hg : w.heap.size + 1 < k) (hk : q ≠ k) : T2x w r g b a r' g' b' a' q x y z u ((((w1.setCell ⟨k, 0, none⟩ u1).setCell ⟨k, 1, none⟩ v1).setCell ⟨k, 2, none⟩ s1).setCell ⟨k, 3, none⟩ v2) := by
  obtain ⟨h, hx⟩ := t2x_to h
  exact t2x_of (t2_set4 h hg) ((((hx.other hk).other hk).other hk).other hk)
theorem t2x_swap {w w1 : World} {r g b a r' g' b' a' x y z u : Int} {q : Nat} {o o' : Obj} (h : T2x w r g b a r' g' b' a' q x y z u (w1.alloc o)) (hs : w.heap.size + 1 < w1.heap.size) (hq : q < w1.heap.size) : T2x w r g b a r' g' b' a' q x y z u (w1.alloc o') := by
  obtain ⟨h, hx⟩ := t2x_to h
  refine t2x_of (t2_swap h hs) ?_
  exact (hx.block (w1 := w1) (Below.heap_alloc w1 o q hq).symm).below ((Below.refl _ _).alloc (Nat.le_refl _) _)
theorem t2x_lt {w w1 : World} {r g b a r' g' b' a' x y z u : Int} {q : Nat} (h : T2x w r g b a r' g' b' a' q x y z u w1) : w.heap.size + 1 < w1.heap.size ∧ q < w1.heap.size := ⟨t2_lt (t2x_to h).1, (t2x_to h).2.lt⟩


abbrev T1x (w : World) (r g b a : Int) (q : Nat) (x y z u : Int) (w' : World) : Prop := w'.cell? ⟨w.heap.size, 0, none⟩ = some (.int .i64 r) ∧ w'.cell? ⟨w.heap.size, 1, none⟩ = some (.int .i64 g) ∧ w'.cell? ⟨w.heap.size, 2, none⟩ = some (.int .i64 b) ∧ w'.cell? ⟨w.heap.size, 3, none⟩ = some (.int .i64 a) ∧ Below w.heap.size w w' ∧ Bx w' q x y z u
theorem t1x_of {w w1 : World} {r g b a x y z u : Int} {q : Nat} (h : T1 w r g b a w1) (hx : Bx w1 q x y z u) : T1x w r g b a q x y z u w1 := by
  obtain ⟨h0, h1, h2, h3, hB⟩ := h
  exact ⟨h0, h1, h2, h3, hB, hx⟩
theorem t1x_to {w w1 : World} {r g b a x y z u : Int} {q : Nat} (h : T1x w r g b a q x y z u w1) : T1 w r g b a w1 ∧ Bx w1 q x y z u := by
  obtain ⟨h0, h1, h2, h3, hB, hx⟩ := h
  exact ⟨⟨h0, h1, h2, h3, hB⟩, hx⟩
theorem t1x_keep {w w0 w1 : World} {r g b a x y z u : Int} {q : Nat} (h : T1x w r g b a q x y z u w0) (hb : Below w0.heap.size w0 w1) : T1x w r g b a q x y z u w1 := by
  obtain ⟨h, hx⟩ := t1x_to h
  exact t1x_of (t1_keep h hb) (hx.below hb)
theorem t1x_drew {w w1 : World} {r g b a x y z u : Int} {q : Nat} (h : T1x w r g b a q x y z u w1) : T1x w r g b a q x y z u w1.drew := by
  obtain ⟨h, hx⟩ := t1x_to h
  exact t1x_of (t1_drew h) hx.drew
theorem t1x_undrew {w w1 : World} {r g b a x y z u : Int} {q : Nat} (h : T1x w r g b a q x y z u w1.drew) : T1x w r g b a q x y z u w1 := by
  obtain ⟨h, hx⟩ := t1x_to h
  exact t1x_of (t1_undrew h) (hx.block rfl)
theorem t1x_alloc {w w1 : World} {r g b a x y z u : Int} {q : Nat} {o : Obj} (h : T1x w r g b a q x y z u w1) : T1x w r g b a q x y z u (w1.alloc o) := t1x_keep h ((Below.refl _ _).alloc (Nat.le_refl _) _)
theorem t1x_allocd {w w1 : World} {r g b a x y z u : Int} {q : Nat} {o : Obj} (h : T1x w r g b a q x y z u w1.drew) : T1x w r g b a q x y z u (w1.alloc o).drew := t1x_drew (t1x_alloc (t1x_undrew h))
theorem t1x_set4 {w w1 : World} {r g b a x y z u : Int} {q : Nat} {k : Nat} {u1 v1 s1 v2 : Value} (h : T1x w r g b a q x y z u w1) (hg : w.heap.size < k) (hk : q ≠ k) : T1x w r g b a q x y z u ((((w1.setCell ⟨k, 0, none⟩ u1).setCell ⟨k, 1, none⟩ v1).setCell ⟨k, 2, none⟩ s1).setCell ⟨k, 3, none⟩ v2) := by
  obtain ⟨h, hx⟩ := t1x_to h
  exact t1x_of (t1_set4 h hg) ((((hx.other hk).other hk).other hk).other hk)
theorem t1x_swap {w w1 : World} {r g b a x y z u : Int} {q : Nat} {o o' : Obj} (h : T1x w r g b a q x y z u (w1.alloc o)) (hs : w.heap.size < w1.heap.size) (hq : q < w1.heap.size) : T1x w r g b a q x y z u (w1.alloc o') := by
  obtain ⟨h, hx⟩ := t1x_to h
  refine t1x_of (t1_swap h hs) ?_
  exact (hx.block (w1 := w1) (Below.heap_alloc w1 o q hq).symm).below ((Below.refl _ _).alloc (Nat.le_refl _) _)
theorem t1x_lt {w w1 : World} {r g b a x y z u : Int} {q : Nat} (h : T1x w r g b a q x y z u w1) : w.heap.size < w1.heap.size ∧ q < w1.heap.size := ⟨t1_lt (t1x_to h).1, (t1x_to h).2.lt⟩

end Go.Proofs.Yteabmbggljpmoaa
