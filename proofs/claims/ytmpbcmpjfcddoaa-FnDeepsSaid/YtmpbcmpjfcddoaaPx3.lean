/-
  Two pixels, or one, that came in, kept while a function runs: laws for the walk; no conditions.
-/
import Derived.Test.YtmpbcmpjfcddoaaPx1
namespace Go.Proofs.Ytmpbcmpjfcddoaa
open Go.RowKit
set_option linter.unusedVariables false
set_option linter.unusedSimpArgs false


abbrev T1 (w : World) (r g b a : Int) (w' : World) : Prop := w'.cell? ⟨w.heap.size, 0, none⟩ = some (.int .i64 r) ∧ w'.cell? ⟨w.heap.size, 1, none⟩ = some (.int .i64 g) ∧ w'.cell? ⟨w.heap.size, 2, none⟩ = some (.int .i64 b) ∧ w'.cell? ⟨w.heap.size, 3, none⟩ = some (.int .i64 a) ∧ Below w.heap.size w w'
abbrev T2 (w : World) (r g b a r' g' b' a' : Int) (w' : World) : Prop := w'.cell? ⟨w.heap.size, 0, none⟩ = some (.int .i64 r) ∧ w'.cell? ⟨w.heap.size, 1, none⟩ = some (.int .i64 g) ∧ w'.cell? ⟨w.heap.size, 2, none⟩ = some (.int .i64 b) ∧ w'.cell? ⟨w.heap.size, 3, none⟩ = some (.int .i64 a) ∧ w'.cell? ⟨w.heap.size + 1, 0, none⟩ = some (.int .i64 r') ∧ w'.cell? ⟨w.heap.size + 1, 1, none⟩ = some (.int .i64 g') ∧ w'.cell? ⟨w.heap.size + 1, 2, none⟩ = some (.int .i64 b') ∧ w'.cell? ⟨w.heap.size + 1, 3, none⟩ = some (.int .i64 a') ∧ Below w.heap.size w w'
theorem t1_of {w w1 : World} {r g b a : Int} (h : Bx w1 w.heap.size r g b a) (hb : Below w.heap.size w w1) : T1 w r g b a w1 := ⟨h.c0, h.c1, h.c2, h.c3, hb⟩
theorem t2_of {w w1 : World} {r g b a r' g' b' a' : Int} (h : Bx w1 w.heap.size r g b a) (h' : Bx w1 (w.heap.size + 1) r' g' b' a') (hb : Below w.heap.size w w1) : T2 w r g b a r' g' b' a' w1 := ⟨h.c0, h.c1, h.c2, h.c3, h'.c0, h'.c1, h'.c2, h'.c3, hb⟩
theorem t1_keep {w w0 w1 : World} {r g b a : Int} (h : T1 w r g b a w0) (hb : Below w0.heap.size w0 w1) : T1 w r g b a w1 := by
  obtain ⟨h0, h1, h2, h3, hB⟩ := h
  exact ⟨cell_later hb h0, cell_later hb h1, cell_later hb h2, cell_later hb h3, laterB hB hb⟩
theorem t2_keep {w w0 w1 : World} {r g b a r' g' b' a' : Int} (h : T2 w r g b a r' g' b' a' w0) (hb : Below w0.heap.size w0 w1) : T2 w r g b a r' g' b' a' w1 := by
  obtain ⟨h0, h1, h2, h3, k0, k1, k2, k3, hB⟩ := h
  exact ⟨cell_later hb h0, cell_later hb h1, cell_later hb h2, cell_later hb h3, cell_later hb k0, cell_later hb k1, cell_later hb k2, cell_later hb k3, laterB hB hb⟩
theorem t1_drew {w w1 : World} {r g b a : Int} (h : T1 w r g b a w1) : T1 w r g b a w1.drew := ⟨h.1, h.2.1, h.2.2.1, h.2.2.2.1, h.2.2.2.2.drew⟩
theorem t2_drew {w w1 : World} {r g b a r' g' b' a' : Int} (h : T2 w r g b a r' g' b' a' w1) : T2 w r g b a r' g' b' a' w1.drew := ⟨h.1, h.2.1, h.2.2.1, h.2.2.2.1, h.2.2.2.2.1, h.2.2.2.2.2.1, h.2.2.2.2.2.2.1, h.2.2.2.2.2.2.2.1, h.2.2.2.2.2.2.2.2.drew⟩
theorem t1_set {w w1 : World} {r g b a : Int} {k i : Nat} {v : Value} (h : T1 w r g b a w1) (hg : w.heap.size < k) : T1 w r g b a (w1.setCell ⟨k, i, none⟩ v) := by
  obtain ⟨h0, h1, h2, h3, hB⟩ := h
  have R : ∀ o, (w1.setCell ⟨k, i, none⟩ v).cell? ⟨w.heap.size, o, none⟩ = w1.cell? ⟨w.heap.size, o, none⟩ := fun o => World.cell?_setCell_other _ _ _ _ (ne_blk (by omega))
  exact ⟨(R _).trans h0, (R _).trans h1, (R _).trans h2, (R _).trans h3, hB.setCell (by simp; omega) _⟩
theorem t2_set {w w1 : World} {r g b a r' g' b' a' : Int} {k i : Nat} {v : Value} (h : T2 w r g b a r' g' b' a' w1) (hg : w.heap.size + 1 < k) : T2 w r g b a r' g' b' a' (w1.setCell ⟨k, i, none⟩ v) := by
  obtain ⟨h0, h1, h2, h3, k0, k1, k2, k3, hB⟩ := h
  have R : ∀ o, (w1.setCell ⟨k, i, none⟩ v).cell? ⟨w.heap.size, o, none⟩ = w1.cell? ⟨w.heap.size, o, none⟩ := fun o => World.cell?_setCell_other _ _ _ _ (ne_blk (by omega))
  have R' : ∀ o, (w1.setCell ⟨k, i, none⟩ v).cell? ⟨w.heap.size + 1, o, none⟩ = w1.cell? ⟨w.heap.size + 1, o, none⟩ := fun o => World.cell?_setCell_other _ _ _ _ (ne_blk (by omega))
  exact ⟨(R _).trans h0, (R _).trans h1, (R _).trans h2, (R _).trans h3, (R' _).trans k0, (R' _).trans k1, (R' _).trans k2, (R' _).trans k3, hB.setCell (by simp; omega) _⟩
theorem t1_set4 {w w1 : World} {r g b a : Int} {k : Nat} {u v s t : Value} (h : T1 w r g b a w1) (hg : w.heap.size < k) : T1 w r g b a ((((w1.setCell ⟨k, 0, none⟩ u).setCell ⟨k, 1, none⟩ v).setCell ⟨k, 2, none⟩ s).setCell ⟨k, 3, none⟩ t) := t1_set (t1_set (t1_set (t1_set h hg) hg) hg) hg
theorem t2_set4 {w w1 : World} {r g b a r' g' b' a' : Int} {k : Nat} {u v s t : Value} (h : T2 w r g b a r' g' b' a' w1) (hg : w.heap.size + 1 < k) : T2 w r g b a r' g' b' a' ((((w1.setCell ⟨k, 0, none⟩ u).setCell ⟨k, 1, none⟩ v).setCell ⟨k, 2, none⟩ s).setCell ⟨k, 3, none⟩ t) := t2_set (t2_set (t2_set (t2_set h hg) hg) hg) hg
theorem t1_alloc {w w0 : World} {r g b a : Int} {o : Obj} (h : T1 w r g b a w0) : T1 w r g b a (w0.alloc o) := t1_keep h ((Below.refl _ _).alloc (Nat.le_refl _) _)
theorem t2_alloc {w w0 : World} {r g b a r' g' b' a' : Int} {o : Obj} (h : T2 w r g b a r' g' b' a' w0) : T2 w r g b a r' g' b' a' (w0.alloc o) := t2_keep h ((Below.refl _ _).alloc (Nat.le_refl _) _)
theorem t1_lt {w w1 : World} {r g b a : Int} (h : T1 w r g b a w1) : w.heap.size < w1.heap.size := World.block_lt_of_cell? _ _ h.1
theorem t2_lt {w w1 : World} {r g b a r' g' b' a' : Int} (h : T2 w r g b a r' g' b' a' w1) : w.heap.size + 1 < w1.heap.size := World.block_lt_of_cell? _ _ h.2.2.2.2.1
theorem old_alloc {w w1 : World} {o : Obj} (h : Below w.heap.size w (w1.alloc o)) (hs : w.heap.size ≤ w1.heap.size) : Below w.heap.size w w1 :=
  ⟨h.os, h.tape, h.output, hs, fun k hk => (Below.heap_alloc w1 o k (by omega)).symm.trans (h.block k hk)⟩
theorem t2_old {w w1 : World} {r g b a r' g' b' a' : Int} {o : Obj} (h : T2 w r g b a r' g' b' a' (w1.alloc o)) (hs : w.heap.size + 1 < w1.heap.size) : T2 w r g b a r' g' b' a' w1 := by
  obtain ⟨h0, h1, h2, h3, k0, k1, k2, k3, hB⟩ := h
  have R : ∀ i, (w1.alloc o).cell? ⟨w.heap.size, i, none⟩ = w1.cell? ⟨w.heap.size, i, none⟩ := fun i => ((Below.refl w1.heap.size w1).alloc (Nat.le_refl _) o).cell (p := ⟨w.heap.size, i, none⟩) (by show w.heap.size < w1.heap.size; omega)
  have R' : ∀ i, (w1.alloc o).cell? ⟨w.heap.size + 1, i, none⟩ = w1.cell? ⟨w.heap.size + 1, i, none⟩ := fun i => ((Below.refl w1.heap.size w1).alloc (Nat.le_refl _) o).cell (p := ⟨w.heap.size + 1, i, none⟩) hs
  exact ⟨(R _).symm.trans h0, (R _).symm.trans h1, (R _).symm.trans h2, (R _).symm.trans h3, (R' _).symm.trans k0, (R' _).symm.trans k1, (R' _).symm.trans k2, (R' _).symm.trans k3, old_alloc hB (by omega)⟩
theorem t2_swap {w w1 : World} {r g b a r' g' b' a' : Int} {o o' : Obj} (h : T2 w r g b a r' g' b' a' (w1.alloc o)) (hs : w.heap.size + 1 < w1.heap.size) : T2 w r g b a r' g' b' a' (w1.alloc o') := t2_alloc (t2_old h hs)
theorem t2_undrew {w w1 : World} {r g b a r' g' b' a' : Int} (h : T2 w r g b a r' g' b' a' w1.drew) : T2 w r g b a r' g' b' a' w1 := ⟨h.1, h.2.1, h.2.2.1, h.2.2.2.1, h.2.2.2.2.1, h.2.2.2.2.2.1, h.2.2.2.2.2.2.1, h.2.2.2.2.2.2.2.1, h.2.2.2.2.2.2.2.2.os, h.2.2.2.2.2.2.2.2.tape, h.2.2.2.2.2.2.2.2.output, h.2.2.2.2.2.2.2.2.size, h.2.2.2.2.2.2.2.2.block⟩
theorem t2_allocd {w w0 : World} {r g b a r' g' b' a' : Int} {o : Obj} (h : T2 w r g b a r' g' b' a' w0.drew) : T2 w r g b a r' g' b' a' (w0.alloc o).drew := t2_drew (t2_alloc (t2_undrew h))
theorem t2_start {w : World} {r g b a r' g' b' a' : Int} {T T' : TypeId} : T2 w r g b a r' g' b' a' ((w.alloc (.cells #[.int .i64 r, .int .i64 g, .int .i64 b, .int .i64 a] T)).alloc (.cells #[.int .i64 r', .int .i64 g', .int .i64 b', .int .i64 a'] T')) :=
  ⟨by simp [go_sem], by simp [go_sem], by simp [go_sem], by simp [go_sem], by simp [go_sem], by simp [go_sem], by simp [go_sem], by simp [go_sem], ((Below.refl _ _).alloc (Nat.le_refl _) _).alloc (by simp) _⟩
theorem t1_start {w : World} {r g b a : Int} {T : TypeId} : T1 w r g b a (w.alloc (.cells #[.int .i64 r, .int .i64 g, .int .i64 b, .int .i64 a] T)) :=
  ⟨by simp [go_sem], by simp [go_sem], by simp [go_sem], by simp [go_sem], (Below.refl _ _).alloc (Nat.le_refl _) _⟩
/-- two pixels came in, the answer's box stands behind them -/
structure Tr (w : World) (r g b a r' g' b' a' : Int) (w1 : World) : Prop where
  h0 : Bx w1 w.heap.size r g b a
  h1 : Bx w1 (w.heap.size + 1) r' g' b' a'
  h2 : Bx w1 (w.heap.size + 1 + 1) 0 0 0 0
  hb : Below w.heap.size w w1
theorem Tr.later {w w0 w1 : World} {r g b a r' g' b' a' : Int} (h : Tr w r g b a r' g' b' a' w0) (hb : Below w0.heap.size w0 w1) : Tr w r g b a r' g' b' a' w1 := ⟨h.h0.below hb, h.h1.below hb, h.h2.below hb, laterB h.hb hb⟩
theorem Tr.start (w : World) (r g b a r' g' b' a' : Int) (T T' T'' : TypeId) : Tr w r g b a r' g' b' a' (((w.alloc (.cells #[.int .i64 r, .int .i64 g, .int .i64 b, .int .i64 a] T)).alloc (.cells #[.int .i64 r', .int .i64 g', .int .i64 b', .int .i64 a'] T')).alloc (.cells #[.int .i64 0, .int .i64 0, .int .i64 0, .int .i64 0] T'')) := by
  refine ⟨?_, ?_, ?_, (((Below.refl _ _).alloc (Nat.le_refl _) _).alloc (by simp) _).alloc (by simp; omega) _⟩
  · exact ((Bx.new w T r g b a).below ((Below.refl _ _).alloc (Nat.le_refl _) _)).below ((Below.refl _ _).alloc (Nat.le_refl _) _)
  · have := Bx.new (w.alloc (.cells #[.int .i64 r, .int .i64 g, .int .i64 b, .int .i64 a] T)) T' r' g' b' a'
    rw [sz_alloc] at this
    exact this.below ((Below.refl _ _).alloc (Nat.le_refl _) _)
  · have := Bx.new ((w.alloc (.cells #[.int .i64 r, .int .i64 g, .int .i64 b, .int .i64 a] T)).alloc (.cells #[.int .i64 r', .int .i64 g', .int .i64 b', .int .i64 a'] T')) T'' 0 0 0 0
    rw [sz_alloc, sz_alloc] at this
    exact this
theorem Tr.t2 {w w1 : World} {r g b a r' g' b' a' : Int} (h : Tr w r g b a r' g' b' a' w1) : T2 w r g b a r' g' b' a' w1 := t2_of h.h0 h.h1 h.hb
theorem set4_below {w w1 : World} {k : Nat} {u v s t : Value} (h : Below w.heap.size w w1) (hg : w.heap.size ≤ k) : Below w.heap.size w ((((w1.setCell ⟨k, 0, none⟩ u).setCell ⟨k, 1, none⟩ v).setCell ⟨k, 2, none⟩ s).setCell ⟨k, 3, none⟩ t) :=
  (((h.setCell hg _).setCell hg _).setCell hg _).setCell hg _
/-- one pixel came in, the answer's box stands behind it -/
structure Ts (w : World) (r g b a : Int) (w1 : World) : Prop where
  h0 : Bx w1 w.heap.size r g b a
  h2 : Bx w1 (w.heap.size + 1) 0 0 0 0
  hb : Below w.heap.size w w1
theorem Ts.later {w w0 w1 : World} {r g b a : Int} (h : Ts w r g b a w0) (hb : Below w0.heap.size w0 w1) : Ts w r g b a w1 := ⟨h.h0.below hb, h.h2.below hb, laterB h.hb hb⟩
theorem Ts.start (w : World) (r g b a : Int) (T T'' : TypeId) : Ts w r g b a ((w.alloc (.cells #[.int .i64 r, .int .i64 g, .int .i64 b, .int .i64 a] T)).alloc (.cells #[.int .i64 0, .int .i64 0, .int .i64 0, .int .i64 0] T'')) := by
  refine ⟨?_, ?_, ((Below.refl _ _).alloc (Nat.le_refl _) _).alloc (by simp) _⟩
  · exact (Bx.new w T r g b a).below ((Below.refl _ _).alloc (Nat.le_refl _) _)
  · have := Bx.new (w.alloc (.cells #[.int .i64 r, .int .i64 g, .int .i64 b, .int .i64 a] T)) T'' 0 0 0 0
    rw [sz_alloc] at this
    exact this
theorem Ts.t1 {w w1 : World} {r g b a : Int} (h : Ts w r g b a w1) : T1 w r g b a w1 := t1_of h.h0 h.hb

end Go.Proofs.Ytmpbcmpjfcddoaa
