/-
  What abides the steps of an iterator with a block of its own: boxes, blocks, what lies below.
-/
import Derived.Test.YtfcjdempigoiiaaStp
namespace Go.Proofs.Ytfcjdempigoiiaa
open Go.RowKit Go.Shelf
set_option linter.unusedVariables false
set_option linter.unusedSimpArgs false

/-- a turn that an iterator and its loop may make -/
abbrev TurnOk (B b : Nat) (X : World) (row : Option Nat) : Prop := ∀ k, row = some k → k = b ∨ (B ≤ k ∧ ∃ o : Obj, X.heap[k]? = some o ∧ o.isCells = false)
theorem blk_ab {B b c : Nat} {X Y : World} {row : Option Nat} {o : Obj} (h : X.heap[c]? = some o) (hc : o.isCells = true) (hg : X.grownBy Y row) (hr : TurnOk B b X row) (hne : c ≠ b) : Y.heap[c]? = some o := by
  refine (hg.block c (Array.getElem?_eq_some_iff.1 h).1 (fun e => ?_)).trans h
  rcases hr c e.symm with e | ⟨_, o', ho', hc'⟩
  · exact hne e
  · rw [h] at ho'; cases ho'; rw [hc] at hc'; cases hc'
theorem boxed_ab {B b c : Nat} {t : TypeId} {v : Value} {X Y : World} {row : Option Nat} (h : Boxed X c t v) (hg : X.grownBy Y row) (hr : TurnOk B b X row) (hne : c ≠ b) : Boxed Y c t v := blk_ab h rfl hg hr hne
theorem below_ab {B b n : Nat} {w X Y : World} {row : Option Nat} (h : Below n w X) (hn : n ≤ w.heap.size) (hg : X.grownBy Y row) (hr : TurnOk B b X row) (hb : n ≤ b) (hB : n ≤ B) : Below n w Y :=
  h.grown hg (Nat.le_trans hn h.size) (fun k e => by rcases hr k e with e | ⟨e, _⟩ <;> omega)
theorem row_ab {B b n g N cap m : Nat} {e : TypeId} {xs : List Value} {X Y : World} {row : Option Nat} (h : X.ownsRow n e m (.slice (some ⟨g, 0, none⟩) N cap) N xs) (hg : X.grownBy Y row) (hr : TurnOk B b X row) (hne : g ≠ b) : Y.ownsRow n e m (.slice (some ⟨g, 0, none⟩) N cap) N xs := by
  obtain ⟨h1, h2⟩ := h
  refine ⟨h1, ?_⟩
  rcases h2 with h2 | ⟨g', cap', cur, hv, hB, hh, r⟩
  · exact Or.inl h2
  · refine Or.inr ⟨g', cap', cur, hv, hB, ?_, r⟩
    injection hv with e1
    injection e1 with e1
    injection e1 with e1
    subst e1
    exact blk_ab hh rfl hg hr hne
theorem blk_put {X : World} {c l : Nat} {o o' p : Obj} (h : X.heap[c]? = some o) (hc : o.isCells = true) (hl : X.heap[l]? = some o') (ho : o'.isCells = false) : (X.putObj l p).heap[c]? = some o := by
  refine (World.putObj_heap_other (fun e => ?_)).trans h
  subst e; rw [h] at hl; cases hl; rw [hc] at ho; cases ho
theorem keepX_alloc {A r : Nat} (W : World) (o : Obj) : KeepX A r W (W.alloc o) := KeepX.grown (World.grownBy_alloc W o none) (fun k e => by cases e)

def chAt (l : List Ch) (k : Nat) : Ch := l.getD k (0, 0, 0, 0)
theorem chAt_eq {l : List Ch} {k : Nat} {c : Ch} (h : l[k]? = some c) : chAt l k = c := by unfold chAt; simp [List.getD, h]
theorem chAt_get {l : List Ch} {k : Nat} (h : k < l.length) : l[k]? = some (chAt l k) := by
  unfold chAt; rw [List.getD_eq_getElem?_getD, List.getElem?_eq_getElem h]; rfl
/-- the block of a step -/
abbrev stBlk (l : List Ch) (k : Nat) : Obj := .cells #[iv (chAt l k).1, iv (chAt l k).2.1, iv (chAt l k).2.2.1, iv (chAt l k).2.2.2, iv (oldL (l.take k)), iv (newL (l.take k))] 71 (0, 0)
theorem stv_gen (l : List Ch) (k : Nat) : ∃ y1 y2 y3 y4 y5 y6 : Int, stv l k = .agg #[.int .i64 y1, .int .i64 y2, .int .i64 y3, .int .i64 y4, .int .i64 y5, .int .i64 y6] ∧ stBlk l k = .cells #[.int .i64 y1, .int .i64 y2, .int .i64 y3, .int .i64 y4, .int .i64 y5, .int .i64 y6] 71 (0, 0) := ⟨_, _, _, _, _, _, rfl, rfl⟩

end Go.Proofs.Ytfcjdempigoiiaa
