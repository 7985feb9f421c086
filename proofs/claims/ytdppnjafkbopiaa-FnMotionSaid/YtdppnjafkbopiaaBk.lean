/-
  A block of sixteen numbers in memory; contracts of a block's rows, of a row turned, and of a block turned by the program; nothing that was there is written.
-/
import Derived.Test.YtdppnjafkbopiaaSq
import Derived.Deep.Heap
namespace Go.Proofs.Ytdppnjafkbopiaa
open Go.RowKit
set_option linter.unusedVariables false
set_option linter.unusedSimpArgs false

/-- sixteen numbers in the block b -/
def Bk (w : World) (b : Nat) (t : TypeId) (g : Nat → Int) : Prop := w.heap[b]? = some (.cells #[.int .i64 (g 0), .int .i64 (g 1), .int .i64 (g 2), .int .i64 (g 3), .int .i64 (g 4), .int .i64 (g 5), .int .i64 (g 6), .int .i64 (g 7), .int .i64 (g 8), .int .i64 (g 9), .int .i64 (g 10), .int .i64 (g 11), .int .i64 (g 12), .int .i64 (g 13), .int .i64 (g 14), .int .i64 (g 15)] t (0, 0))
theorem Bk.lt {w : World} {b : Nat} {t : TypeId} {g : Nat → Int} (h : Bk w b t g) : b < w.heap.size := (Array.getElem?_eq_some_iff.1 h).1
theorem Bk.cells {w : World} {b : Nat} {t : TypeId} {g : Nat → Int} (h : Bk w b t g) : w.cell? ⟨b, 0, none⟩ = some (.int .i64 (g 0)) ∧ w.cell? ⟨b, 1, none⟩ = some (.int .i64 (g 1)) ∧ w.cell? ⟨b, 2, none⟩ = some (.int .i64 (g 2)) ∧ w.cell? ⟨b, 3, none⟩ = some (.int .i64 (g 3)) ∧ w.cell? ⟨b, 4, none⟩ = some (.int .i64 (g 4)) ∧ w.cell? ⟨b, 5, none⟩ = some (.int .i64 (g 5)) ∧ w.cell? ⟨b, 6, none⟩ = some (.int .i64 (g 6)) ∧ w.cell? ⟨b, 7, none⟩ = some (.int .i64 (g 7)) ∧ w.cell? ⟨b, 8, none⟩ = some (.int .i64 (g 8)) ∧ w.cell? ⟨b, 9, none⟩ = some (.int .i64 (g 9)) ∧ w.cell? ⟨b, 10, none⟩ = some (.int .i64 (g 10)) ∧ w.cell? ⟨b, 11, none⟩ = some (.int .i64 (g 11)) ∧ w.cell? ⟨b, 12, none⟩ = some (.int .i64 (g 12)) ∧ w.cell? ⟨b, 13, none⟩ = some (.int .i64 (g 13)) ∧ w.cell? ⟨b, 14, none⟩ = some (.int .i64 (g 14)) ∧ w.cell? ⟨b, 15, none⟩ = some (.int .i64 (g 15)) := by
  unfold Bk at h
  refine ⟨?_, ?_, ?_, ?_, ?_, ?_, ?_, ?_, ?_, ?_, ?_, ?_, ?_, ?_, ?_, ?_⟩ <;> simp [World.cell?, h]
theorem Bk.at {w : World} {b : Nat} {t : TypeId} {g : Nat → Int} (h : Bk w b t g) (k : Nat) (hk : k < 16) : w.cell? ⟨b, k, none⟩ = some (.int .i64 (g k)) := by
  have := h.cells
  have hc : k = 0 ∨ k = 1 ∨ k = 2 ∨ k = 3 ∨ k = 4 ∨ k = 5 ∨ k = 6 ∨ k = 7 ∨ k = 8 ∨ k = 9 ∨ k = 10 ∨ k = 11 ∨ k = 12 ∨ k = 13 ∨ k = 14 ∨ k = 15 := by omega
  rcases hc with rfl | rfl | rfl | rfl | rfl | rfl | rfl | rfl | rfl | rfl | rfl | rfl | rfl | rfl | rfl | rfl
  · exact this.1
  · exact this.2.1
  · exact this.2.2.1
  · exact this.2.2.2.1
  · exact this.2.2.2.2.1
  · exact this.2.2.2.2.2.1
  · exact this.2.2.2.2.2.2.1
  · exact this.2.2.2.2.2.2.2.1
  · exact this.2.2.2.2.2.2.2.2.1
  · exact this.2.2.2.2.2.2.2.2.2.1
  · exact this.2.2.2.2.2.2.2.2.2.2.1
  · exact this.2.2.2.2.2.2.2.2.2.2.2.1
  · exact this.2.2.2.2.2.2.2.2.2.2.2.2.1
  · exact this.2.2.2.2.2.2.2.2.2.2.2.2.2.1
  · exact this.2.2.2.2.2.2.2.2.2.2.2.2.2.2.1
  · exact this.2.2.2.2.2.2.2.2.2.2.2.2.2.2.2
theorem Bk.fz {w : World} {b : Nat} {t : TypeId} {g : Nat → Int} (h : Bk w b t g) (k : Nat) : w.frozen? ⟨b, k, none⟩ = false := by
  unfold Bk at h
  simp [World.frozen?, h]
theorem Bk.below {w w1 : World} {b C : Nat} {t : TypeId} {g : Nat → Int} (h : Bk w b t g) (hb : Below C w w1) (hC : b < C) : Bk w1 b t g := (hb.block b hC).trans h
theorem Bk.later {w w1 : World} {b : Nat} {t : TypeId} {g : Nat → Int} (h : Bk w b t g) (hb : Below w.heap.size w w1) : Bk w1 b t g := h.below hb h.lt
theorem Bk.ne {w : World} {b c o : Nat} {t : TypeId} {g : Nat → Int} {v : Value} (h : Bk w b t g) (hc : b ≠ c) : Bk (w.setCell ⟨c, o, none⟩ v) b t g := by
  unfold Bk at *
  rw [← h]
  simp [World.setCell, Array.getElem?_modify, Ne.symm hc]
theorem Bk.eq {w : World} {b : Nat} {t : TypeId} {g h : Nat → Int} (a : Bk w b t g) (e : ∀ i, i < 16 → g i = h i) : Bk w b t h := by
  unfold Bk at *
  rw [a, e 0 (by omega), e 1 (by omega), e 2 (by omega), e 3 (by omega), e 4 (by omega), e 5 (by omega), e 6 (by omega), e 7 (by omega), e 8 (by omega), e 9 (by omega), e 10 (by omega), e 11 (by omega), e 12 (by omega), e 13 (by omega), e 14 (by omega), e 15 (by omega)]
/-- one number put -/
def put (g : Nat → Int) (k : Nat) (v : Int) (i : Nat) : Int := if i = k then v else g i
theorem Bk.set {w : World} {b : Nat} {t : TypeId} {g : Nat → Int} (h : Bk w b t g) (k : Nat) (hk : k < 16) (v : Int) : Bk (w.setCell ⟨b, k, none⟩ (.int .i64 v)) b t (put g k v) := by
  unfold Bk at *
  have hc : k = 0 ∨ k = 1 ∨ k = 2 ∨ k = 3 ∨ k = 4 ∨ k = 5 ∨ k = 6 ∨ k = 7 ∨ k = 8 ∨ k = 9 ∨ k = 10 ∨ k = 11 ∨ k = 12 ∨ k = 13 ∨ k = 14 ∨ k = 15 := by omega
  rcases hc with rfl | rfl | rfl | rfl | rfl | rfl | rfl | rfl | rfl | rfl | rfl | rfl | rfl | rfl | rfl | rfl
  all_goals simp [World.setCell, h, Array.getElem?_modify, put]
theorem Bk.new (w : World) (t : TypeId) (g : Nat → Int) : Bk (w.alloc (.cells #[.int .i64 (g 0), .int .i64 (g 1), .int .i64 (g 2), .int .i64 (g 3), .int .i64 (g 4), .int .i64 (g 5), .int .i64 (g 6), .int .i64 (g 7), .int .i64 (g 8), .int .i64 (g 9), .int .i64 (g 10), .int .i64 (g 11), .int .i64 (g 12), .int .i64 (g 13), .int .i64 (g 14), .int .i64 (g 15)] t)) w.heap.size t g := by
  exact Deep.blk_alloc_new _ _

/-- the block's rows turned, aslant, as far as row y and its number x -/
def aslK (f : Nat → Int) (y x i : Nat) : Int := if i % 4 < y ∨ (i % 4 = y ∧ i / 4 < x) then asl f i else 0
theorem aslK_put (f : Nat → Int) (y x : Nat) (hy : y < 4) (hx : x < 4) (i : Nat) (hi : i < 16) : put (aslK f y x) (x * 4 + y) (four (f (4 * y)) (f (4 * y + 1)) (f (4 * y + 2)) (f (4 * y + 3)) x) i = aslK f y (x + 1) i := by
  unfold put aslK
  by_cases e : i = x * 4 + y
  · have e1 : i % 4 = y := by omega
    have e2 : i / 4 = x := by omega
    rw [if_pos e, if_pos (by omega)]
    unfold asl
    rw [e1, e2]
  · rw [if_neg e]
    by_cases c : i % 4 < y ∨ (i % 4 = y ∧ i / 4 < x)
    · rw [if_pos c, if_pos (by omega)]
    · rw [if_neg c, if_neg (by omega)]
theorem aslK_row (f : Nat → Int) (y : Nat) (i : Nat) (hi : i < 16) : aslK f y 4 i = aslK f (y + 1) 0 i := by
  unfold aslK
  by_cases c : i % 4 < y ∨ (i % 4 = y ∧ i / 4 < 4)
  · rw [if_pos c, if_pos (by omega)]
  · rw [if_neg c, if_neg (by omega)]
theorem aslK_end (f : Nat → Int) (i : Nat) (hi : i < 16) : aslK f 4 0 i = asl f i := by
  unfold aslK; rw [if_pos (by omega)]
theorem Bk.put16 {w : World} {b : Nat} {t : TypeId} {h : Nat → Int} (a : Bk w b t h) (g : Nat → Int) : Bk ((((((((((((((((w.setCell ⟨b, 0, none⟩ (.int .i64 (g 0))).setCell ⟨b, 1, none⟩ (.int .i64 (g 1))).setCell ⟨b, 2, none⟩ (.int .i64 (g 2))).setCell ⟨b, 3, none⟩ (.int .i64 (g 3))).setCell ⟨b, 4, none⟩ (.int .i64 (g 4))).setCell ⟨b, 5, none⟩ (.int .i64 (g 5))).setCell ⟨b, 6, none⟩ (.int .i64 (g 6))).setCell ⟨b, 7, none⟩ (.int .i64 (g 7))).setCell ⟨b, 8, none⟩ (.int .i64 (g 8))).setCell ⟨b, 9, none⟩ (.int .i64 (g 9))).setCell ⟨b, 10, none⟩ (.int .i64 (g 10))).setCell ⟨b, 11, none⟩ (.int .i64 (g 11))).setCell ⟨b, 12, none⟩ (.int .i64 (g 12))).setCell ⟨b, 13, none⟩ (.int .i64 (g 13))).setCell ⟨b, 14, none⟩ (.int .i64 (g 14))).setCell ⟨b, 15, none⟩ (.int .i64 (g 15))) b t g := by
  unfold Bk at *
  simp [World.setCell, a, Array.getElem?_modify]
theorem below_set16 {W w : World} {B b : Nat} (g : Nat → Int) (a : Below B W w) (h : B ≤ b) : Below B W ((((((((((((((((w.setCell ⟨b, 0, none⟩ (.int .i64 (g 0))).setCell ⟨b, 1, none⟩ (.int .i64 (g 1))).setCell ⟨b, 2, none⟩ (.int .i64 (g 2))).setCell ⟨b, 3, none⟩ (.int .i64 (g 3))).setCell ⟨b, 4, none⟩ (.int .i64 (g 4))).setCell ⟨b, 5, none⟩ (.int .i64 (g 5))).setCell ⟨b, 6, none⟩ (.int .i64 (g 6))).setCell ⟨b, 7, none⟩ (.int .i64 (g 7))).setCell ⟨b, 8, none⟩ (.int .i64 (g 8))).setCell ⟨b, 9, none⟩ (.int .i64 (g 9))).setCell ⟨b, 10, none⟩ (.int .i64 (g 10))).setCell ⟨b, 11, none⟩ (.int .i64 (g 11))).setCell ⟨b, 12, none⟩ (.int .i64 (g 12))).setCell ⟨b, 13, none⟩ (.int .i64 (g 13))).setCell ⟨b, 14, none⟩ (.int .i64 (g 14))).setCell ⟨b, 15, none⟩ (.int .i64 (g 15))) :=
  below_set (below_set (below_set (below_set (below_set (below_set (below_set (below_set (below_set (below_set (below_set (below_set (below_set (below_set (below_set (below_set a h) h) h) h) h) h) h) h) h) h) h) h) h) h) h) h
end Go.Proofs.Ytdppnjafkbopiaa
