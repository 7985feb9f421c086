/-
  Contracts of the functions on single complex numbers: each answers by the parts' operations, and writes into no memory that was there.
-/
import Derived.Test.YtdemcjppokhonaaFl
import Derived.Deep.RegionHeld3
import Derived.Outline
namespace Go.Proofs.Ytdemcjppokhonaa
open Go.RowKit
set_option linter.unusedVariables false
set_option linter.unusedSimpArgs false

/-- a complex number's value -/
abbrev cxv (a b : Nat) : Value := .agg #[.float .f64 a, .float .f64 b]

theorem prod_sm {a b : Nat} (h : Sm a b) : (NaN a ∧ NaN b) ∨ (a = b ∧ ¬ NaN a) := by
  by_cases n : NaN a
  · rcases h with rfl | h
    · exact .inl ⟨n, n⟩
    · exact .inl h
  · rcases h with rfl | h
    · exact .inr ⟨rfl, n⟩
    · exact absurd h.1 n

set_option maxHeartbeats 800000 in
theorem same_any (a b : Nat) (h : Sm a b) (w : World) : Calls Try.prog 32 #[.float .f64 a, .float .f64 b] w fun e w' => e = .returned (.bool true) ∧ ∃ n, w' = w.drewN n := by
  rcases prod_sm h with ⟨na, nb⟩ | ⟨rfl, na⟩
  · have h1 := order_nan_left (y := a) na
    have h2 := order_nan_left (y := b) nb
    clear na nb h
    go_enter Try.func32, Try.ntmps32
    go_wp2
    go_ret
    exact ⟨rfl, 0, rfl⟩
  · have h1 := order_self na
    clear na h
    go_enter Try.func32, Try.ntmps32
    go_wp2
    · go_ret
      refine ⟨ret_bool ?_, _, rfl⟩
      rw [order_sm ((fv_res .quo 4607182418800017408 a w).sm (fv_res .quo 4607182418800017408 a (w.drewN (fd BinOp.quo 4607182418800017408 a))) Sm.rfl Sm.rfl) Sm.rfl]
      simp
    · go_ret
      exact ⟨rfl, 0, rfl⟩

/-- what a cell holds -/
def cv (w : World) (a : Addr) : Value := (w.cell? a).getD undef
theorem cv_of {w : World} {a : Addr} {v : Value} (h : w.cell? a = some v) : w.cell? a = some (cv w a) := by unfold cv; rw [h]; rfl
theorem cv_keep {w w1 : World} {a : Addr} (hb : Below w.heap.size w w1) (h : w.cell? a = some (cv w a)) : w1.cell? a = some (cv w1 a) := cv_of (cell_later hb h)

/-- the cells of two numbers that came in, and of the answer's place -/
def In2 (w : World) (a b c d : Nat) (w' : World) : Prop := w'.cell? ⟨w.heap.size, 0, none⟩ = some (.float .f64 a) ∧ w'.cell? ⟨w.heap.size, 1, none⟩ = some (.float .f64 b) ∧ w'.cell? ⟨w.heap.size + 1, 0, none⟩ = some (.float .f64 c) ∧ w'.cell? ⟨w.heap.size + 1, 1, none⟩ = some (.float .f64 d) ∧
  w'.cell? ⟨w.heap.size + 1 + 1, 0, none⟩ = some (cv w' ⟨w.heap.size + 1 + 1, 0, none⟩) ∧ w'.cell? ⟨w.heap.size + 1 + 1, 1, none⟩ = some (cv w' ⟨w.heap.size + 1 + 1, 1, none⟩) ∧ w'.frozen? ⟨w.heap.size + 1 + 1, 0, none⟩ = false ∧ w'.frozen? ⟨w.heap.size + 1 + 1, 1, none⟩ = false ∧ Below w.heap.size w w'

theorem keepC {w w0 w1 : World} {a b c d : Nat} (h : In2 w a b c d w0) (hb : Below w0.heap.size w0 w1) : In2 w a b c d w1 := by
  obtain ⟨h1, h2, h3, h4, h5, h6, f5, f6, h7⟩ := h
  exact ⟨cell_later hb h1, cell_later hb h2, cell_later hb h3, cell_later hb h4, cv_keep hb h5, cv_keep hb h6, (hb.frozen (World.block_lt_of_cell? _ _ h5)).trans f5, (hb.frozen (World.block_lt_of_cell? _ _ h6)).trans f6, h7.trans (hb.mono h7.size)⟩
theorem ne_blk {b o b' o' : Nat} (h : b ≠ b') : (⟨b, o, none⟩ : Addr) ≠ ⟨b', o', none⟩ := by intro e; injection e with e1 _ _; exact h e1
theorem ne_off {g i j : Nat} (h : i ≠ j) : (⟨g, i, none⟩ : Addr) ≠ ⟨g, j, none⟩ := by intro e; injection e with _ e2 _; exact h e2
theorem keepS {w w0 : World} {a b c d : Nat} {u v : Value} (h : In2 w a b c d w0) : In2 w a b c d ((w0.setCell ⟨w.heap.size + 1 + 1, 0, none⟩ u).setCell ⟨w.heap.size + 1 + 1, 1, none⟩ v) := by
  obtain ⟨h1, h2, h3, h4, h5, h6, f5, f6, h7⟩ := h
  have R : ∀ b o, b ≠ w.heap.size + 1 + 1 → ((w0.setCell ⟨w.heap.size + 1 + 1, 0, none⟩ u).setCell ⟨w.heap.size + 1 + 1, 1, none⟩ v).cell? ⟨b, o, none⟩ = w0.cell? ⟨b, o, none⟩ := by
    intro b o hb
    rw [World.cell?_setCell_other _ _ _ _ (ne_blk (Ne.symm hb)), World.cell?_setCell_other _ _ _ _ (ne_blk (Ne.symm hb))]
  refine ⟨(R _ _ (by omega)).trans h1, (R _ _ (by omega)).trans h2, (R _ _ (by omega)).trans h3, (R _ _ (by omega)).trans h4, cv_of (v := u) ?_, cv_of (v := v) ?_, ?_, ?_, ?_⟩
  · rw [World.cell?_setCell_other _ _ _ _ (ne_off (by decide))]; exact World.cell?_setCell_same _ _ _ h5
  · exact World.cell?_setCell_same _ _ _ (by rw [World.cell?_setCell_other _ _ _ _ (ne_off (by decide))]; exact h6)
  · rw [World.frozen?_setCell, World.frozen?_setCell]; exact f5
  · rw [World.frozen?_setCell, World.frozen?_setCell]; exact f6
  · exact (h7.setCell (by simp; omega) _).setCell (by simp; omega) _

end Go.Proofs.Ytdemcjppokhonaa
