/-
  Contracts of the functions on single complex numbers: each answers by the parts' operations, and writes into no memory that was there.
-/
import Derived.Test.YtmhciigjjamjkaaFl
import Derived.Deep.RegionHeld3
import Derived.Outline
namespace Go.Proofs.Ytmhciigjjamjkaa
open Go.RowKit
set_option linter.unusedVariables false
set_option linter.unusedSimpArgs false

/-- a complex number's value -/
abbrev cxv (a b : Nat) : Value := .agg #[.float .f64 a, .float .f64 b]

set_option maxHeartbeats 800000 in
theorem prod_any (a b c d : Nat) (w : World) : Calls Try.prog 13 #[.complex .f64 a b, .complex .f64 c d] w fun e w' => ∃ re im, e = .returned (.complex .f64 re im) ∧ CPr a b c d re im ∧ ∃ n, w' = w.drewN n := by
  go_enter Try.func13, Try.ntmps13
  go_wp2
  go_ret
  exact ⟨_, _, rfl, ⟨_, _, _, _, fv_res _ _ _ _, fv_res _ _ _ _, fv_res _ _ _ _, fv_res _ _ _ _, fv_res _ _ _ _, fv_res _ _ _ _⟩, _, rfl⟩

set_option maxHeartbeats 800000 in
theorem num_any (a b : Nat) (w : World) : Calls Try.prog 10 #[.agg #[.float .f64 a, .float .f64 b]] w fun e w' => e = .returned (.complex .f64 a b) ∧ Below w.heap.size w w' := by
  go_enter Try.func10, Try.ntmps10
  go_wp2
  go_ret
  exact ⟨rfl, (Below.refl _ _).alloc (Nat.le_refl _) _⟩

set_option maxHeartbeats 800000 in
theorem shown_any (a b : Nat) (w : World) : Calls Try.prog 12 #[.complex .f64 a b] w fun e w' => e = .returned (.agg #[.float .f64 a, .float .f64 b]) ∧ Below w.heap.size w w' := by
  go_enter Try.func12, Try.ntmps12
  go_wp2
  exact bodyPost_ret (v := .agg #[.float .f64 a, .float .f64 b]) (by simp [results, Try.results12, go_sem]) rfl ⟨rfl, (Below.refl _ _).alloc (Nat.le_refl _) _⟩

theorem prod_sm {a b : Nat} (h : Sm a b) : (NaN a ∧ NaN b) ∨ (a = b ∧ ¬ NaN a) := by
  by_cases n : NaN a
  · rcases h with rfl | h
    · exact .inl ⟨n, n⟩
    · exact .inl h
  · rcases h with rfl | h
    · exact .inr ⟨rfl, n⟩
    · exact absurd h.1 n

theorem prod2_any (a b c d : Nat) (w : World) : Calls Try.prog 13 #[.complex .f64 a b, .complex .f64 c d] w fun e w' => ∃ re im, e = .returned (.complex .f64 re im) ∧ Hid (CPr a b c d re im) ∧ Below w.heap.size w w' :=
  (prod_any a b c d w).mono fun e w' ⟨re, im, he, hc, n, hn⟩ => ⟨re, im, he, hide hc, by rw [hn]; exact below_drew n⟩

/-- what a cell holds -/
def cv (w : World) (a : Addr) : Value := (w.cell? a).getD undef
theorem cv_of {w : World} {a : Addr} {v : Value} (h : w.cell? a = some v) : w.cell? a = some (cv w a) := by unfold cv; rw [h]; rfl
theorem cv_keep {w w1 : World} {a : Addr} (hb : Below w.heap.size w w1) (h : w.cell? a = some (cv w a)) : w1.cell? a = some (cv w1 a) := cv_of (cell_later hb h)

/-- the cells of two numbers that came in, and of the answer's place -/
def In2 (w : World) (a b c d : Nat) (w' : World) : Prop := w'.cell? ⟨w.heap.size, 0, none⟩ = some (.float .f64 a) ∧ w'.cell? ⟨w.heap.size, 1, none⟩ = some (.float .f64 b) ∧ w'.cell? ⟨w.heap.size + 1, 0, none⟩ = some (.float .f64 c) ∧ w'.cell? ⟨w.heap.size + 1, 1, none⟩ = some (.float .f64 d) ∧
  w'.cell? ⟨w.heap.size + 1 + 1, 0, none⟩ = some (cv w' ⟨w.heap.size + 1 + 1, 0, none⟩) ∧ w'.cell? ⟨w.heap.size + 1 + 1, 1, none⟩ = some (cv w' ⟨w.heap.size + 1 + 1, 1, none⟩) ∧ w'.frozen? ⟨w.heap.size + 1 + 1, 0, none⟩ = false ∧ w'.frozen? ⟨w.heap.size + 1 + 1, 1, none⟩ = false ∧ Below w.heap.size w w'

theorem keepC {w w0 w1 : World} {a b c d : Nat} (h : In2 w a b c d w0) (hb : Below w0.heap.size w0 w1) : In2 w a b c d w1 := by
  obtain ⟨h1, h2, h3, h4, h5, h6, f5, f6, h7⟩ := h
  exact ⟨cell_later hb h1, cell_later hb h2, cell_later hb h3, cell_later hb h4, cv_keep hb h5, cv_keep hb h6, (hb.frozen (World.block_lt_of_cell? _ _ h5)).trans f5, (hb.frozen (World.block_lt_of_cell? _ _ h6)).trans f6, h7.trans (hb.mono h7.size)⟩
theorem ne_blk {b o b' o' : Nat} (h : b ≠ b') : (⟨b, o, none⟩ : Addr) ≠ ⟨b', o', none⟩ := by intro e; injection e with e1 _ _; exact h e1
theorem ne_off {g i j : Nat} (h : i ≠ j) : (⟨g, i, none⟩ : Addr) ≠ ⟨g, j, none⟩ := by intro e; injection e with _ e2 _; exact h e2
theorem keepS {w w0 : World} {a b c d : Nat} {u v : Value} (h : In2 w a b c d w0) : In2 w a b c d ((w0.setCell ⟨w.heap.size + 1 + 1, 0, none⟩ u).setCell ⟨w.heap.size + 1 + 1, 1, none⟩ v) := by
  obtain ⟨h1, h2, h3, h4, h5, h6, f5, f6, h7⟩ := h
  have R : ∀ b o, b ≠ w.heap.size + 1 + 1 → ((w0.setCell ⟨w.heap.size + 1 + 1, 0, none⟩ u).setCell ⟨w.heap.size + 1 + 1, 1, none⟩ v).cell? ⟨b, o, none⟩ = w0.cell? ⟨b, o, none⟩ := by
    intro b o hb
    rw [World.cell?_setCell_other _ _ _ _ (ne_blk (Ne.symm hb)), World.cell?_setCell_other _ _ _ _ (ne_blk (Ne.symm hb))]
  refine ⟨(R _ _ (by omega)).trans h1, (R _ _ (by omega)).trans h2, (R _ _ (by omega)).trans h3, (R _ _ (by omega)).trans h4, cv_of (v := u) ?_, cv_of (v := v) ?_, ?_, ?_, ?_⟩
  · rw [World.cell?_setCell_other _ _ _ _ (ne_off (by decide))]; exact World.cell?_setCell_same _ _ _ h5
  · exact World.cell?_setCell_same _ _ _ (by rw [World.cell?_setCell_other _ _ _ _ (ne_off (by decide))]; exact h6)
  · rw [World.frozen?_setCell, World.frozen?_setCell]; exact f5
  · rw [World.frozen?_setCell, World.frozen?_setCell]; exact f6
  · exact (h7.setCell (by simp; omega) _).setCell (by simp; omega) _

end Go.Proofs.Ytmhciigjjamjkaa
