/-
  Contracts of the functions on single complex numbers: each answers by the parts' operations, and writes into no memory that was there.
-/
import Derived.Test.YtibeipcfokngjaaFl
import Derived.Deep.RegionHeld3
import Derived.Outline
namespace Go.Proofs.Ytibeipcfokngjaa
open Go.RowKit
set_option linter.unusedVariables false
set_option linter.unusedSimpArgs false

/-- a complex number's value -/
abbrev cxv (a b : Nat) : Value := .agg #[.float .f64 a, .float .f64 b]

set_option maxHeartbeats 800000 in
theorem tocx_any (a b : Nat) (w : World) : Calls Try.prog 11 #[.agg #[.float .f64 a, .float .f64 b]] w fun e w' => e = .returned (.agg #[.float .f64 a, .float .f64 b]) ∧ Below w.heap.size w w' := by
  go_enter Try.func11, Try.ntmps11
  go_wp2
  exact bodyPost_ret (v := .agg #[.float .f64 a, .float .f64 b]) (by simp [results, Try.results11, go_sem]) rfl ⟨rfl, (((Below.refl _ _).alloc (Nat.le_refl _) _).alloc (by simp) _).alloc (by simp; omega) _⟩

set_option maxHeartbeats 800000 in
theorem prod_any (a b c d : Nat) (w : World) : Calls Try.prog 38 #[.complex .f64 a b, .complex .f64 c d] w fun e w' => ∃ re im, e = .returned (.complex .f64 re im) ∧ CPr a b c d re im ∧ ∃ n, w' = w.drewN n := by
  go_enter Try.func38, Try.ntmps38
  go_wp2
  go_ret
  exact ⟨_, _, rfl, ⟨_, _, _, _, fv_res _ _ _ _, fv_res _ _ _ _, fv_res _ _ _ _, fv_res _ _ _ _, fv_res _ _ _ _, fv_res _ _ _ _⟩, _, rfl⟩

set_option maxHeartbeats 800000 in
theorem num_any (a b : Nat) (w : World) : Calls Try.prog 39 #[.agg #[.float .f64 a, .float .f64 b]] w fun e w' => e = .returned (.complex .f64 a b) ∧ Below w.heap.size w w' := by
  go_enter Try.func39, Try.ntmps39
  go_wp2
  go_ret
  exact ⟨rfl, (Below.refl _ _).alloc (Nat.le_refl _) _⟩

set_option maxHeartbeats 800000 in
theorem shown_any (a b : Nat) (w : World) : Calls Try.prog 37 #[.complex .f64 a b] w fun e w' => e = .returned (.agg #[.float .f64 a, .float .f64 b]) ∧ Below w.heap.size w w' := by
  go_enter Try.func37, Try.ntmps37
  go_wp2
  exact bodyPost_ret (v := .agg #[.float .f64 a, .float .f64 b]) (by simp [results, Try.results37, go_sem]) rfl ⟨rfl, (Below.refl _ _).alloc (Nat.le_refl _) _⟩

set_option maxHeartbeats 800000 in
theorem lprod_any (a b c d : Nat) (w : World) : Calls Try.prog 36 #[.agg #[.float .f64 a, .float .f64 b], .agg #[.float .f64 c, .float .f64 d]] w fun e w' => ∃ re im, e = .returned (.agg #[.float .f64 re, .float .f64 im]) ∧ CPr a b c d re im ∧ Below w.heap.size w w' := by
  go_enter Try.func36, Try.ntmps36
  go_wp2
  refine bodyPost_ret (v := .agg #[.float .f64 _, .float .f64 _]) (by simp [results, Try.results36, go_sem]; exact ⟨rfl, rfl⟩) rfl ⟨_, _, rfl, ⟨_, _, _, _, fv_res _ _ _ _, fv_res _ _ _ _, fv_res _ _ _ _, fv_res _ _ _ _, fv_res _ _ _ _, fv_res _ _ _ _⟩, ?_⟩
  repeat first | exact Below.refl _ _ | refine Below.setCell ?_ (by simp <;> omega) _ | refine Below.alloc ?_ (by simp <;> omega) _ | refine below_drewN ?_ _

theorem prod_sm {a b : Nat} (h : Sm a b) : (NaN a ∧ NaN b) ∨ (a = b ∧ ¬ NaN a) := by
  by_cases n : NaN a
  · rcases h with rfl | h
    · exact .inl ⟨n, n⟩
    · exact .inl h
  · rcases h with rfl | h
    · exact .inr ⟨rfl, n⟩
    · exact absurd h.1 n

set_option maxHeartbeats 800000 in
theorem same_any (a b : Nat) (h : Sm a b) (w : World) : Calls Try.prog 33 #[.float .f64 a, .float .f64 b] w fun e w' => e = .returned (.bool true) ∧ ∃ n, w' = w.drewN n := by
  rcases prod_sm h with ⟨na, nb⟩ | ⟨rfl, na⟩
  · have h1 := order_nan_left (y := a) na
    have h2 := order_nan_left (y := b) nb
    clear na nb h
    go_enter Try.func33, Try.ntmps33
    go_wp2
    go_ret
    exact ⟨rfl, 0, rfl⟩
  · have h1 := order_self na
    clear na h
    go_enter Try.func33, Try.ntmps33
    go_wp2
    · go_ret
      refine ⟨ret_bool ?_, _, rfl⟩
      rw [order_sm ((fv_res .quo 4607182418800017408 a w).sm (fv_res .quo 4607182418800017408 a (w.drewN (fd BinOp.quo 4607182418800017408 a))) Sm.rfl Sm.rfl) Sm.rfl]
      simp
    · go_ret
      exact ⟨rfl, 0, rfl⟩

set_option maxHeartbeats 800000 in
theorem eqcx_any (a b c d : Nat) (h1 : Sm a c) (h2 : Sm b d) (w : World) : Calls Try.prog 13 #[.agg #[.float .f64 a, .float .f64 b], .agg #[.float .f64 c, .float .f64 d]] w fun e w' => e = .returned (.bool true) ∧ Below w.heap.size w w' := by
  have h1' := hide h1
  have h2' := hide h2
  clear h1 h2
  go_enter Try.func13, Try.ntmps13
  go_wp2_with fail
  refine (same_any a c (unhide h1') _).mono ?_
  rintro e w1 ⟨rfl, n1, rfl⟩
  go_wp2_with fail
  refine (same_any b d (unhide h2') _).mono ?_
  rintro e w2 ⟨rfl, n2, rfl⟩
  go_wp2
  go_ret
  refine ⟨rfl, ?_⟩
  repeat first | exact Below.refl _ _ | refine Below.setCell ?_ (by simp <;> omega) _ | refine Below.alloc ?_ (by simp <;> omega) _ | refine below_drewN ?_ _

set_option maxHeartbeats 800000 in
theorem sprod_any (a b c d : Nat) (w : World) : Calls Try.prog 10 #[.agg #[.float .f64 a, .float .f64 b], .agg #[.float .f64 c, .float .f64 d]] w fun e w' => ∃ re im, e = .returned (.agg #[.float .f64 re, .float .f64 im]) ∧ CPr a b c d re im ∧ Below w.heap.size w w' := by
  go_enter Try.func10, Try.ntmps10
  go_wp2_with fail
  refine (lprod_any a b c d _).mono ?_
  rintro e w1 ⟨re, im, rfl, hc, hb⟩
  have hc' := hide hc
  clear hc
  have hb' := hide hb
  obtain ⟨c1, f1⟩ := bcell hb
  have x0 : w1.cell? ⟨w.heap.size + 1 + 1, 0, none⟩ = some (.float .f64 0) := by rw [c1 _ _ (by simp)]; simp [go_sem]
  have x1 : w1.cell? ⟨w.heap.size + 1 + 1, 1, none⟩ = some (.float .f64 0) := by rw [c1 _ _ (by simp)]; simp [go_sem]
  have x2 : w1.frozen? ⟨w.heap.size + 1 + 1, 0, none⟩ = false := by rw [f1 _ _ (by simp)]; simp [go_sem]
  have x3 : w1.frozen? ⟨w.heap.size + 1 + 1, 1, none⟩ = false := by rw [f1 _ _ (by simp)]; simp [go_sem]
  clear c1 f1 hb
  go_wp2
  refine bodyPost_ret (v := .agg #[.float .f64 re, .float .f64 im]) (by simp [results, Try.results10, go_sem, x0, x1]) rfl ⟨_, _, rfl, unhide hc', ?_⟩
  refine Below.setCell (Below.setCell ?_ (by simp <;> omega) _) (by simp <;> omega) _
  refine Below.trans ?_ ((unhide hb').mono (by simp <;> omega))
  repeat first | exact Below.refl _ _ | refine Below.setCell ?_ (by simp <;> omega) _ | refine Below.alloc ?_ (by simp <;> omega) _ | refine below_drewN ?_ _

theorem prod2_any (a b c d : Nat) (w : World) : Calls Try.prog 38 #[.complex .f64 a b, .complex .f64 c d] w fun e w' => ∃ re im, e = .returned (.complex .f64 re im) ∧ Hid (CPr a b c d re im) ∧ Below w.heap.size w w' :=
  (prod_any a b c d w).mono fun e w' ⟨re, im, he, hc, n, hn⟩ => ⟨re, im, he, hide hc, by rw [hn]; exact below_drew n⟩

/-- what a cell holds -/
def cv (w : World) (a : Addr) : Value := (w.cell? a).getD undef
theorem cv_of {w : World} {a : Addr} {v : Value} (h : w.cell? a = some v) : w.cell? a = some (cv w a) := by unfold cv; rw [h]; rfl
theorem cv_keep {w w1 : World} {a : Addr} (hb : Below w.heap.size w w1) (h : w.cell? a = some (cv w a)) : w1.cell? a = some (cv w1 a) := cv_of (cell_later hb h)

/-- the cells of two numbers that came in, and of the answer's place -/
def In2 (w : World) (a b c d : Nat) (w' : World) : Prop := w'.cell? ⟨w.heap.size, 0, none⟩ = some (.float .f64 a) ∧ w'.cell? ⟨w.heap.size, 1, none⟩ = some (.float .f64 b) ∧ w'.cell? ⟨w.heap.size + 1, 0, none⟩ = some (.float .f64 c) ∧ w'.cell? ⟨w.heap.size + 1, 1, none⟩ = some (.float .f64 d) ∧
  w'.cell? ⟨w.heap.size + 1 + 1, 0, none⟩ = some (cv w' ⟨w.heap.size + 1 + 1, 0, none⟩) ∧ w'.cell? ⟨w.heap.size + 1 + 1, 1, none⟩ = some (cv w' ⟨w.heap.size + 1 + 1, 1, none⟩) ∧ w'.frozen? ⟨w.heap.size + 1 + 1, 0, none⟩ = false ∧ w'.frozen? ⟨w.heap.size + 1 + 1, 1, none⟩ = false ∧ Below w.heap.size w w'

theorem keepC {w w0 w1 : World} {a b c d : Nat} (h : In2 w a b c d w0) (hb : Below w0.heap.size w0 w1) : In2 w a b c d w1 := by
  obtain ⟨h1, h2, h3, h4, h5, h6, f5, f6, h7⟩ := h
  exact ⟨cell_later hb h1, cell_later hb h2, cell_later hb h3, cell_later hb h4, cv_keep hb h5, cv_keep hb h6, (hb.frozen (World.block_lt_of_cell? _ _ h5)).trans f5, (hb.frozen (World.block_lt_of_cell? _ _ h6)).trans f6, h7.trans (hb.mono h7.size)⟩
theorem ne_blk {b o b' o' : Nat} (h : b ≠ b') : (⟨b, o, none⟩ : Addr) ≠ ⟨b', o', none⟩ := by intro e; injection e with e1 _ _; exact h e1
theorem ne_off {g i j : Nat} (h : i ≠ j) : (⟨g, i, none⟩ : Addr) ≠ ⟨g, j, none⟩ := by intro e; injection e with _ e2 _; exact h e2
theorem keepS {w w0 : World} {a b c d : Nat} {u v : Value} (h : In2 w a b c d w0) : In2 w a b c d ((w0.setCell ⟨w.heap.size + 1 + 1, 0, none⟩ u).setCell ⟨w.heap.size + 1 + 1, 1, none⟩ v) := by
  obtain ⟨h1, h2, h3, h4, h5, h6, f5, f6, h7⟩ := h
  have R : ∀ b o, b ≠ w.heap.size + 1 + 1 → ((w0.setCell ⟨w.heap.size + 1 + 1, 0, none⟩ u).setCell ⟨w.heap.size + 1 + 1, 1, none⟩ v).cell? ⟨b, o, none⟩ = w0.cell? ⟨b, o, none⟩ := by
    intro b o hb
    rw [World.cell?_setCell_other _ _ _ _ (ne_blk (Ne.symm hb)), World.cell?_setCell_other _ _ _ _ (ne_blk (Ne.symm hb))]
  refine ⟨(R _ _ (by omega)).trans h1, (R _ _ (by omega)).trans h2, (R _ _ (by omega)).trans h3, (R _ _ (by omega)).trans h4, cv_of (v := u) ?_, cv_of (v := v) ?_, ?_, ?_, ?_⟩
  · rw [World.cell?_setCell_other _ _ _ _ (ne_off (by decide))]; exact World.cell?_setCell_same _ _ _ h5
  · exact World.cell?_setCell_same _ _ _ (by rw [World.cell?_setCell_other _ _ _ _ (ne_off (by decide))]; exact h6)
  · rw [World.frozen?_setCell, World.frozen?_setCell]; exact f5
  · rw [World.frozen?_setCell, World.frozen?_setCell]; exact f6
  · exact (h7.setCell (by simp; omega) _).setCell (by simp; omega) _

set_option maxHeartbeats 800000 in
theorem iprod_any (a b c d : Nat) (w : World) : Calls Try.prog 12 #[.agg #[.float .f64 a, .float .f64 b], .agg #[.float .f64 c, .float .f64 d]] w fun e w' => ∃ re im, e = .returned (.agg #[.float .f64 re, .float .f64 im]) ∧ CPr a b c d re im ∧ Below w.heap.size w w' := by
  go_enter Try.func12, Try.ntmps12
  go_wp2_with fail
  go_region_held3 (fun w' => w'.cell? ⟨w.heap.size, 0, none⟩ = some (.float .f64 a) ∧ w'.cell? ⟨w.heap.size, 1, none⟩ = some (.float .f64 b) ∧ w'.cell? ⟨w.heap.size + 1, 0, none⟩ = some (.float .f64 c) ∧ w'.cell? ⟨w.heap.size + 1, 1, none⟩ = some (.float .f64 d) ∧
      w'.cell? ⟨w.heap.size + 1 + 1, 0, none⟩ = some (cv w' ⟨w.heap.size + 1 + 1, 0, none⟩) ∧ w'.cell? ⟨w.heap.size + 1 + 1, 1, none⟩ = some (cv w' ⟨w.heap.size + 1 + 1, 1, none⟩) ∧ w'.frozen? ⟨w.heap.size + 1 + 1, 0, none⟩ = false ∧ w'.frozen? ⟨w.heap.size + 1 + 1, 1, none⟩ = false ∧ Below w.heap.size w w')
    (first | (refine keepC ?_ hb; assumption) | (refine keepS ?_; assumption) | (refine ⟨by simp [go_sem], by simp [go_sem], by simp [go_sem], by simp [go_sem], cv_of (v := .float .f64 0) (by simp [go_sem]), cv_of (v := .float .f64 0) (by simp [go_sem]), by simp [go_sem], by simp [go_sem], ?_⟩; repeat first | exact Below.refl _ _ | refine Below.drew ?_ | refine Below.alloc ?_ (by simp <;> omega) _ ))
    (first | (go_at_call 39; refine (num_any _ _ _).mono ?_; rintro e w1 ⟨rfl, hb⟩) | (go_at_call 38; refine (prod2_any _ _ _ _ _).mono ?_; rintro e w1 ⟨re, im, rfl, hc, hb⟩) | (go_at_call 37; refine (shown_any _ _ _).mono ?_; rintro e w1 ⟨rfl, hb⟩))
  go_wp2
  rename_i wa ha wb hb2 wc hc3 hH
  have x0 : w1.cell? ⟨w.heap.size + 1 + 1, 0, none⟩ = some (.float .f64 0) := cell_later hb (cell_later hc3 (cell_later hb2 (cell_later ha (by simp [go_sem]))))
  have x1 : w1.cell? ⟨w.heap.size + 1 + 1, 1, none⟩ = some (.float .f64 0) := cell_later hb (cell_later hc3 (cell_later hb2 (cell_later ha (by simp [go_sem]))))
  have hF := hH.2.2.2.2.2.2.2.2
  clear hH
  exact bodyPost_ret (v := .agg #[.float .f64 re, .float .f64 im]) (by simp [results, Try.results12, go_sem, x0, x1]) rfl ⟨_, _, rfl, unhide hc, hF⟩

end Go.Proofs.Ytibeipcfokngjaa
