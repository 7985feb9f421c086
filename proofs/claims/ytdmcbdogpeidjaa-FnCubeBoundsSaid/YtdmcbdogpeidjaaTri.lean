/-
  Contracts of the program's functions over three numbers: made of a colour, made a colour, a place among nodes, the greatest, one more in each; nothing that was there is written.
-/
import Derived.Test.YtdmcbdogpeidjaaBas
namespace Go.Proofs.Ytdmcbdogpeidjaa
open Go.RowKit
set_option linter.unusedVariables false
set_option linter.unusedSimpArgs false

/-- three numbers in a block that may be written -/
structure Bx (w : World) (g : Nat) (x y z : Int) : Prop where
  c0 : w.cell? ⟨g, 0, none⟩ = some (.int .i64 x)
  c1 : w.cell? ⟨g, 1, none⟩ = some (.int .i64 y)
  c2 : w.cell? ⟨g, 2, none⟩ = some (.int .i64 z)
  f0 : w.frozen? ⟨g, 0, none⟩ = false
  f1 : w.frozen? ⟨g, 1, none⟩ = false
  f2 : w.frozen? ⟨g, 2, none⟩ = false
theorem ne_addr {g i j : Nat} (h : i ≠ j) : (⟨g, i, none⟩ : Addr) ≠ ⟨g, j, none⟩ := by intro e; injection e with _ e2 _; exact h e2
theorem ne_blk {g h i j : Nat} (hh : g ≠ h) : (⟨g, i, none⟩ : Addr) ≠ ⟨h, j, none⟩ := by intro e; injection e with e1 _ _; exact hh e1
theorem Bx.lt {w : World} {g : Nat} {x y z : Int} (h : Bx w g x y z) : g < w.heap.size := World.block_lt_of_cell? _ _ h.c0
theorem Bx.block {w w1 : World} {g : Nat} {x y z : Int} (h : Bx w g x y z) (hb : w1.heap[g]? = w.heap[g]?) : Bx w1 g x y z := by
  have C := fun i => World.cell?_of_block (a := ⟨g, i, none⟩) hb
  have F := fun i => World.frozen?_of_block (a := ⟨g, i, none⟩) hb
  exact ⟨(C _).trans h.c0, (C _).trans h.c1, (C _).trans h.c2, (F _).trans h.f0, (F _).trans h.f1, (F _).trans h.f2⟩
theorem Bx.below {w w1 : World} {g : Nat} {x y z : Int} (h : Bx w g x y z) (hb : Below w.heap.size w w1) : Bx w1 g x y z := h.block (hb.block g h.lt)
theorem heap_set_ne {w : World} {b i : Nat} {v : Value} {r : Nat} (h : r ≠ b) : (w.setCell ⟨b, i, none⟩ v).heap[r]? = w.heap[r]? := by
  have hg : b ≠ r := fun e => h e.symm
  simp [World.setCell, Array.getElem?_modify, hg]
theorem Bx.other {w : World} {g b i : Nat} {v : Value} {x y z : Int} (h : Bx w g x y z) (hne : g ≠ b) : Bx (w.setCell ⟨b, i, none⟩ v) g x y z := h.block (heap_set_ne hne)
theorem Bx.set0 {w : World} {g : Nat} {x y z : Int} (h : Bx w g x y z) (v : Int) : Bx (w.setCell ⟨g, 0, none⟩ (.int .i64 v)) g v y z :=
  ⟨World.cell?_setCell_same _ _ _ h.c0, by rw [World.cell?_setCell_other _ _ _ _ (ne_addr (by decide))]; exact h.c1, by rw [World.cell?_setCell_other _ _ _ _ (ne_addr (by decide))]; exact h.c2, by rw [World.frozen?_setCell]; exact h.f0, by rw [World.frozen?_setCell]; exact h.f1, by rw [World.frozen?_setCell]; exact h.f2⟩
theorem Bx.set1 {w : World} {g : Nat} {x y z : Int} (h : Bx w g x y z) (v : Int) : Bx (w.setCell ⟨g, 1, none⟩ (.int .i64 v)) g x v z :=
  ⟨by rw [World.cell?_setCell_other _ _ _ _ (ne_addr (by decide))]; exact h.c0, World.cell?_setCell_same _ _ _ h.c1, by rw [World.cell?_setCell_other _ _ _ _ (ne_addr (by decide))]; exact h.c2, by rw [World.frozen?_setCell]; exact h.f0, by rw [World.frozen?_setCell]; exact h.f1, by rw [World.frozen?_setCell]; exact h.f2⟩
theorem Bx.set2 {w : World} {g : Nat} {x y z : Int} (h : Bx w g x y z) (v : Int) : Bx (w.setCell ⟨g, 2, none⟩ (.int .i64 v)) g x y v :=
  ⟨by rw [World.cell?_setCell_other _ _ _ _ (ne_addr (by decide))]; exact h.c0, by rw [World.cell?_setCell_other _ _ _ _ (ne_addr (by decide))]; exact h.c1, World.cell?_setCell_same _ _ _ h.c2, by rw [World.frozen?_setCell]; exact h.f0, by rw [World.frozen?_setCell]; exact h.f1, by rw [World.frozen?_setCell]; exact h.f2⟩
theorem Bx.new (w : World) (T : TypeId) (x y z : Int) : Bx (w.alloc (.cells #[.int .i64 x, .int .i64 y, .int .i64 z] T)) w.heap.size x y z :=
  ⟨by simp [go_sem], by simp [go_sem], by simp [go_sem], by simp [go_sem], by simp [go_sem], by simp [go_sem]⟩

abbrev ag3 (x y z : Int) : Value := .agg #[.int .i64 x, .int .i64 y, .int .i64 z]

set_option maxHeartbeats 400000 in
theorem tri_any (a b c : Int) (w : World) : Calls Try.prog 59 #[ag3 a b c] w fun e w' => e = .returned (ag3 a b c) ∧ Below w.heap.size w w' := by
  go_enter Try.func59, Try.ntmps59
  go_wp2
  exact bodyPost_ret (v := ag3 a b c) (by simp [results, Try.results59, go_sem]) rfl ⟨rfl, ((Below.refl _ _).alloc (Nat.le_refl _) _).alloc (by simp) _⟩
set_option maxHeartbeats 400000 in
theorem colour_any (a b c : Int) (w : World) : Calls Try.prog 46 #[ag3 a b c] w fun e w' => e = .returned (ag3 a b c) ∧ Below w.heap.size w w' := by
  go_enter Try.func46, Try.ntmps46
  go_wp2
  exact bodyPost_ret (v := ag3 a b c) (by simp [results, Try.results46, go_sem]) rfl ⟨rfl, ((Below.refl _ _).alloc (Nat.le_refl _) _).alloc (by simp) _⟩
set_option maxHeartbeats 400000 in
theorem place_any (a b c n : Int) (w : World) (ha : 0 ≤ a ∧ a ≤ 100) (hb : 0 ≤ b ∧ b ≤ 100) (hc : 0 ≤ c ∧ c ≤ 100) (hn : 0 ≤ n ∧ n ≤ 100) : Calls Try.prog 44 #[ag3 a b c, .int .i64 n] w fun e w' => e = .returned (.int .i64 ((a * n + b) * n + c)) ∧ Below w.heap.size w w' := by
  obtain ⟨m0, m1⟩ := mul_nn ha hn
  obtain ⟨a0, a1⟩ := ha
  obtain ⟨b0, b1⟩ := hb
  obtain ⟨c0, c1⟩ := hc
  obtain ⟨p0, p1⟩ := mul_nn (u := a * n + b) (a := 10100) (by omega) hn
  obtain ⟨n0, n1⟩ := hn
  go_enter Try.func44, Try.ntmps44
  go_wp2
  go_ret
  exact ⟨rfl, (Below.refl _ _).alloc (Nat.le_refl _) _⟩

/-- a number out of three -/
theorem ix3 (x y z : Int) : (∀ w, (Instr.index 62 (.agg #[.int .i64 x, .int .i64 y, .int .i64 z]) (.int .i64 0)).run Try.prog w = .ok (.int .i64 x) w) ∧ (∀ w, (Instr.index 62 (.agg #[.int .i64 x, .int .i64 y, .int .i64 z]) (.int .i64 1)).run Try.prog w = .ok (.int .i64 y) w) ∧ (∀ w, (Instr.index 62 (.agg #[.int .i64 x, .int .i64 y, .int .i64 z]) (.int .i64 2)).run Try.prog w = .ok (.int .i64 z) w) :=
  ⟨fun _ => by kernel_rfl, fun _ => by kernel_rfl, fun _ => by kernel_rfl⟩
/-- which of three is the greatest, the first of those that are alike -/
def best3 (x y z : Int) : Int := if x < y then (if y < z then 2 else 1) else (if x < z then 2 else 0)
set_option maxHeartbeats 1600000 in
theorem great_any (x y z v : Int) (w : World) (hv : best3 x y z = v) : Calls Try.prog 42 #[ag3 x y z] w fun e w' => e = .returned (.int .i64 v) ∧ Below w.heap.size w w' := by
  have hv' := hide hv
  clear hv
  obtain ⟨ix0, ix1, ix2⟩ := ix3 x y z
  go_enter Try.func42, Try.ntmps42
  go_wp2
  go_loop [3, 7] (fun f t => (t = .int .i64 0 ∧ f = .int .i64 0) ∨ (t = .int .i64 1 ∧ f = .int .i64 0) ∨ (t = .int .i64 2 ∧ ((f = .int .i64 0 ∧ ¬ x < y) ∨ (f = .int .i64 1 ∧ x < y))) ∨ (t = .int .i64 3 ∧ f = .int .i64 v)) (fun _ t => 3 - (intOf t).toNat)
  case atStart => exact Or.inl ⟨rfl, rfl⟩
  case round =>
    rcases hrel with ⟨rfl, rfl⟩ | ⟨rfl, rfl⟩ | ⟨rfl, ⟨rfl, h⟩ | ⟨rfl, h⟩⟩ | ⟨rfl, rfl⟩
    · have h0 : decide (x < x) = false := by simp
      go_wp2
      go_round
      case rel => exact Or.inr (Or.inl ⟨rfl, rfl⟩)
      case measure => simp [intOf]
    · by_cases h : x < y
      · go_wp2
        go_round
        case rel => exact Or.inr (Or.inr (Or.inl ⟨rfl, Or.inr ⟨rfl, h⟩⟩))
        case measure => simp [intOf]
      · have h0 : decide (x < y) = false := by simpa using h
        go_wp2
        go_round
        case rel => exact Or.inr (Or.inr (Or.inl ⟨rfl, Or.inl ⟨rfl, h⟩⟩))
        case measure => simp [intOf]
    · by_cases h2 : x < z
      · have e2 : (2 : Int) = v := by rw [← unhide hv']; unfold best3; rw [if_neg h, if_pos h2]
        have e3 := hide e2
        clear e2
        go_wp2
        go_round
        case rel => exact Or.inr (Or.inr (Or.inr ⟨rfl, by rw [← unhide e3]⟩))
        case measure => simp [intOf]
      · have h0 : decide (x < z) = false := by simpa using h2
        have e2 : (0 : Int) = v := by rw [← unhide hv']; unfold best3; rw [if_neg h, if_neg h2]
        have e3 := hide e2
        clear e2
        go_wp2
        go_round
        case rel => exact Or.inr (Or.inr (Or.inr ⟨rfl, by rw [← unhide e3]⟩))
        case measure => simp [intOf]
    · by_cases h2 : y < z
      · have e2 : (2 : Int) = v := by rw [← unhide hv']; unfold best3; rw [if_pos h, if_pos h2]
        have e3 := hide e2
        clear e2
        go_wp2
        go_round
        case rel => exact Or.inr (Or.inr (Or.inr ⟨rfl, by rw [← unhide e3]⟩))
        case measure => simp [intOf]
      · have h0 : decide (y < z) = false := by simpa using h2
        have e2 : (1 : Int) = v := by rw [← unhide hv']; unfold best3; rw [if_pos h, if_neg h2]
        have e3 := hide e2
        clear e2
        go_wp2
        go_round
        case rel => exact Or.inr (Or.inr (Or.inr ⟨rfl, by rw [← unhide e3]⟩))
        case measure => simp [intOf]
    · go_wp2
      go_ret
      exact ⟨rfl, (Below.refl _ _).alloc (Nat.le_refl _) _⟩

end Go.Proofs.Ytdmcbdogpeidjaa
