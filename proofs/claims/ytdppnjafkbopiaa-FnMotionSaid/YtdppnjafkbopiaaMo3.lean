/-
  Contracts of a block's pixels, moved, to the model and to the program, of the differences of two blocks and of a motion's length; nothing that was there is written.
-/
import Derived.Test.YtdppnjafkbopiaaMo2w4
import Derived.Test.YtdppnjafkbopiaaMo2w8
import Derived.Test.YtdppnjafkbopiaaMo2w12
import Derived.Test.YtdppnjafkbopiaaMo2w16
import Derived.Test.YtdppnjafkbopiaaBk
namespace Go.Proofs.Ytdppnjafkbopiaa
open Go.RowKit
set_option linter.unusedVariables false
set_option linter.unusedSimpArgs false

theorem sblk_any (W H : Int) (a : Option Addr) (cap : Nat) (l : List Int) (n dx dy : Int) (w : World) (hp : PcOk W H l) (hk : Ins w a l) (n0 : 0 ≤ n) (n1 : n < nBl W H) (hm : InM dx dy) :
    Calls Try.prog 28 #[pcv W H a l.length cap, .int .i64 n, .int .i64 dx, .int .i64 dy] w (AnI w (fl (blk W H l n dx dy) 16)) := by
  rcases hp.1 with rfl | rfl | rfl | rfl
  · exact sblk4_any H a cap l n dx dy w hp hk n0 n1 hm
  · exact sblk8_any H a cap l n dx dy w hp hk n0 n1 hm
  · exact sblk12_any H a cap l n dx dy w hp hk n0 n1 hm
  · exact sblk16_any H a cap l n dx dy w hp hk n0 n1 hm
/-- two numbers in the block b -/
def P2 (w : World) (b : Nat) (t : TypeId) (x y : Int) : Prop := w.heap[b]? = some (.cells #[.int .i64 x, .int .i64 y] t (0, 0))
theorem P2.lt {w : World} {b : Nat} {t : TypeId} {x y : Int} (h : P2 w b t x y) : b < w.heap.size := (Array.getElem?_eq_some_iff.1 h).1
theorem P2.cells {w : World} {b : Nat} {t : TypeId} {x y : Int} (h : P2 w b t x y) : w.cell? ⟨b, 0, none⟩ = some (.int .i64 x) ∧ w.cell? ⟨b, 1, none⟩ = some (.int .i64 y) := by
  unfold P2 at h
  refine ⟨?_, ?_⟩ <;> simp [World.cell?, h]
theorem P2.fz {w : World} {b : Nat} {t : TypeId} {x y : Int} (h : P2 w b t x y) (k : Nat) : w.frozen? ⟨b, k, none⟩ = false := by
  unfold P2 at h
  simp [World.frozen?, h]
theorem P2.later {w w1 : World} {b : Nat} {t : TypeId} {x y : Int} (h : P2 w b t x y) (hb : Below w.heap.size w w1) : P2 w1 b t x y := (hb.block b h.lt).trans h
theorem P2.below {w w1 : World} {b C : Nat} {t : TypeId} {x y : Int} (h : P2 w b t x y) (hb : Below C w w1) (hC : b < C) : P2 w1 b t x y := (hb.block b hC).trans h
theorem P2.new (w : World) (t : TypeId) (x y : Int) : P2 (w.alloc (.cells #[.int .i64 x, .int .i64 y] t)) w.heap.size t x y := Deep.blk_alloc_new _ _
theorem P2.set {w : World} {b : Nat} {t : TypeId} {x y : Int} (h : P2 w b t x y) (p q : Int) : P2 ((w.setCell ⟨b, 0, none⟩ (.int .i64 p)).setCell ⟨b, 1, none⟩ (.int .i64 q)) b t p q := by
  unfold P2 at *
  simp [World.setCell, h, Array.getElem?_modify]
theorem P2.ne {w : World} {b c o : Nat} {t : TypeId} {x y : Int} {u : Value} (h : P2 w b t x y) (hc : b ≠ c) : P2 (w.setCell ⟨c, o, none⟩ u) b t x y := by
  unfold P2 at *
  rw [← h]
  simp [World.setCell, Array.getElem?_modify, Ne.symm hc]
theorem P3.below {w w1 : World} {b C : Nat} {t : TypeId} {x y : Int} {v : Value} (h : P3 w b t x y v) (hb : Below C w w1) (hC : b < C) : P3 w1 b t x y v := (hb.block b hC).trans h
/-- a motion's value -/
abbrev mvv (dx dy : Int) : Value := .agg #[.int .i64 dx, .int .i64 dy]
set_option maxHeartbeats 800000 in
theorem len_any (dx dy : Int) (w : World) (hm : InM dx dy) :
    Calls Try.prog 26 #[mvv dx dy] w fun e w' => e = .returned (.int .i64 (len2 dx dy)) ∧ Below w.heap.size w w' := by
  have hb := len2_bd hm
  unfold InM at hm
  obtain ⟨h1, h2, h3, h4⟩ := hm
  have ha : 0 ≤ dx * dx ∧ dx * dx ≤ 4 := by
    have hx : dx = -2 ∨ dx = -1 ∨ dx = 0 ∨ dx = 1 ∨ dx = 2 := by omega
    rcases hx with rfl | rfl | rfl | rfl | rfl <;> decide
  have hc : 0 ≤ dy * dy ∧ dy * dy ≤ 4 := by
    have hx : dy = -2 ∨ dy = -1 ∨ dy = 0 ∨ dy = 1 ∨ dy = 2 := by omega
    rcases hx with rfl | rfl | rfl | rfl | rfl <;> decide
  unfold len2
  obtain ⟨A, hA⟩ : ∃ A, dx * dx = A := ⟨_, rfl⟩
  obtain ⟨B, hB⟩ : ∃ B, dy * dy = B := ⟨_, rfl⟩
  rw [hA] at ha ⊢
  rw [hB] at hc ⊢
  have hA2 : IntKind.i64.wrap (dx * dx) = A := by rw [IntKind.wrap_i64, hA]; omega
  have hB2 : IntKind.i64.wrap (dy * dy) = B := by rw [IntKind.wrap_i64, hB]; omega
  obtain ⟨a1, a2⟩ := ha
  obtain ⟨c1, c2⟩ := hc
  clear hA hB hb
  go_enter Try.func26, Try.ntmps26
  go_wp2
  go_ret
  exact ⟨rfl, (Below.refl _ _).alloc (Nat.le_refl _) _⟩
theorem ix16 (f : Nat → Int) (x : Nat) (hx : x < 16) : ∀ w, (Instr.index 52 (sqv f) (.int .i64 x)).run Try.prog w = .ok (.int .i64 (f x)) w := by
  have h0 : ∀ w, (Instr.index 52 (sqv f) (.int .i64 ((0 : Nat) : Int))).run Try.prog w = .ok (.int .i64 (f 0)) w := fun _ => by kernel_rfl
  have h1 : ∀ w, (Instr.index 52 (sqv f) (.int .i64 ((1 : Nat) : Int))).run Try.prog w = .ok (.int .i64 (f 1)) w := fun _ => by kernel_rfl
  have h2 : ∀ w, (Instr.index 52 (sqv f) (.int .i64 ((2 : Nat) : Int))).run Try.prog w = .ok (.int .i64 (f 2)) w := fun _ => by kernel_rfl
  have h3 : ∀ w, (Instr.index 52 (sqv f) (.int .i64 ((3 : Nat) : Int))).run Try.prog w = .ok (.int .i64 (f 3)) w := fun _ => by kernel_rfl
  have h4 : ∀ w, (Instr.index 52 (sqv f) (.int .i64 ((4 : Nat) : Int))).run Try.prog w = .ok (.int .i64 (f 4)) w := fun _ => by kernel_rfl
  have h5 : ∀ w, (Instr.index 52 (sqv f) (.int .i64 ((5 : Nat) : Int))).run Try.prog w = .ok (.int .i64 (f 5)) w := fun _ => by kernel_rfl
  have h6 : ∀ w, (Instr.index 52 (sqv f) (.int .i64 ((6 : Nat) : Int))).run Try.prog w = .ok (.int .i64 (f 6)) w := fun _ => by kernel_rfl
  have h7 : ∀ w, (Instr.index 52 (sqv f) (.int .i64 ((7 : Nat) : Int))).run Try.prog w = .ok (.int .i64 (f 7)) w := fun _ => by kernel_rfl
  have h8 : ∀ w, (Instr.index 52 (sqv f) (.int .i64 ((8 : Nat) : Int))).run Try.prog w = .ok (.int .i64 (f 8)) w := fun _ => by kernel_rfl
  have h9 : ∀ w, (Instr.index 52 (sqv f) (.int .i64 ((9 : Nat) : Int))).run Try.prog w = .ok (.int .i64 (f 9)) w := fun _ => by kernel_rfl
  have h10 : ∀ w, (Instr.index 52 (sqv f) (.int .i64 ((10 : Nat) : Int))).run Try.prog w = .ok (.int .i64 (f 10)) w := fun _ => by kernel_rfl
  have h11 : ∀ w, (Instr.index 52 (sqv f) (.int .i64 ((11 : Nat) : Int))).run Try.prog w = .ok (.int .i64 (f 11)) w := fun _ => by kernel_rfl
  have h12 : ∀ w, (Instr.index 52 (sqv f) (.int .i64 ((12 : Nat) : Int))).run Try.prog w = .ok (.int .i64 (f 12)) w := fun _ => by kernel_rfl
  have h13 : ∀ w, (Instr.index 52 (sqv f) (.int .i64 ((13 : Nat) : Int))).run Try.prog w = .ok (.int .i64 (f 13)) w := fun _ => by kernel_rfl
  have h14 : ∀ w, (Instr.index 52 (sqv f) (.int .i64 ((14 : Nat) : Int))).run Try.prog w = .ok (.int .i64 (f 14)) w := fun _ => by kernel_rfl
  have h15 : ∀ w, (Instr.index 52 (sqv f) (.int .i64 ((15 : Nat) : Int))).run Try.prog w = .ok (.int .i64 (f 15)) w := fun _ => by kernel_rfl
  have hc : x = 0 ∨ x = 1 ∨ x = 2 ∨ x = 3 ∨ x = 4 ∨ x = 5 ∨ x = 6 ∨ x = 7 ∨ x = 8 ∨ x = 9 ∨ x = 10 ∨ x = 11 ∨ x = 12 ∨ x = 13 ∨ x = 14 ∨ x = 15 := by omega
  rcases hc with rfl | rfl | rfl | rfl | rfl | rfl | rfl | rfl | rfl | rfl | rfl | rfl | rfl | rfl | rfl | rfl
  · exact h0
  · exact h1
  · exact h2
  · exact h3
  · exact h4
  · exact h5
  · exact h6
  · exact h7
  · exact h8
  · exact h9
  · exact h10
  · exact h11
  · exact h12
  · exact h13
  · exact h14
  · exact h15


end Go.Proofs.Ytdppnjafkbopiaa
