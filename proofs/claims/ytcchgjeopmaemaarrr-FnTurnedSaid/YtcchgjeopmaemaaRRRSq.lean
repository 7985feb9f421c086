/-
  Contracts of a block's rows and of a row turned; nothing that was there is written.
-/
import Derived.Test.YtcchgjeopmaemaaRRRMm
import Derived.Test.YtcchgjeopmaemaaRRRPcP
import Derived.Laws.Cover3
namespace Go.Proofs.YtcchgjeopmaemaaRRR
open Go.RowKit
set_option linter.unusedVariables false
set_option linter.unusedSimpArgs false

/-- a block's value -/
abbrev sqv (f : Nat → Int) : Value := .agg #[.int .i64 (f 0), .int .i64 (f 1), .int .i64 (f 2), .int .i64 (f 3), .int .i64 (f 4), .int .i64 (f 5), .int .i64 (f 6), .int .i64 (f 7), .int .i64 (f 8), .int .i64 (f 9), .int .i64 (f 10), .int .i64 (f 11), .int .i64 (f 12), .int .i64 (f 13), .int .i64 (f 14), .int .i64 (f 15)]
/-- a row's value -/
abbrev fv4 (a b c d : Int) : Value := .agg #[.int .i64 a, .int .i64 b, .int .i64 c, .int .i64 d]
theorem below_set {B b o : Nat} {a w : World} {v : Value} (h : Below B a w) (hb : B ≤ b) : Below B a (w.setCell ⟨b, o, none⟩ v) := h.setCell hb _
theorem arr4 : ∀ (W : World) (a : Option Addr) (c : Nat), (Instr.arrayAt 72 (.slice a 4 c)).run Try.prog W = .ok (.pointer a) W := fun W a c => run_arrayAt _ 72 2 4 _ 4 c rfl (by omega)
theorem arr16 : ∀ (W : World) (a : Option Addr) (c : Nat), (Instr.arrayAt 51 (.slice a 16 c)).run Try.prog W = .ok (.pointer a) W := fun W a c => run_arrayAt _ 51 2 16 _ 16 c rfl (by omega)

set_option maxHeartbeats 1600000 in
theorem row_any (f : Nat → Int) (y : Nat) (w : World) (hy : y < 4) :
    Calls Try.prog 61 #[sqv f, .int .i64 y] w fun e w' => e = .returned (fv4 (f (4 * y)) (f (4 * y + 1)) (f (4 * y + 2)) (f (4 * y + 3))) ∧ Below w.heap.size w w' := by
  have hc : y = 0 ∨ y = 1 ∨ y = 2 ∨ y = 3 := by omega
  have hA := arr4
  rcases hc with rfl | rfl | rfl | rfl
  · go_enter Try.func61, Try.ntmps61
    go_wp2
    refine bodyPost_ret (v := .agg #[.int .i64 (f 0), .int .i64 (f 1), .int .i64 (f 2), .int .i64 (f 3)]) (by simp [results, Try.results61, go_sem]) rfl ⟨rfl, ?_⟩
    exact ((Below.refl _ _).alloc (Nat.le_refl _) _).alloc (by simp) _
  · go_enter Try.func61, Try.ntmps61
    go_wp2
    refine bodyPost_ret (v := .agg #[.int .i64 (f 4), .int .i64 (f 5), .int .i64 (f 6), .int .i64 (f 7)]) (by simp [results, Try.results61, go_sem]) rfl ⟨rfl, ?_⟩
    exact ((Below.refl _ _).alloc (Nat.le_refl _) _).alloc (by simp) _
  · go_enter Try.func61, Try.ntmps61
    go_wp2
    refine bodyPost_ret (v := .agg #[.int .i64 (f 8), .int .i64 (f 9), .int .i64 (f 10), .int .i64 (f 11)]) (by simp [results, Try.results61, go_sem]) rfl ⟨rfl, ?_⟩
    exact ((Below.refl _ _).alloc (Nat.le_refl _) _).alloc (by simp) _
  · go_enter Try.func61, Try.ntmps61
    go_wp2
    refine bodyPost_ret (v := .agg #[.int .i64 (f 12), .int .i64 (f 13), .int .i64 (f 14), .int .i64 (f 15)]) (by simp [results, Try.results61, go_sem]) rfl ⟨rfl, ?_⟩
    exact ((Below.refl _ _).alloc (Nat.le_refl _) _).alloc (by simp) _

set_option maxHeartbeats 1600000 in
theorem turn4_any (a b c d : Int) (w : World) (ha : -100000000 ≤ a ∧ a ≤ 100000000) (hb : -100000000 ≤ b ∧ b ≤ 100000000) (hc : -100000000 ≤ c ∧ c ≤ 100000000) (hd : -100000000 ≤ d ∧ d ≤ 100000000) :
    Calls Try.prog 62 #[fv4 a b c d] w fun e w' => e = .returned (fv4 (four a b c d 0) (four a b c d 1) (four a b c d 2) (four a b c d 3)) ∧ Below w.heap.size w w' := by
  obtain ⟨a0, a1⟩ := ha
  obtain ⟨b0, b1⟩ := hb
  obtain ⟨c0, c1⟩ := hc
  obtain ⟨d0, d1⟩ := hd
  go_enter Try.func62, Try.ntmps62
  go_wp2_with fail
  go_quiet (fail)
  go_wp2
  refine bodyPost_ret (v := .agg #[.int .i64 (a + b + c + d), .int .i64 (a + b - c - d), .int .i64 (a - b - c + d), .int .i64 (a - b + c - d)]) (by simp [results, Try.results62, go_sem]) rfl ⟨rfl, ?_⟩
  refine below_set (below_set (below_set (below_set ?_ (by omega)) (by omega)) (by omega)) (by omega)
  exact below_drewN (((Below.refl _ _).alloc (Nat.le_refl _) _).alloc (by simp) _) _

end Go.Proofs.YtcchgjeopmaemaaRRR
