/-
  Contract of the program's greatest of three differences; nothing that was there is written.
-/
import Derived.Test.YtdmcbdogpeidjaaTri
namespace Go.Proofs.Ytdmcbdogpeidjaa
open Go.RowKit
set_option linter.unusedVariables false
set_option linter.unusedSimpArgs false

theorem int_eq {k : IntKind} {a b : Int} (h : a = b) : Value.int k a = .int k b := by rw [h]
set_option maxHeartbeats 1600000 in
theorem apart_any (x y z a b c v : Int) (w : World) (hx : CoOk (x, y, z)) (hc : CoOk (a, b, c)) (hv : apt (x, y, z) (a, b, c) = v) :
    Calls Try.prog 55 #[ag3 x y z, ag3 a b c] w fun e w' => e = .returned (.int .i64 v) ∧ Below w.heap.size w w' := by
  obtain ⟨⟨x0, x1⟩, ⟨y0, y1⟩, ⟨z0, z1⟩⟩ := hx
  obtain ⟨⟨a0, a1⟩, ⟨b0, b1⟩, ⟨c0, c1⟩⟩ := hc
  simp only at x0 x1 y0 y1 z0 z1 a0 a1 b0 b1 c0 c1
  have hv' : Hid (max ((x - a).natAbs : Int) (max ((y - b).natAbs : Int) ((z - c).natAbs : Int)) = v) := hide hv
  clear hv
  obtain ⟨ix0, ix1, ix2⟩ := ix3 x y z
  go_enter Try.func55, Try.ntmps55
  go_wp2_with fail
  refine (tri_any a b c _).mono ?_
  rintro e w1 ⟨rfl, hb1⟩
  have hcx : w1.cell? ⟨w.heap.size, 0, none⟩ = some (.int .i64 x) := by rw [(bcell hb1).1 _ _ (by simp; omega)]; simp [go_sem]
  have hcy : w1.cell? ⟨w.heap.size, 1, none⟩ = some (.int .i64 y) := by rw [(bcell hb1).1 _ _ (by simp; omega)]; simp [go_sem]
  have hcz : w1.cell? ⟨w.heap.size, 2, none⟩ = some (.int .i64 z) := by rw [(bcell hb1).1 _ _ (by simp; omega)]; simp [go_sem]
  have H1 : Hid (Below w.heap.size w w1) := hide ((((Below.refl _ _).alloc (Nat.le_refl _) _).alloc (by simp) _).trans (hb1.mono (by simp; omega)))
  have hz1 : w.heap.size < w1.heap.size := by have := hb1.size; simp at this; omega
  clear hb1
  go_wp2_with fail
  refine (tri_any x y z _).mono ?_
  rintro e w2 ⟨rfl, hb2⟩
  have B0 : Hid (Bx w2 w1.heap.size a b c) := hide (Bx.below (Bx.new w1 62 a b c) hb2)
  have H2 : Hid (Below w.heap.size w w2) := hide (laterB ((unhide H1).alloc (unhide H1).size _) hb2)
  clear hb2 H1 hcx hcy hcz
  generalize w1.heap.size = g at *
  go_wp2
  go_loopw [5, 13] (fun d t wr => Hid (Bx wr g a b c) ∧ Hid (Below w.heap.size w wr) ∧ ((t = .int .i64 0 ∧ d = .int .i64 0) ∨ (t = .int .i64 1 ∧ ∃ q : Int, d = .int .i64 q ∧ 0 ≤ q ∧ q ≤ 65535 ∧ Hid (q = (x - a).natAbs)) ∨ (t = .int .i64 2 ∧ ∃ q : Int, d = .int .i64 q ∧ 0 ≤ q ∧ q ≤ 65535 ∧ Hid (q = max ((x - a).natAbs : Int) (y - b).natAbs)) ∨ (t = .int .i64 3 ∧ d = .int .i64 v))) (fun _ t _ => 3 - (intOf t).toNat)
  case atStart => exact ⟨B0, H2, Or.inl ⟨rfl, rfl⟩⟩
  case round =>
    clear B0 H2
    obtain ⟨hB, hH, ⟨rfl, rfl⟩ | ⟨rfl, q, rfl, q0, q1, hq⟩ | ⟨rfl, q, rfl, q0, q1, hq⟩ | ⟨rfl, rfl⟩⟩ := hrel
    · obtain ⟨d0, d1, d2, f0, f1, f2⟩ := unhide hB
      go_wp2_with fail
      go_quiet (fail)
      go_wp2
      go_roundw
      case rel => exact ⟨hide ((unhide hB).block rfl), hide (below_drewN (unhide hH) _), Or.inr (Or.inl ⟨rfl, _, rfl, by omega, by omega, hide (by omega)⟩)⟩
      case measure => simp [intOf]
    · obtain ⟨d0, d1, d2, f0, f1, f2⟩ := unhide hB
      go_wp2_with fail
      go_quiet (fail)
      go_wp2
      go_roundw
      case rel => exact ⟨hide ((unhide hB).block rfl), hide (below_drewN (unhide hH) _), Or.inr (Or.inr (Or.inl ⟨rfl, _, rfl, by omega, by omega, hide (by have := unhide hq; omega)⟩))⟩
      case measure => simp [intOf]
    · obtain ⟨d0, d1, d2, f0, f1, f2⟩ := unhide hB
      go_wp2_with fail
      go_quiet (fail)
      go_wp2
      go_roundw
      case rel => exact ⟨hide ((unhide hB).block rfl), hide (below_drewN (unhide hH) _), Or.inr (Or.inr (Or.inr ⟨rfl, int_eq (by have := unhide hq; have := unhide hv'; omega)⟩))⟩
      case measure => simp [intOf]
    · go_wp2
      go_ret
      exact ⟨rfl, unhide hH⟩

end Go.Proofs.Ytdmcbdogpeidjaa
