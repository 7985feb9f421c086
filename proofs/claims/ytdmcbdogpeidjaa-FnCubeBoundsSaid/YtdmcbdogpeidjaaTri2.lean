/-
  Contracts of the program's functions over three numbers: a colour times a weight more, and the greatest of three differences; nothing that was there is written.
-/
import Derived.Test.YtdmcbdogpeidjaaTri
namespace Go.Proofs.Ytdmcbdogpeidjaa
open Go.RowKit
set_option linter.unusedVariables false
set_option linter.unusedSimpArgs false

theorem plus_bd {s c k : Int} (hs : 0 ≤ s ∧ s ≤ 1000000000000) (hc : LvOk c) (hk : LvOk k) : 0 ≤ c * k ∧ c * k ≤ 4294836225 ∧ IntKind.i64.wrap (c * k) = c * k ∧ IntKind.i64.wrap (s + c * k) = s + c * k := by
  obtain ⟨m0, m1⟩ := mul_nn (a := 65535) (b := 65535) hc hk
  refine ⟨m0, by omega, by rw [IntKind.wrap_i64]; omega, by rw [IntKind.wrap_i64]; omega⟩
set_option maxHeartbeats 1600000 in
theorem plus_any (x y z a b c k : Int) (w : World) (hx : 0 ≤ x ∧ x ≤ 1000000000000) (hy : 0 ≤ y ∧ y ≤ 1000000000000) (hz : 0 ≤ z ∧ z ≤ 1000000000000) (hc : CoOk (a, b, c)) (hk : LvOk k) :
    Calls Try.prog 43 #[ag3 x y z, ag3 a b c, .int .i64 k] w fun e w' => e = .returned (ag3 (x + a * k) (y + b * k) (z + c * k)) ∧ Below w.heap.size w w' := by
  obtain ⟨p0, p1, p2, p3⟩ := plus_bd hx hc.1 hk
  obtain ⟨q0, q1, q2, q3⟩ := plus_bd hy hc.2.1 hk
  obtain ⟨r0, r1, r2, r3⟩ := plus_bd hz hc.2.2 hk
  obtain ⟨x0, x1⟩ := hx
  obtain ⟨y0, y1⟩ := hy
  obtain ⟨z0, z1⟩ := hz
  simp only at p0 p1 p2 p3 q0 q1 q2 q3 r0 r1 r2 r3
  clear hc hk
  obtain ⟨ix0, ix1, ix2⟩ := ix3 a b c
  generalize hP : a * k = P at *
  generalize hQ : b * k = Q at *
  generalize hR : c * k = R at *
  have hP' := hide hP
  have hQ' := hide hQ
  have hR' := hide hR
  clear hP hQ hR
  go_enter Try.func43, Try.ntmps43
  go_wp2_with fail
  refine (tri_any a b c _).mono ?_
  rintro e w1 ⟨rfl, hb⟩
  have B0 : Bx w1 w.heap.size x y z := Bx.below (w := ((w.alloc (.cells #[.int .i64 x, .int .i64 y, .int .i64 z] 62)).alloc (.cells #[.int .i64 a, .int .i64 b, .int .i64 c] 26)).alloc (.cells #[.int .i64 0, .int .i64 0, .int .i64 0] 62)) ⟨by simp [go_sem], by simp [go_sem], by simp [go_sem], by simp [go_sem], by simp [go_sem], by simp [go_sem]⟩ hb
  have B1 : Bx w1 (w.heap.size + 1 + 1) 0 0 0 := Bx.below (w := ((w.alloc (.cells #[.int .i64 x, .int .i64 y, .int .i64 z] 62)).alloc (.cells #[.int .i64 a, .int .i64 b, .int .i64 c] 26)).alloc (.cells #[.int .i64 0, .int .i64 0, .int .i64 0] 62)) ⟨by simp [go_sem], by simp [go_sem], by simp [go_sem], by simp [go_sem], by simp [go_sem], by simp [go_sem]⟩ hb
  have H1 : Hid (Below w.heap.size w w1) := hide (((((Below.refl _ _).alloc (Nat.le_refl _) _).alloc (by simp) _).alloc (by simp; omega) _).trans (hb.mono (by simp; omega)))
  have B0' := hide B0
  have B1' := hide B1
  clear B0 B1 hb
  go_wp2
  go_loopw [11] (fun t wr => Hid (Bx wr (w.heap.size + 1 + 1) 0 0 0) ∧ Hid (Below w.heap.size w wr) ∧ ((t = .int .i64 0 ∧ Hid (Bx wr w.heap.size x y z)) ∨ (t = .int .i64 1 ∧ Hid (Bx wr w.heap.size (x + P) y z)) ∨ (t = .int .i64 2 ∧ Hid (Bx wr w.heap.size (x + P) (y + Q) z)) ∨ (t = .int .i64 3 ∧ Hid (Bx wr w.heap.size (x + P) (y + Q) (z + R))))) (fun t _ => 3 - (intOf t).toNat)
  case atStart => exact ⟨B1', H1, Or.inl ⟨rfl, B0'⟩⟩
  case round =>
    clear B0' B1' H1
    obtain ⟨hB1, hH, ⟨rfl, hB⟩ | ⟨rfl, hB⟩ | ⟨rfl, hB⟩ | ⟨rfl, hB⟩⟩ := hrel
    · obtain ⟨c0, c1, c2, f0, f1, f2⟩ := unhide hB
      have hp := unhide hP'
      go_wp2
      go_roundw
      case rel => exact ⟨hide ((unhide hB1).other (by omega)), hide ((unhide hH).setCell (Nat.le_refl _) _), Or.inr (Or.inl ⟨rfl, hide ((unhide hB).set0 _)⟩)⟩
      case measure => simp [intOf]
    · obtain ⟨c0, c1, c2, f0, f1, f2⟩ := unhide hB
      have hp := unhide hQ'
      go_wp2
      go_roundw
      case rel => exact ⟨hide ((unhide hB1).other (by omega)), hide ((unhide hH).setCell (Nat.le_refl _) _), Or.inr (Or.inr (Or.inl ⟨rfl, hide ((unhide hB).set1 _)⟩))⟩
      case measure => simp [intOf]
    · obtain ⟨c0, c1, c2, f0, f1, f2⟩ := unhide hB
      have hp := unhide hR'
      go_wp2
      go_roundw
      case rel => exact ⟨hide ((unhide hB1).other (by omega)), hide ((unhide hH).setCell (Nat.le_refl _) _), Or.inr (Or.inr (Or.inr ⟨rfl, hide ((unhide hB).set2 _)⟩))⟩
      case measure => simp [intOf]
    · obtain ⟨c0, c1, c2, f0, f1, f2⟩ := unhide hB
      obtain ⟨d0, d1, d2, g0, g1, g2⟩ := unhide hB1
      go_wp2
      refine bodyPost_ret (v := ag3 (x + P) (y + Q) (z + R)) (by simp [results, Try.results43, go_sem, d0, d1, d2]) rfl ⟨rfl, ?_⟩
      exact (((unhide hH).setCell (by simp; omega) _).setCell (by simp; omega) _).setCell (by simp; omega) _

end Go.Proofs.Ytdmcbdogpeidjaa
