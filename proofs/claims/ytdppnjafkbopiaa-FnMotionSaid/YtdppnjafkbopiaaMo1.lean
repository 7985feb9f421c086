/-
  Contracts of a pixel, or the nearest one inside, of a block's corner and of how many blocks there are; nothing that was there is written.
-/
import Derived.Test.YtdppnjafkbopiaaPic
namespace Go.Proofs.Ytdppnjafkbopiaa
open Go.RowKit
set_option linter.unusedVariables false
set_option linter.unusedSimpArgs false

set_option maxHeartbeats 1600000 in
theorem inear_any (W H : Int) (a : Option Addr) (cap : Nat) (l : List Int) (x y : Int) (w : World) (hp : PcOk W H l) (hk : Ins w a l) (hx : -1000 ≤ x ∧ x ≤ 1000) (hy : -1000 ≤ y ∧ y ≤ 1000) :
    Calls Try.prog 35 #[pcv W H a l.length cap, .int .i64 x, .int .i64 y] w fun e w' => e = .returned (.int .i64 (pxA W H l x y)) ∧ Below w.heap.size w w' := by
  obtain ⟨X, hX⟩ : ∃ X, clp W x = X := ⟨_, rfl⟩
  obtain ⟨Y, hY⟩ : ∃ Y, clp H y = Y := ⟨_, rfl⟩
  obtain ⟨k, hk1, hk2, hk3, hk4⟩ := pxA_at (x := x) (y := y) hp
  have s1 := side4_bd hp.1
  have s2 := side4_bd hp.2.1
  have x1 := clp_bd (n := W) (x := x) (by omega)
  have y1 := clp_bd (n := H) (x := y) (by omega)
  have m1 := pl_bd hp.1 hp.2.1 x1 y1
  rw [hX, hY] at hk1
  rw [hX] at x1 m1
  rw [hY] at y1 m1
  obtain ⟨M, hM⟩ : ∃ M, Y * W = M := ⟨_, rfl⟩
  rw [hM] at m1 hk1
  have hMw : IntKind.i64.wrap (Y * W) = M := by rw [IntKind.wrap_i64, hM]; omega
  have t1 : (M + X).toNat = k := by omega
  have u1 : M + X < l.length := by omega
  have v1 : 0 ≤ M + X := by omega
  obtain ⟨m11, m12, m13, m14⟩ := m1
  obtain ⟨x11, x12⟩ := x1
  obtain ⟨y11, y12⟩ := y1
  have x13 : X ≤ 15 := by omega
  have y13 : Y ≤ 15 := by omega
  obtain ⟨P, hP⟩ : ∃ P, pxA W H l x y = P := ⟨_, rfl⟩
  rw [hP] at hk3 ⊢
  have hX' := hide hX
  have hY' := hide hY
  obtain ⟨s11, s12⟩ := s1
  obtain ⟨s21, s22⟩ := s2
  obtain ⟨b, o, q, rfl, hq, hbl, c0⟩ := ins_at hk (Below.refl w.heap.size w) hk2
  rw [hk3] at hq
  injection hq with hq
  subst hq
  have hbx := hide (show Below w.heap.size w (w.alloc (.cells #[.int .i64 W, .int .i64 H, .slice (some ⟨b, o, none⟩) l.length cap] 26)) from (Below.refl _ _).alloc (Nat.le_refl _) _)
  have c1 : (w.alloc (.cells #[.int .i64 W, .int .i64 H, .slice (some ⟨b, o, none⟩) l.length cap] 26)).cell? ⟨b, o + k, none⟩ = some (.int .i64 P) := ((bcell (unhide hbx)).1 b _ hbl).trans c0
  have p0 := P3.new w 26 W H (.slice (some ⟨b, o, none⟩) l.length cap)
  clear hX hY hM hP hk hk1 hk3 hk4 hp c0 m11 m12 x12 y12
  have hX2 : min (max x 0) (W - 1) = X := by rw [clp_alt W x (by omega)]; exact unhide hX'
  have hY2 : min (max y 0) (H - 1) = Y := by rw [clp_alt H y (by omega)]; exact unhide hY'
  go_enter Try.func35, Try.ntmps35
  go_wp2
  go_ret
  exact ⟨rfl, unhide hbx⟩
set_option maxHeartbeats 1600000 in
theorem sat_any (W H : Int) (a : Option Addr) (cap : Nat) (l : List Int) (x y : Int) (w : World) (hp : PcOk W H l) (hk : Ins w a l) (hx : -1000 ≤ x ∧ x ≤ 1000) (hy : -1000 ≤ y ∧ y ≤ 1000) :
    Calls Try.prog 21 #[pcv W H a l.length cap, .int .i64 x, .int .i64 y] w fun e w' => e = .returned (.int .i64 (pxA W H l x y)) ∧ Below w.heap.size w w' := by
  obtain ⟨X, hX⟩ : ∃ X, clp W x = X := ⟨_, rfl⟩
  obtain ⟨Y, hY⟩ : ∃ Y, clp H y = Y := ⟨_, rfl⟩
  obtain ⟨k, hk1, hk2, hk3, hk4⟩ := pxA_at (x := x) (y := y) hp
  have s1 := side4_bd hp.1
  have s2 := side4_bd hp.2.1
  have x1 := clp_bd (n := W) (x := x) (by omega)
  have y1 := clp_bd (n := H) (x := y) (by omega)
  have m1 := pl_bd hp.1 hp.2.1 x1 y1
  rw [hX, hY] at hk1
  rw [hX] at x1 m1
  rw [hY] at y1 m1
  obtain ⟨M, hM⟩ : ∃ M, Y * W = M := ⟨_, rfl⟩
  rw [hM] at m1 hk1
  have hMw : IntKind.i64.wrap (Y * W) = M := by rw [IntKind.wrap_i64, hM]; omega
  have t1 : (M + X).toNat = k := by omega
  have u1 : M + X < l.length := by omega
  have v1 : 0 ≤ M + X := by omega
  obtain ⟨m11, m12, m13, m14⟩ := m1
  obtain ⟨x11, x12⟩ := x1
  obtain ⟨y11, y12⟩ := y1
  have x13 : X ≤ 15 := by omega
  have y13 : Y ≤ 15 := by omega
  obtain ⟨P, hP⟩ : ∃ P, pxA W H l x y = P := ⟨_, rfl⟩
  rw [hP] at hk3 ⊢
  have hX' := hide hX
  have hY' := hide hY
  obtain ⟨s11, s12⟩ := s1
  obtain ⟨s21, s22⟩ := s2
  obtain ⟨b, o, q, rfl, hq, hbl, c0⟩ := ins_at hk (Below.refl w.heap.size w) hk2
  rw [hk3] at hq
  injection hq with hq
  subst hq
  have hbx := hide (show Below w.heap.size w (w.alloc (.cells #[.int .i64 W, .int .i64 H, .slice (some ⟨b, o, none⟩) l.length cap] 26)) from (Below.refl _ _).alloc (Nat.le_refl _) _)
  have c1 : (w.alloc (.cells #[.int .i64 W, .int .i64 H, .slice (some ⟨b, o, none⟩) l.length cap] 26)).cell? ⟨b, o + k, none⟩ = some (.int .i64 P) := ((bcell (unhide hbx)).1 b _ hbl).trans c0
  have p0 := P3.new w 26 W H (.slice (some ⟨b, o, none⟩) l.length cap)
  clear hX hY hM hP hk hk1 hk3 hk4 hp c0 m11 m12 x12 y12
  obtain ⟨X1, hX1⟩ : ∃ X1, max 0 x = X1 := ⟨_, rfl⟩
  obtain ⟨Y1, hY1⟩ : ∃ Y1, max 0 y = Y1 := ⟨_, rfl⟩
  have hX2 := hide (show min (W - 1) X1 = X by rw [← hX1]; exact unhide hX')
  have hY2 := hide (show min (H - 1) Y1 = Y by rw [← hY1]; exact unhide hY')
  have hX3 := hide hX1
  have hY3 := hide hY1
  clear hX1 hY1
  go_enter Try.func21, Try.ntmps21
  go_wp2_with fail
  generalize w.alloc (.cells #[.int .i64 W, .int .i64 H, .slice (some ⟨b, o, none⟩) l.length cap] 26) = w1 at *
  obtain ⟨d0, d1, d2⟩ := p0.cells
  go_quiet ((first | (go_at_call 31; exact Calls.quiet_of_same (max_any 0 x X1 _ (unhide hX3))) | (go_at_call 30; exact Calls.quiet_of_same (min_any (W - 1) X1 X _ (unhide hX2)))))
  go_wp2_with fail
  have e0 : (w1.drewN nq).cell? ⟨w.heap.size, 0, none⟩ = some (.int .i64 W) := d0
  have e1 : (w1.drewN nq).cell? ⟨w.heap.size, 1, none⟩ = some (.int .i64 H) := d1
  have e2 : (w1.drewN nq).cell? ⟨w.heap.size, 2, none⟩ = some (.slice (some ⟨b, o, none⟩) l.length cap) := d2
  have e3 : (w1.drewN nq).cell? ⟨b, o + k, none⟩ = some (.int .i64 P) := c1
  have hb2 := hide (below_drewN (unhide hbx) nq)
  clear d0 d1 d2 c1 p0 hbx
  generalize w1.drewN nq = w2 at *
  clear nq
  go_quiet ((first | (go_at_call 31; exact Calls.quiet_of_same (max_any 0 y Y1 _ (unhide hY3))) | (go_at_call 30; exact Calls.quiet_of_same (min_any (H - 1) Y1 Y _ (unhide hY2)))))
  go_wp2
  go_ret
  exact ⟨rfl, below_drewN (unhide hb2) _⟩

theorem quarter {W : Int} (h : Side4 W) : ∃ Q, W / 4 = Q ∧ 1 ≤ Q ∧ Q ≤ 4 := by
  unfold Side4 at h
  rcases h with rfl | rfl | rfl | rfl
  · exact ⟨1, by decide, by decide, by decide⟩
  · exact ⟨2, by decide, by decide, by decide⟩
  · exact ⟨3, by decide, by decide, by decide⟩
  · exact ⟨4, by decide, by decide, by decide⟩
set_option maxHeartbeats 1600000 in
theorem corner_any (W H : Int) (a : Option Addr) (len cap : Nat) (n : Int) (w : World) (hW : Side4 W) (h0 : 0 ≤ n) (h1 : n ≤ 16) :
    Calls Try.prog 34 #[pcv W H a len cap, .int .i64 n] w fun e w' => e = .returned (.tuple #[.int .i64 (n % (W / 4) * 4), .int .i64 (n / (W / 4) * 4)]) ∧ Below w.heap.size w w' := by
  have hs := side4_bd hW
  obtain ⟨s1, s2⟩ := hs
  obtain ⟨Q, hQ, q1, q2⟩ := quarter hW
  have hR0 : 0 ≤ n % Q := Int.emod_nonneg _ (by omega)
  have hR1 : n % Q < Q := Int.emod_lt_of_pos _ (by omega)
  have hD0 : 0 ≤ n / Q := Int.ediv_nonneg h0 (by omega)
  have hD1 : n / Q ≤ n := Int.ediv_le_self _ h0
  rw [hQ]
  have hQ0 : (Q == 0) = false := by simp; omega
  clear hW
  go_enter Try.func34, Try.ntmps34
  go_wp2_with fail
  go_quiet (fail)
  go_wp2
  go_ret2
  exact ⟨rfl, below_drewN ((Below.refl _ _).alloc (Nat.le_refl _) _) _⟩

end Go.Proofs.Ytdppnjafkbopiaa
