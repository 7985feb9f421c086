/-
  Contract of the model's draw of a clip, over a cursor on bytes that came in: it answers some clip, and writes into the cursor alone.
-/
import Derived.Test.YtfhbmfndjbdhcaaGreatDoorDr
import Derived.Deep.RegionLaw
namespace Go.Proofs.YtfhbmfndjbdhcaaGreatDoor
open Go.RowKit
set_option linter.unusedVariables false
set_option linter.unusedSimpArgs false

set_option maxHeartbeats 6400000 in
theorem dclip_any (B g : Nat) (a : Option Addr) (len cap : Nat) (w : World) (hB : B ≤ g) (hBw : B ≤ w.heap.size) (hl : len ≤ 9223372036854775807) (hc : CurAt w g a len cap) (hr : RdB w B a len) :
    Calls Tryz.prog 35 #[.pointer (some ⟨g, 0, none⟩)] w fun e w' => ∃ x y z : Int, e = .returned (.agg #[.int .i64 x, .int .i64 y, .int .i64 z]) ∧ DS w B g a len cap w' := by
  have hg := hc.lt
  have D0 : DS w B g a len cap w := ⟨hc, hr, World.grownBy.refl _ _⟩
  have D1 := hide (D0.later hB (w1 := w.alloc (.cells #[.int .i64 0, .int .i64 0, .int .i64 0] 44)) ((Below.refl _ _).alloc (Nat.le_refl _) _))
  have R1 := hide (show Ck3 (w.alloc (.cells #[.int .i64 0, .int .i64 0, .int .i64 0] 44)) w.heap.size from ⟨⟨0, 0, 0, by simp [go_sem], by simp [go_sem], by simp [go_sem]⟩, by simp [go_sem], by simp [go_sem], by simp [go_sem]⟩)
  have hrg : w.heap.size ≠ g := by omega
  clear hc hr D0
  go_enter Tryz.func35, Tryz.ntmps35
  go_wp2_with fail
  refine (below_any B g a len cap 4 _ hB hl (unhide D1).cur (unhide D1).rd (by omega)).mono ?_
  rintro e w1 ⟨x1, rfl, x10, x11, k1, g1⟩
  have D2 := hide ((unhide D1).step hB k1 g1)
  have R2 := hide ((unhide R1).grown g1 hrg)
  clear k1 g1 D1 R1
  go_wp2_with fail
  refine (below_any B g a len cap 40 _ hB hl (unhide D2).cur (unhide D2).rd (by omega)).mono ?_
  rintro e w2 ⟨x2, rfl, x20, x21, k1, g1⟩
  have D3 := hide ((unhide D2).step hB k1 g1)
  have R3 := hide ((unhide R2).grown g1 hrg)
  clear k1 g1 D2 R2
  go_wp2_with fail
  refine (below_any B g a len cap 20 _ hB hl (unhide D3).cur (unhide D3).rd (by omega)).mono ?_
  rintro e w3 ⟨x3, rfl, x30, x31, k1, g1⟩
  have D4 := hide ((unhide D3).step hB k1 g1)
  have R4 := hide ((unhide R3).grown g1 hrg)
  clear k1 g1 D3 R3
  have hr3 := (unhide R4).lt
  have hkg : w3.heap.size ≠ g := by omega
  have hrk : w.heap.size ≠ w3.heap.size := by omega
  have hwk : w.heap.size ≤ w3.heap.size := by omega
  have hBk : B ≤ w3.heap.size := by omega
  have hAl : ∀ y : Int, Below w3.heap.size w3 (w3.alloc (.cells #[.int .i64 x1, .int .i64 y, .int .i64 (1 + x3)] 44)) := fun y => (Below.refl _ _).alloc (Nat.le_refl _) _
  have SS := hide (show ∀ y : Int, KSt w B g a len cap w.heap.size w3.heap.size (w3.alloc (.cells #[.int .i64 x1, .int .i64 y, .int .i64 (1 + x3)] 44)) x1 y (1 + x3) from fun y => ⟨(unhide D4).later hB (hAl y), (unhide R4).block ((hAl y).block _ hr3), by simp [go_sem], by simp [go_sem], by simp [go_sem], by simp [go_sem], by simp [go_sem], by simp [go_sem]⟩)
  obtain ⟨kb, hkb⟩ : ∃ kb, kb = w3.heap.size := ⟨_, rfl⟩
  rw [← hkb] at hkg hrk hwk hBk SS
  have hkb' := hide hkb
  clear D4 R4 hAl hkb
  by_cases h0 : x1 = 0
  · subst h0
    have S1 := hide ((unhide SS) 0)
    clear SS
    go_wp2_with fail
    rw [← unhide hkb']
    refine (once_any B g a len cap 40 _ hB hl (unhide S1).ds.cur (unhide S1).ds.rd (by omega)).mono ?_
    rintro e w4 ⟨q, rfl, k1, g1⟩
    have S2 := hide ((unhide S1).call hB hrg hkg k1 g1)
    clear k1 g1 S1
    cases q with
    | false =>
      obtain ⟨rx, ry, rz, r0, r1, r2⟩ := (unhide S2).rr.ex
      have rf0 := (unhide S2).rr.f0
      have rf1 := (unhide S2).rr.f1
      have rf2 := (unhide S2).rr.f2
      have k0 := (unhide S2).c0
      have k1 := (unhide S2).c1
      have k2 := (unhide S2).c2
      have hF := hide ((unhide S2).fin hB (Nat.le_refl _) hrg hBw)
      clear S2
      go_wp2
      exact bodyPost_ret (v := .agg #[.int .i64 (0), .int .i64 (0), .int .i64 (1 + x3)]) (by simp [results, Tryz.results35, go_sem, r0, r1, r2]) rfl ⟨_, _, _, rfl, unhide hF⟩
    | true =>
      go_wp2_with fail
      refine (below_any B g a len cap 4 _ hB hl (unhide S2).ds.cur (unhide S2).ds.rd (by omega)).mono ?_
      rintro e w5 ⟨p, rfl, p0, p1, k1, g1⟩
      have S3 := hide ((unhide S2).call hB hrg hkg k1 g1)
      clear k1 g1 S2
      have hp : p = 0 ∨ p = 1 ∨ p = 2 ∨ p = 3 := by omega
      rcases hp with rfl | rfl | rfl | rfl
      · have hAl : Below w5.heap.size w5 (w5.alloc (.cells #[.int .i64 (-1), .int .i64 (500), .int .i64 (501)] 2)) := (Below.refl _ _).alloc (Nat.le_refl _) _
        have S4 := hide ((unhide S3).later hB hrg hkg hAl)
        have hlg : w5.heap.size ≠ g := by have := (unhide S3).ds.cur.lt; omega
        have hl5 := fun k hk => lit3 (w := w5) (T := 2) (k := k) (a0 := -1) (a1 := 500) (a2 := 501) hk
        have hkw5 := World.block_lt_of_cell? _ _ (unhide S3).c0
        simp only at hkw5
        clear hAl S3
        go_wp2_with fail
        refine (below_any B g a len cap 3 _ hB hl (unhide S4).ds.cur (unhide S4).ds.rd (by omega)).mono ?_
        rintro e w6 ⟨d, rfl, d0, d1, k1, g1⟩
        obtain ⟨m, rfl⟩ : ∃ m : Nat, d = m := ⟨d.toNat, by omega⟩
        obtain ⟨u, hu⟩ := hl5 m (by omega)
        have hu2 := grown_cell g1 hlg hu
        have S5 := hide ((unhide S4).call hB hrg hkg k1 g1)
        clear k1 g1 S4 hu hl5
        have k0 := (unhide S5).c0
        have k1 := (unhide S5).c1
        have k2 := (unhide S5).c2
        have kf0 := (unhide S5).f0
        have kf1 := (unhide S5).f1
        have kf2 := (unhide S5).f2
        obtain ⟨rx, ry, rz, r0, r1, r2⟩ := (unhide S5).rr.ex
        have rf0 := (unhide S5).rr.f0
        have rf1 := (unhide S5).rr.f1
        have rf2 := (unhide S5).rr.f2
        have hF := hide (((unhide S5).set0 hB hwk hkg hBk hrk u).fin hB (Nat.le_refl _) hrg hBw)
        clear S5
        go_wp2
        exact bodyPost_ret (v := .agg #[.int .i64 (u), .int .i64 (0), .int .i64 (1 + x3)]) (by simp [results, Tryz.results35, go_sem, r0, r1, r2]) rfl ⟨_, _, _, rfl, unhide hF⟩
      · have hkw5 := World.block_lt_of_cell? _ _ (unhide S3).c0
        simp only at hkw5
        have hlg : w5.heap.size ≠ g := by have := (unhide S3).ds.cur.lt; omega
        obtain ⟨A, hA⟩ : ∃ A, IntKind.i64.wrap (10000000 - (1 + x3)) = A := ⟨_, rfl⟩
        obtain ⟨A2, hA2⟩ : ∃ A2, IntKind.i64.wrap (A + 1) = A2 := ⟨_, rfl⟩
        have hAl : Below w5.heap.size w5 (w5.alloc (.cells #[.int .i64 (-1), .int .i64 10000000, .int .i64 A, .int .i64 A2, .int .i64 4611686018427387904] 2)) := (Below.refl _ _).alloc (Nat.le_refl _) _
        have S4 := hide ((unhide S3).later hB hrg hkg hAl)
        have hl5 := fun k hk => lit5 (w := w5) (T := 2) (k := k) (a0 := -1) (a1 := 10000000) (a2 := A) (a3 := A2) (a4 := 4611686018427387904) hk
        clear hAl
        have k0 := (unhide S3).c0
        have k1 := (unhide S3).c1
        have k2 := (unhide S3).c2
        have kf0 := (unhide S3).f0
        have kf1 := (unhide S3).f1
        have kf2 := (unhide S3).f2
        have S4d := hide ((unhide S4).later hB hrg hkg ((Below.refl _ _).drew))
        have S3d := hide ((unhide S3).later hB hrg hkg ((Below.refl _ _).drew))
        go_wp2_with fail
        go_region_law ((first
          | (go_simp
             go_at_call 32
             refine (below_any B g a len cap 5 (w5.alloc (.cells #[.int .i64 (-1), .int .i64 10000000, .int .i64 A, .int .i64 A2, .int .i64 4611686018427387904] 2)).drew hB hl (unhide S4d).ds.cur (unhide S4d).ds.rd (by omega)).mono ?_
             rintro e w6 ⟨d, rfl, d0, d1, kk, gg⟩
             obtain ⟨m, rfl⟩ : ∃ m : Nat, d = m := ⟨d.toNat, by omega⟩
             obtain ⟨u, hu⟩ := hl5 m (by omega)
             have hu2 := grown_cell gg hlg hu
             have S5 := hide ((unhide S4d).call hB hrg hkg kk gg)
             have m0 := (unhide S5).c1
             have m1 := (unhide S5).f1
             have m2 := (unhide S5).c2
             have m3 : kb < w6.heap.size := World.block_lt_of_cell? _ _ m0
             have m4 := (unhide S5).c0
             clear kk gg)
          | (go_simp
             go_at_call 32
             refine (below_any B g a len cap 5 w5.drew hB hl (unhide S3d).ds.cur (unhide S3d).ds.rd (by omega)).mono ?_
             rintro e w6 ⟨d, rfl, d0, d1, kk, gg⟩
             obtain ⟨m, rfl⟩ : ∃ m : Nat, d = m := ⟨d.toNat, by omega⟩
             obtain ⟨u, hu2⟩ := lit5 (w := w6) (T := 2) (k := m) (a0 := -1) (a1 := 10000000) (a2 := A) (a3 := A2) (a4 := 4611686018427387904) (by omega)
             have S5 := hide ((unhide S3d).call hB hrg hkg kk gg)
             have m0 := (unhide S5).c1
             have m1 := (unhide S5).f1
             have m2 := (unhide S5).c2
             have m3 : kb < w6.heap.size := World.block_lt_of_cell? _ _ m0
             have m4 := (unhide S5).c0
             clear kk gg)))
        all_goals (
          obtain ⟨rx, ry, rz, r0, r1, r2⟩ := (unhide S5).rr.ex
          have rf0 := (unhide S5).rr.f0
          have rf1 := (unhide S5).rr.f1
          have rf2 := (unhide S5).rr.f2
          have r3 : w.heap.size < w6.heap.size := (unhide S5).rr.lt
          have hFA := hide (((unhide S5).set1 hB hwk hkg hBk hrk u).fin hB (Nat.le_refl _) hrg hBw)
          have hFB := hide ((unhide hFA).later hB ((Below.refl _ _).alloc (Nat.le_refl _) (.cells #[.int .i64 (-1), .int .i64 10000000, .int .i64 A, .int .i64 A2, .int .i64 4611686018427387904] 2)))
          clear S5 S4 S3 S4d S3d
          go_wp2
          exact bodyPost_ret (v := .agg #[.int .i64 (0), .int .i64 u, .int .i64 (1 + x3)]) (by simp [results, Tryz.results35, go_sem, r0, r1, r2, r3]) rfl ⟨_, _, _, rfl, by first | exact unhide hFA | exact unhide hFB⟩)
      · have hAl : Below w5.heap.size w5 (w5.alloc (.cells #[.int .i64 (0), .int .i64 (-1), .int .i64 (10000000), .int .i64 (10000001), .int .i64 (4611686018427387904)] 2)) := (Below.refl _ _).alloc (Nat.le_refl _) _
        have S4 := hide ((unhide S3).later hB hrg hkg hAl)
        have hlg : w5.heap.size ≠ g := by have := (unhide S3).ds.cur.lt; omega
        have hl5 := fun k hk => lit5 (w := w5) (T := 2) (k := k) (a0 := 0) (a1 := -1) (a2 := 10000000) (a3 := 10000001) (a4 := 4611686018427387904) hk
        have hkw5 := World.block_lt_of_cell? _ _ (unhide S3).c0
        simp only at hkw5
        clear hAl S3
        go_wp2_with fail
        refine (below_any B g a len cap 5 _ hB hl (unhide S4).ds.cur (unhide S4).ds.rd (by omega)).mono ?_
        rintro e w6 ⟨d, rfl, d0, d1, k1, g1⟩
        obtain ⟨m, rfl⟩ : ∃ m : Nat, d = m := ⟨d.toNat, by omega⟩
        obtain ⟨u, hu⟩ := hl5 m (by omega)
        have hu2 := grown_cell g1 hlg hu
        have S5 := hide ((unhide S4).call hB hrg hkg k1 g1)
        clear k1 g1 S4 hu hl5
        have k0 := (unhide S5).c0
        have k1 := (unhide S5).c1
        have k2 := (unhide S5).c2
        have kf0 := (unhide S5).f0
        have kf1 := (unhide S5).f1
        have kf2 := (unhide S5).f2
        obtain ⟨rx, ry, rz, r0, r1, r2⟩ := (unhide S5).rr.ex
        have rf0 := (unhide S5).rr.f0
        have rf1 := (unhide S5).rr.f1
        have rf2 := (unhide S5).rr.f2
        have hF := hide (((unhide S5).set2 hB hwk hkg hBk hrk u).fin hB (Nat.le_refl _) hrg hBw)
        clear S5
        go_wp2
        exact bodyPost_ret (v := .agg #[.int .i64 (0), .int .i64 (0), .int .i64 (u)]) (by simp [results, Tryz.results35, go_sem, r0, r1, r2]) rfl ⟨_, _, _, rfl, unhide hF⟩
      · skip
        have k0 := (unhide S3).c0
        have k1 := (unhide S3).c1
        have k2 := (unhide S3).c2
        have kf0 := (unhide S3).f0
        have kf1 := (unhide S3).f1
        have kf2 := (unhide S3).f2
        obtain ⟨rx, ry, rz, r0, r1, r2⟩ := (unhide S3).rr.ex
        have rf0 := (unhide S3).rr.f0
        have rf1 := (unhide S3).rr.f1
        have rf2 := (unhide S3).rr.f2
        have hF := hide (((((unhide S3).set0 hB hwk hkg hBk hrk 0).set1 hB hwk hkg hBk hrk 1).set2 hB hwk hkg hBk hrk 3).fin hB (Nat.le_refl _) hrg hBw)
        clear S3
        go_wp2
        exact bodyPost_ret (v := .agg #[.int .i64 0, .int .i64 1, .int .i64 3]) (by simp [results, Tryz.results35, go_sem, r0, r1, r2]) rfl ⟨_, _, _, rfl, unhide hF⟩
  · have h0' : (x1 == 0) = false := by simpa using h0
    have S0 := hide ((unhide SS) x2)
    clear h0 SS

    go_wp2_with fail
    rw [← unhide hkb']
    refine (once_any B g a len cap 40 _ hB hl (unhide S0).ds.cur (unhide S0).ds.rd (by omega)).mono ?_
    rintro e w4 ⟨q, rfl, k1, g1⟩
    have S2 := hide ((unhide S0).call hB hrg hkg k1 g1)
    clear k1 g1 S0
    cases q with
    | false =>
      obtain ⟨rx, ry, rz, r0, r1, r2⟩ := (unhide S2).rr.ex
      have rf0 := (unhide S2).rr.f0
      have rf1 := (unhide S2).rr.f1
      have rf2 := (unhide S2).rr.f2
      have k0 := (unhide S2).c0
      have k1 := (unhide S2).c1
      have k2 := (unhide S2).c2
      have hF := hide ((unhide S2).fin hB (Nat.le_refl _) hrg hBw)
      clear S2
      go_wp2
      exact bodyPost_ret (v := .agg #[.int .i64 (x1), .int .i64 (x2), .int .i64 (1 + x3)]) (by simp [results, Tryz.results35, go_sem, r0, r1, r2]) rfl ⟨_, _, _, rfl, unhide hF⟩
    | true =>
      go_wp2_with fail
      refine (below_any B g a len cap 4 _ hB hl (unhide S2).ds.cur (unhide S2).ds.rd (by omega)).mono ?_
      rintro e w5 ⟨p, rfl, p0, p1, k1, g1⟩
      have S3 := hide ((unhide S2).call hB hrg hkg k1 g1)
      clear k1 g1 S2
      have hp : p = 0 ∨ p = 1 ∨ p = 2 ∨ p = 3 := by omega
      rcases hp with rfl | rfl | rfl | rfl
      · have hAl : Below w5.heap.size w5 (w5.alloc (.cells #[.int .i64 (-1), .int .i64 (500), .int .i64 (501)] 2)) := (Below.refl _ _).alloc (Nat.le_refl _) _
        have S4 := hide ((unhide S3).later hB hrg hkg hAl)
        have hlg : w5.heap.size ≠ g := by have := (unhide S3).ds.cur.lt; omega
        have hl5 := fun k hk => lit3 (w := w5) (T := 2) (k := k) (a0 := -1) (a1 := 500) (a2 := 501) hk
        have hkw5 := World.block_lt_of_cell? _ _ (unhide S3).c0
        simp only at hkw5
        clear hAl S3
        go_wp2_with fail
        refine (below_any B g a len cap 3 _ hB hl (unhide S4).ds.cur (unhide S4).ds.rd (by omega)).mono ?_
        rintro e w6 ⟨d, rfl, d0, d1, k1, g1⟩
        obtain ⟨m, rfl⟩ : ∃ m : Nat, d = m := ⟨d.toNat, by omega⟩
        obtain ⟨u, hu⟩ := hl5 m (by omega)
        have hu2 := grown_cell g1 hlg hu
        have S5 := hide ((unhide S4).call hB hrg hkg k1 g1)
        clear k1 g1 S4 hu hl5
        have k0 := (unhide S5).c0
        have k1 := (unhide S5).c1
        have k2 := (unhide S5).c2
        have kf0 := (unhide S5).f0
        have kf1 := (unhide S5).f1
        have kf2 := (unhide S5).f2
        obtain ⟨rx, ry, rz, r0, r1, r2⟩ := (unhide S5).rr.ex
        have rf0 := (unhide S5).rr.f0
        have rf1 := (unhide S5).rr.f1
        have rf2 := (unhide S5).rr.f2
        have hF := hide (((unhide S5).set0 hB hwk hkg hBk hrk u).fin hB (Nat.le_refl _) hrg hBw)
        clear S5
        go_wp2
        exact bodyPost_ret (v := .agg #[.int .i64 (u), .int .i64 (x2), .int .i64 (1 + x3)]) (by simp [results, Tryz.results35, go_sem, r0, r1, r2]) rfl ⟨_, _, _, rfl, unhide hF⟩
      · have hkw5 := World.block_lt_of_cell? _ _ (unhide S3).c0
        simp only at hkw5
        have hlg : w5.heap.size ≠ g := by have := (unhide S3).ds.cur.lt; omega
        obtain ⟨A, hA⟩ : ∃ A, IntKind.i64.wrap (10000000 - (1 + x3)) = A := ⟨_, rfl⟩
        obtain ⟨A2, hA2⟩ : ∃ A2, IntKind.i64.wrap (A + 1) = A2 := ⟨_, rfl⟩
        have hAl : Below w5.heap.size w5 (w5.alloc (.cells #[.int .i64 (-1), .int .i64 10000000, .int .i64 A, .int .i64 A2, .int .i64 4611686018427387904] 2)) := (Below.refl _ _).alloc (Nat.le_refl _) _
        have S4 := hide ((unhide S3).later hB hrg hkg hAl)
        have hl5 := fun k hk => lit5 (w := w5) (T := 2) (k := k) (a0 := -1) (a1 := 10000000) (a2 := A) (a3 := A2) (a4 := 4611686018427387904) hk
        clear hAl
        have k0 := (unhide S3).c0
        have k1 := (unhide S3).c1
        have k2 := (unhide S3).c2
        have kf0 := (unhide S3).f0
        have kf1 := (unhide S3).f1
        have kf2 := (unhide S3).f2
        have S4d := hide ((unhide S4).later hB hrg hkg ((Below.refl _ _).drew))
        have S3d := hide ((unhide S3).later hB hrg hkg ((Below.refl _ _).drew))
        go_wp2_with fail
        go_region_law ((first
          | (go_simp
             go_at_call 32
             refine (below_any B g a len cap 5 (w5.alloc (.cells #[.int .i64 (-1), .int .i64 10000000, .int .i64 A, .int .i64 A2, .int .i64 4611686018427387904] 2)).drew hB hl (unhide S4d).ds.cur (unhide S4d).ds.rd (by omega)).mono ?_
             rintro e w6 ⟨d, rfl, d0, d1, kk, gg⟩
             obtain ⟨m, rfl⟩ : ∃ m : Nat, d = m := ⟨d.toNat, by omega⟩
             obtain ⟨u, hu⟩ := hl5 m (by omega)
             have hu2 := grown_cell gg hlg hu
             have S5 := hide ((unhide S4d).call hB hrg hkg kk gg)
             have m0 := (unhide S5).c1
             have m1 := (unhide S5).f1
             have m2 := (unhide S5).c2
             have m3 : kb < w6.heap.size := World.block_lt_of_cell? _ _ m0
             have m4 := (unhide S5).c0
             clear kk gg)
          | (go_simp
             go_at_call 32
             refine (below_any B g a len cap 5 w5.drew hB hl (unhide S3d).ds.cur (unhide S3d).ds.rd (by omega)).mono ?_
             rintro e w6 ⟨d, rfl, d0, d1, kk, gg⟩
             obtain ⟨m, rfl⟩ : ∃ m : Nat, d = m := ⟨d.toNat, by omega⟩
             obtain ⟨u, hu2⟩ := lit5 (w := w6) (T := 2) (k := m) (a0 := -1) (a1 := 10000000) (a2 := A) (a3 := A2) (a4 := 4611686018427387904) (by omega)
             have S5 := hide ((unhide S3d).call hB hrg hkg kk gg)
             have m0 := (unhide S5).c1
             have m1 := (unhide S5).f1
             have m2 := (unhide S5).c2
             have m3 : kb < w6.heap.size := World.block_lt_of_cell? _ _ m0
             have m4 := (unhide S5).c0
             clear kk gg)))
        all_goals (
          obtain ⟨rx, ry, rz, r0, r1, r2⟩ := (unhide S5).rr.ex
          have rf0 := (unhide S5).rr.f0
          have rf1 := (unhide S5).rr.f1
          have rf2 := (unhide S5).rr.f2
          have r3 : w.heap.size < w6.heap.size := (unhide S5).rr.lt
          have hFA := hide (((unhide S5).set1 hB hwk hkg hBk hrk u).fin hB (Nat.le_refl _) hrg hBw)
          have hFB := hide ((unhide hFA).later hB ((Below.refl _ _).alloc (Nat.le_refl _) (.cells #[.int .i64 (-1), .int .i64 10000000, .int .i64 A, .int .i64 A2, .int .i64 4611686018427387904] 2)))
          clear S5 S4 S3 S4d S3d
          go_wp2
          exact bodyPost_ret (v := .agg #[.int .i64 (x1), .int .i64 u, .int .i64 (1 + x3)]) (by simp [results, Tryz.results35, go_sem, r0, r1, r2, r3]) rfl ⟨_, _, _, rfl, by first | exact unhide hFA | exact unhide hFB⟩)
      · have hAl : Below w5.heap.size w5 (w5.alloc (.cells #[.int .i64 (0), .int .i64 (-1), .int .i64 (10000000), .int .i64 (10000001), .int .i64 (4611686018427387904)] 2)) := (Below.refl _ _).alloc (Nat.le_refl _) _
        have S4 := hide ((unhide S3).later hB hrg hkg hAl)
        have hlg : w5.heap.size ≠ g := by have := (unhide S3).ds.cur.lt; omega
        have hl5 := fun k hk => lit5 (w := w5) (T := 2) (k := k) (a0 := 0) (a1 := -1) (a2 := 10000000) (a3 := 10000001) (a4 := 4611686018427387904) hk
        have hkw5 := World.block_lt_of_cell? _ _ (unhide S3).c0
        simp only at hkw5
        clear hAl S3
        go_wp2_with fail
        refine (below_any B g a len cap 5 _ hB hl (unhide S4).ds.cur (unhide S4).ds.rd (by omega)).mono ?_
        rintro e w6 ⟨d, rfl, d0, d1, k1, g1⟩
        obtain ⟨m, rfl⟩ : ∃ m : Nat, d = m := ⟨d.toNat, by omega⟩
        obtain ⟨u, hu⟩ := hl5 m (by omega)
        have hu2 := grown_cell g1 hlg hu
        have S5 := hide ((unhide S4).call hB hrg hkg k1 g1)
        clear k1 g1 S4 hu hl5
        have k0 := (unhide S5).c0
        have k1 := (unhide S5).c1
        have k2 := (unhide S5).c2
        have kf0 := (unhide S5).f0
        have kf1 := (unhide S5).f1
        have kf2 := (unhide S5).f2
        obtain ⟨rx, ry, rz, r0, r1, r2⟩ := (unhide S5).rr.ex
        have rf0 := (unhide S5).rr.f0
        have rf1 := (unhide S5).rr.f1
        have rf2 := (unhide S5).rr.f2
        have hF := hide (((unhide S5).set2 hB hwk hkg hBk hrk u).fin hB (Nat.le_refl _) hrg hBw)
        clear S5
        go_wp2
        exact bodyPost_ret (v := .agg #[.int .i64 (x1), .int .i64 (x2), .int .i64 (u)]) (by simp [results, Tryz.results35, go_sem, r0, r1, r2]) rfl ⟨_, _, _, rfl, unhide hF⟩
      · skip
        have k0 := (unhide S3).c0
        have k1 := (unhide S3).c1
        have k2 := (unhide S3).c2
        have kf0 := (unhide S3).f0
        have kf1 := (unhide S3).f1
        have kf2 := (unhide S3).f2
        obtain ⟨rx, ry, rz, r0, r1, r2⟩ := (unhide S3).rr.ex
        have rf0 := (unhide S3).rr.f0
        have rf1 := (unhide S3).rr.f1
        have rf2 := (unhide S3).rr.f2
        have hF := hide (((((unhide S3).set0 hB hwk hkg hBk hrk 0).set1 hB hwk hkg hBk hrk 1).set2 hB hwk hkg hBk hrk 3).fin hB (Nat.le_refl _) hrg hBw)
        clear S3
        go_wp2
        exact bodyPost_ret (v := .agg #[.int .i64 0, .int .i64 1, .int .i64 3]) (by simp [results, Tryz.results35, go_sem, r0, r1, r2]) rfl ⟨_, _, _, rfl, unhide hF⟩

end Go.Proofs.YtfhbmfndjbdhcaaGreatDoor
