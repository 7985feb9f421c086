/-
  Contracts of the model's and the program's KeyMask; nothing that was there is written.
-/
import Derived.Test.YtdmcbdogpeidjaaApt
namespace Go.Proofs.Ytdmcbdogpeidjaa
open Go.RowKit
set_option linter.unusedVariables false
set_option linter.unusedSimpArgs false

/-- the mask's last quotient within bounds -/
theorem km_bd {d n f : Int} (h0 : 0 ≤ n) (h1 : n < d) (h2 : d < f) (h3 : f ≤ 65535) : 1 ≤ f - n ∧ f - n ≤ 65535 ∧ 0 ≤ 65535 * (f - d) ∧ 65535 * (f - d) ≤ 4294836225 := by omega
set_option maxHeartbeats 3200000 in
theorem ikm_any (x y z a b c n f v : Int) (w : World) (hv : kmOf (x, y, z) (a, b, c) n f = v) :
    Calls Try.prog 20 #[ag3 x y z, ag3 a b c, .int .i64 n, .int .i64 f] w fun e w' => e = .returned (.int .i64 v) ∧ Below w.heap.size w w' := by
  by_cases hA : CoOk (x, y, z)
  · by_cases hC : CoOk (a, b, c)
    · have hA0 := hide hA
      have hC0 := hide hC
      have hA' := hide (decide_eq_true hA)
      have hC' := hide (decide_eq_true hC)
      obtain ⟨p0, p1⟩ := apt_bd hA hC
      obtain ⟨⟨x0, x1⟩, ⟨y0, y1⟩, ⟨z0, z1⟩⟩ := hA
      obtain ⟨⟨a0, a1⟩, ⟨b0, b1⟩, ⟨c0, c1⟩⟩ := hC
      simp only at x0 x1 y0 y1 z0 z1 a0 a1 b0 b1 c0 c1
      have hA := hA'
      have hC := hC'
      clear hA' hC'
      by_cases h0 : n < 0
      · rw [km_no (by rintro ⟨_, _, h1, h2, h3⟩; omega)] at hv
        subst hv
        have d0 : decide (n < 0) = true := by simpa using h0
        go_enter Try.func20, Try.ntmps20
        go_wp2_with fail
        refine (ico_any x y z true _ (unhide hA)).mono ?_
        rintro e w1 ⟨rfl, hb1⟩
        have hza : w1.cell? ⟨w.heap.size + 1, 0, none⟩ = some (.int .i64 a) := by rw [(bcell hb1).1 _ _ (by simp)]; simp [go_sem]
        have hzb : w1.cell? ⟨w.heap.size + 1, 1, none⟩ = some (.int .i64 b) := by rw [(bcell hb1).1 _ _ (by simp)]; simp [go_sem]
        have hzc : w1.cell? ⟨w.heap.size + 1, 2, none⟩ = some (.int .i64 c) := by rw [(bcell hb1).1 _ _ (by simp)]; simp [go_sem]
        have hxa : w1.cell? ⟨w.heap.size, 0, none⟩ = some (.int .i64 x) := by rw [(bcell hb1).1 _ _ (by simp; omega)]; simp [go_sem]
        have hxb : w1.cell? ⟨w.heap.size, 1, none⟩ = some (.int .i64 y) := by rw [(bcell hb1).1 _ _ (by simp; omega)]; simp [go_sem]
        have hxc : w1.cell? ⟨w.heap.size, 2, none⟩ = some (.int .i64 z) := by rw [(bcell hb1).1 _ _ (by simp; omega)]; simp [go_sem]
        have H1 : Hid (Below w.heap.size w w1) := hide ((((Below.refl _ _).alloc (Nat.le_refl _) _).alloc (by simp) _).trans (hb1.mono (by simp; omega)))
        have hs1 : w.heap.size + 1 < w1.heap.size := by have := hb1.size; simp at this; omega
        clear hb1
        go_wp2_with fail
        refine (ico_any a b c true _ (unhide hC)).mono ?_
        rintro e w2 ⟨rfl, hb2⟩
        have hza2 := cell_later hb2 hza
        have hzb2 := cell_later hb2 hzb
        have hzc2 := cell_later hb2 hzc
        have hxa2 := cell_later hb2 hxa
        have hxb2 := cell_later hb2 hxb
        have hxc2 := cell_later hb2 hxc
        have H2 : Hid (Below w.heap.size w w2) := hide (laterB (unhide H1) hb2)
        have hs2 : w.heap.size + 1 < w2.heap.size := by have := hb2.size; omega
        clear hb2 hza hzb hzc hxa hxb hxc H1 hs1
        go_wp2
        go_ret
        exact ⟨rfl, unhide H2⟩
      have d0 : decide (n < 0) = false := by simpa using h0
      by_cases h1 : f ≤ n
      · rw [km_no (by rintro ⟨_, _, h1, h2, h3⟩; omega)] at hv
        subst hv
        have d1 : decide (f ≤ n) = true := by simpa using h1
        go_enter Try.func20, Try.ntmps20
        go_wp2_with fail
        refine (ico_any x y z true _ (unhide hA)).mono ?_
        rintro e w1 ⟨rfl, hb1⟩
        have hza : w1.cell? ⟨w.heap.size + 1, 0, none⟩ = some (.int .i64 a) := by rw [(bcell hb1).1 _ _ (by simp)]; simp [go_sem]
        have hzb : w1.cell? ⟨w.heap.size + 1, 1, none⟩ = some (.int .i64 b) := by rw [(bcell hb1).1 _ _ (by simp)]; simp [go_sem]
        have hzc : w1.cell? ⟨w.heap.size + 1, 2, none⟩ = some (.int .i64 c) := by rw [(bcell hb1).1 _ _ (by simp)]; simp [go_sem]
        have hxa : w1.cell? ⟨w.heap.size, 0, none⟩ = some (.int .i64 x) := by rw [(bcell hb1).1 _ _ (by simp; omega)]; simp [go_sem]
        have hxb : w1.cell? ⟨w.heap.size, 1, none⟩ = some (.int .i64 y) := by rw [(bcell hb1).1 _ _ (by simp; omega)]; simp [go_sem]
        have hxc : w1.cell? ⟨w.heap.size, 2, none⟩ = some (.int .i64 z) := by rw [(bcell hb1).1 _ _ (by simp; omega)]; simp [go_sem]
        have H1 : Hid (Below w.heap.size w w1) := hide ((((Below.refl _ _).alloc (Nat.le_refl _) _).alloc (by simp) _).trans (hb1.mono (by simp; omega)))
        have hs1 : w.heap.size + 1 < w1.heap.size := by have := hb1.size; simp at this; omega
        clear hb1
        go_wp2_with fail
        refine (ico_any a b c true _ (unhide hC)).mono ?_
        rintro e w2 ⟨rfl, hb2⟩
        have hza2 := cell_later hb2 hza
        have hzb2 := cell_later hb2 hzb
        have hzc2 := cell_later hb2 hzc
        have hxa2 := cell_later hb2 hxa
        have hxb2 := cell_later hb2 hxb
        have hxc2 := cell_later hb2 hxc
        have H2 : Hid (Below w.heap.size w w2) := hide (laterB (unhide H1) hb2)
        have hs2 : w.heap.size + 1 < w2.heap.size := by have := hb2.size; omega
        clear hb2 hza hzb hzc hxa hxb hxc H1 hs1
        go_wp2
        go_ret
        exact ⟨rfl, unhide H2⟩
      have d1 : decide (f ≤ n) = false := by simpa using h1
      by_cases h2 : 65535 < f
      · rw [km_no (by rintro ⟨_, _, h1, h2, h3⟩; omega)] at hv
        subst hv
        have d2 : decide (65535 < f) = true := by simpa using h2
        go_enter Try.func20, Try.ntmps20
        go_wp2_with fail
        refine (ico_any x y z true _ (unhide hA)).mono ?_
        rintro e w1 ⟨rfl, hb1⟩
        have hza : w1.cell? ⟨w.heap.size + 1, 0, none⟩ = some (.int .i64 a) := by rw [(bcell hb1).1 _ _ (by simp)]; simp [go_sem]
        have hzb : w1.cell? ⟨w.heap.size + 1, 1, none⟩ = some (.int .i64 b) := by rw [(bcell hb1).1 _ _ (by simp)]; simp [go_sem]
        have hzc : w1.cell? ⟨w.heap.size + 1, 2, none⟩ = some (.int .i64 c) := by rw [(bcell hb1).1 _ _ (by simp)]; simp [go_sem]
        have hxa : w1.cell? ⟨w.heap.size, 0, none⟩ = some (.int .i64 x) := by rw [(bcell hb1).1 _ _ (by simp; omega)]; simp [go_sem]
        have hxb : w1.cell? ⟨w.heap.size, 1, none⟩ = some (.int .i64 y) := by rw [(bcell hb1).1 _ _ (by simp; omega)]; simp [go_sem]
        have hxc : w1.cell? ⟨w.heap.size, 2, none⟩ = some (.int .i64 z) := by rw [(bcell hb1).1 _ _ (by simp; omega)]; simp [go_sem]
        have H1 : Hid (Below w.heap.size w w1) := hide ((((Below.refl _ _).alloc (Nat.le_refl _) _).alloc (by simp) _).trans (hb1.mono (by simp; omega)))
        have hs1 : w.heap.size + 1 < w1.heap.size := by have := hb1.size; simp at this; omega
        clear hb1
        go_wp2_with fail
        refine (ico_any a b c true _ (unhide hC)).mono ?_
        rintro e w2 ⟨rfl, hb2⟩
        have hza2 := cell_later hb2 hza
        have hzb2 := cell_later hb2 hzb
        have hzc2 := cell_later hb2 hzc
        have hxa2 := cell_later hb2 hxa
        have hxb2 := cell_later hb2 hxb
        have hxc2 := cell_later hb2 hxc
        have H2 : Hid (Below w.heap.size w w2) := hide (laterB (unhide H1) hb2)
        have hs2 : w.heap.size + 1 < w2.heap.size := by have := hb2.size; omega
        clear hb2 hza hzb hzc hxa hxb hxc H1 hs1
        go_wp2
        go_ret
        exact ⟨rfl, unhide H2⟩
      have d2 : decide (65535 < f) = false := by simpa using h2
      rw [km_yes ⟨unhide hA0, unhide hC0, by omega, by omega, by omega⟩] at hv
      generalize hD : apt (x, y, z) (a, b, c) = D at *
      have hD' := hide hD
      clear hD
      unfold kmAt at hv
      have q0 : 0 ≤ n := by omega
      have q1 : n < f := by omega
      have q2 : f ≤ 65535 := by omega
      clear h0 h1 h2
      by_cases h3 : D ≤ n
      · rw [if_pos h3] at hv
        subst hv
        have d3 : decide (D ≤ n) = true := by simpa using h3
        go_enter Try.func20, Try.ntmps20
        go_wp2_with fail
        refine (ico_any x y z true _ (unhide hA)).mono ?_
        rintro e w1 ⟨rfl, hb1⟩
        have hza : w1.cell? ⟨w.heap.size + 1, 0, none⟩ = some (.int .i64 a) := by rw [(bcell hb1).1 _ _ (by simp)]; simp [go_sem]
        have hzb : w1.cell? ⟨w.heap.size + 1, 1, none⟩ = some (.int .i64 b) := by rw [(bcell hb1).1 _ _ (by simp)]; simp [go_sem]
        have hzc : w1.cell? ⟨w.heap.size + 1, 2, none⟩ = some (.int .i64 c) := by rw [(bcell hb1).1 _ _ (by simp)]; simp [go_sem]
        have hxa : w1.cell? ⟨w.heap.size, 0, none⟩ = some (.int .i64 x) := by rw [(bcell hb1).1 _ _ (by simp; omega)]; simp [go_sem]
        have hxb : w1.cell? ⟨w.heap.size, 1, none⟩ = some (.int .i64 y) := by rw [(bcell hb1).1 _ _ (by simp; omega)]; simp [go_sem]
        have hxc : w1.cell? ⟨w.heap.size, 2, none⟩ = some (.int .i64 z) := by rw [(bcell hb1).1 _ _ (by simp; omega)]; simp [go_sem]
        have H1 : Hid (Below w.heap.size w w1) := hide ((((Below.refl _ _).alloc (Nat.le_refl _) _).alloc (by simp) _).trans (hb1.mono (by simp; omega)))
        have hs1 : w.heap.size + 1 < w1.heap.size := by have := hb1.size; simp at this; omega
        clear hb1
        go_wp2_with fail
        refine (ico_any a b c true _ (unhide hC)).mono ?_
        rintro e w2 ⟨rfl, hb2⟩
        have hza2 := cell_later hb2 hza
        have hzb2 := cell_later hb2 hzb
        have hzc2 := cell_later hb2 hzc
        have hxa2 := cell_later hb2 hxa
        have hxb2 := cell_later hb2 hxb
        have hxc2 := cell_later hb2 hxc
        have H2 : Hid (Below w.heap.size w w2) := hide (laterB (unhide H1) hb2)
        have hs2 : w.heap.size + 1 < w2.heap.size := by have := hb2.size; omega
        clear hb2 hza hzb hzc hxa hxb hxc H1 hs1
        go_wp2_with fail
        refine (apart_any x y z a b c D _ (unhide hA0) (unhide hC0) (unhide hD')).mono ?_
        rintro e w3 ⟨rfl, hb3⟩
        have H3 := hide (laterB (unhide H2) hb3)
        clear hb3 H2 hza2 hzb2 hzc2 hxa2 hxb2 hxc2
        go_wp2
        go_ret
        exact ⟨rfl, unhide H3⟩
      rw [if_neg h3] at hv
      have d3 : decide (D ≤ n) = false := by simpa using h3
      by_cases h4 : f ≤ D
      · rw [if_pos h4] at hv
        subst hv
        have d4 : decide (f ≤ D) = true := by simpa using h4
        go_enter Try.func20, Try.ntmps20
        go_wp2_with fail
        refine (ico_any x y z true _ (unhide hA)).mono ?_
        rintro e w1 ⟨rfl, hb1⟩
        have hza : w1.cell? ⟨w.heap.size + 1, 0, none⟩ = some (.int .i64 a) := by rw [(bcell hb1).1 _ _ (by simp)]; simp [go_sem]
        have hzb : w1.cell? ⟨w.heap.size + 1, 1, none⟩ = some (.int .i64 b) := by rw [(bcell hb1).1 _ _ (by simp)]; simp [go_sem]
        have hzc : w1.cell? ⟨w.heap.size + 1, 2, none⟩ = some (.int .i64 c) := by rw [(bcell hb1).1 _ _ (by simp)]; simp [go_sem]
        have hxa : w1.cell? ⟨w.heap.size, 0, none⟩ = some (.int .i64 x) := by rw [(bcell hb1).1 _ _ (by simp; omega)]; simp [go_sem]
        have hxb : w1.cell? ⟨w.heap.size, 1, none⟩ = some (.int .i64 y) := by rw [(bcell hb1).1 _ _ (by simp; omega)]; simp [go_sem]
        have hxc : w1.cell? ⟨w.heap.size, 2, none⟩ = some (.int .i64 z) := by rw [(bcell hb1).1 _ _ (by simp; omega)]; simp [go_sem]
        have H1 : Hid (Below w.heap.size w w1) := hide ((((Below.refl _ _).alloc (Nat.le_refl _) _).alloc (by simp) _).trans (hb1.mono (by simp; omega)))
        have hs1 : w.heap.size + 1 < w1.heap.size := by have := hb1.size; simp at this; omega
        clear hb1
        go_wp2_with fail
        refine (ico_any a b c true _ (unhide hC)).mono ?_
        rintro e w2 ⟨rfl, hb2⟩
        have hza2 := cell_later hb2 hza
        have hzb2 := cell_later hb2 hzb
        have hzc2 := cell_later hb2 hzc
        have hxa2 := cell_later hb2 hxa
        have hxb2 := cell_later hb2 hxb
        have hxc2 := cell_later hb2 hxc
        have H2 : Hid (Below w.heap.size w w2) := hide (laterB (unhide H1) hb2)
        have hs2 : w.heap.size + 1 < w2.heap.size := by have := hb2.size; omega
        clear hb2 hza hzb hzc hxa hxb hxc H1 hs1
        go_wp2_with fail
        refine (apart_any x y z a b c D _ (unhide hA0) (unhide hC0) (unhide hD')).mono ?_
        rintro e w3 ⟨rfl, hb3⟩
        have H3 := hide (laterB (unhide H2) hb3)
        clear hb3 H2 hza2 hzb2 hzc2 hxa2 hxb2 hxc2
        go_wp2
        go_ret
        exact ⟨rfl, unhide H3⟩
      · rw [if_neg h4] at hv
        have hv' := hide hv
        clear hv
        have d4 : decide (f ≤ D) = false := by simpa using h4
        obtain ⟨k0, k1, k2, k3⟩ := km_bd q0 (show n < D by omega) (show D < f by omega) q2
        go_enter Try.func20, Try.ntmps20
        go_wp2_with fail
        refine (ico_any x y z true _ (unhide hA)).mono ?_
        rintro e w1 ⟨rfl, hb1⟩
        have hza : w1.cell? ⟨w.heap.size + 1, 0, none⟩ = some (.int .i64 a) := by rw [(bcell hb1).1 _ _ (by simp)]; simp [go_sem]
        have hzb : w1.cell? ⟨w.heap.size + 1, 1, none⟩ = some (.int .i64 b) := by rw [(bcell hb1).1 _ _ (by simp)]; simp [go_sem]
        have hzc : w1.cell? ⟨w.heap.size + 1, 2, none⟩ = some (.int .i64 c) := by rw [(bcell hb1).1 _ _ (by simp)]; simp [go_sem]
        have hxa : w1.cell? ⟨w.heap.size, 0, none⟩ = some (.int .i64 x) := by rw [(bcell hb1).1 _ _ (by simp; omega)]; simp [go_sem]
        have hxb : w1.cell? ⟨w.heap.size, 1, none⟩ = some (.int .i64 y) := by rw [(bcell hb1).1 _ _ (by simp; omega)]; simp [go_sem]
        have hxc : w1.cell? ⟨w.heap.size, 2, none⟩ = some (.int .i64 z) := by rw [(bcell hb1).1 _ _ (by simp; omega)]; simp [go_sem]
        have H1 : Hid (Below w.heap.size w w1) := hide ((((Below.refl _ _).alloc (Nat.le_refl _) _).alloc (by simp) _).trans (hb1.mono (by simp; omega)))
        have hs1 : w.heap.size + 1 < w1.heap.size := by have := hb1.size; simp at this; omega
        clear hb1
        go_wp2_with fail
        refine (ico_any a b c true _ (unhide hC)).mono ?_
        rintro e w2 ⟨rfl, hb2⟩
        have hza2 := cell_later hb2 hza
        have hzb2 := cell_later hb2 hzb
        have hzc2 := cell_later hb2 hzc
        have hxa2 := cell_later hb2 hxa
        have hxb2 := cell_later hb2 hxb
        have hxc2 := cell_later hb2 hxc
        have H2 : Hid (Below w.heap.size w w2) := hide (laterB (unhide H1) hb2)
        have hs2 : w.heap.size + 1 < w2.heap.size := by have := hb2.size; omega
        clear hb2 hza hzb hzc hxa hxb hxc H1 hs1
        go_wp2_with fail
        refine (apart_any x y z a b c D _ (unhide hA0) (unhide hC0) (unhide hD')).mono ?_
        rintro e w3 ⟨rfl, hb3⟩
        have H3 := hide (laterB (unhide H2) hb3)
        clear hb3 H2 hza2 hzb2 hzc2 hxa2 hxb2 hxc2
        go_wp2_with fail
        refine (irnd_any (65535 * (f - D)) (f - n) v _ (by omega) (by omega) (by omega) (unhide hv')).mono ?_
        rintro e w4 ⟨rfl, hw0⟩
        have hw1 := hw0.symm
        subst hw1
        go_wp2
        go_ret
        exact ⟨rfl, unhide H3⟩
    · rw [km_no (fun h => hC h.2.1)] at hv
      subst hv
      have hA' := hide (decide_eq_true hA)
      have hC' := hide (decide_eq_false hC)
      clear hA hC
      have hA := hA'
      have hC := hC'
      clear hA' hC'
      go_enter Try.func20, Try.ntmps20
      go_wp2_with fail
      refine (ico_any x y z true _ (unhide hA)).mono ?_
      rintro e w1 ⟨rfl, hb1⟩
      have hza : w1.cell? ⟨w.heap.size + 1, 0, none⟩ = some (.int .i64 a) := by rw [(bcell hb1).1 _ _ (by simp)]; simp [go_sem]
      have hzb : w1.cell? ⟨w.heap.size + 1, 1, none⟩ = some (.int .i64 b) := by rw [(bcell hb1).1 _ _ (by simp)]; simp [go_sem]
      have hzc : w1.cell? ⟨w.heap.size + 1, 2, none⟩ = some (.int .i64 c) := by rw [(bcell hb1).1 _ _ (by simp)]; simp [go_sem]
      have hxa : w1.cell? ⟨w.heap.size, 0, none⟩ = some (.int .i64 x) := by rw [(bcell hb1).1 _ _ (by simp; omega)]; simp [go_sem]
      have hxb : w1.cell? ⟨w.heap.size, 1, none⟩ = some (.int .i64 y) := by rw [(bcell hb1).1 _ _ (by simp; omega)]; simp [go_sem]
      have hxc : w1.cell? ⟨w.heap.size, 2, none⟩ = some (.int .i64 z) := by rw [(bcell hb1).1 _ _ (by simp; omega)]; simp [go_sem]
      have H1 : Hid (Below w.heap.size w w1) := hide ((((Below.refl _ _).alloc (Nat.le_refl _) _).alloc (by simp) _).trans (hb1.mono (by simp; omega)))
      have hs1 : w.heap.size + 1 < w1.heap.size := by have := hb1.size; simp at this; omega
      clear hb1
      go_wp2_with fail
      refine (ico_any a b c false _ (unhide hC)).mono ?_
      rintro e w2 ⟨rfl, hb2⟩
      have hza2 := cell_later hb2 hza
      have hzb2 := cell_later hb2 hzb
      have hzc2 := cell_later hb2 hzc
      have hxa2 := cell_later hb2 hxa
      have hxb2 := cell_later hb2 hxb
      have hxc2 := cell_later hb2 hxc
      have H2 : Hid (Below w.heap.size w w2) := hide (laterB (unhide H1) hb2)
      have hs2 : w.heap.size + 1 < w2.heap.size := by have := hb2.size; omega
      clear hb2 hza hzb hzc hxa hxb hxc H1 hs1
      go_wp2
      go_ret
      exact ⟨rfl, unhide H2⟩
  · rw [km_no (fun h => hA h.1)] at hv
    subst hv
    have hA' := hide (decide_eq_false hA)
    clear hA
    have hA := hA'
    clear hA'
    go_enter Try.func20, Try.ntmps20
    go_wp2_with fail
    refine (ico_any x y z false _ (unhide hA)).mono ?_
    rintro e w1 ⟨rfl, hb1⟩
    have hza : w1.cell? ⟨w.heap.size + 1, 0, none⟩ = some (.int .i64 a) := by rw [(bcell hb1).1 _ _ (by simp)]; simp [go_sem]
    have hzb : w1.cell? ⟨w.heap.size + 1, 1, none⟩ = some (.int .i64 b) := by rw [(bcell hb1).1 _ _ (by simp)]; simp [go_sem]
    have hzc : w1.cell? ⟨w.heap.size + 1, 2, none⟩ = some (.int .i64 c) := by rw [(bcell hb1).1 _ _ (by simp)]; simp [go_sem]
    have hxa : w1.cell? ⟨w.heap.size, 0, none⟩ = some (.int .i64 x) := by rw [(bcell hb1).1 _ _ (by simp; omega)]; simp [go_sem]
    have hxb : w1.cell? ⟨w.heap.size, 1, none⟩ = some (.int .i64 y) := by rw [(bcell hb1).1 _ _ (by simp; omega)]; simp [go_sem]
    have hxc : w1.cell? ⟨w.heap.size, 2, none⟩ = some (.int .i64 z) := by rw [(bcell hb1).1 _ _ (by simp; omega)]; simp [go_sem]
    have H1 : Hid (Below w.heap.size w w1) := hide ((((Below.refl _ _).alloc (Nat.le_refl _) _).alloc (by simp) _).trans (hb1.mono (by simp; omega)))
    have hs1 : w.heap.size + 1 < w1.heap.size := by have := hb1.size; simp at this; omega
    clear hb1
    go_wp2
    go_ret
    exact ⟨rfl, unhide H1⟩

end Go.Proofs.Ytdmcbdogpeidjaa
