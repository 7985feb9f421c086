/-
  Contracts of the model's Matrix; nothing that was there is written.
-/
import Derived.Test.YtdmcbdogpeidjaaMat
namespace Go.Proofs.Ytdmcbdogpeidjaa
open Go.RowKit
set_option linter.unusedVariables false
set_option linter.unusedSimpArgs false

set_option maxHeartbeats 6400000 in
theorem smat_any (a : Option Addr) (cap : Nat) (l : List Int) (x y z : Int) (w : World) (hl : l.length ≤ maxLen) (hk : Ins w a l) :
    Calls Try.prog 22 #[.slice a l.length cap, ag3 x y z] w fun e w' => e = .returned (kv (matOf l (x, y, z))) ∧ Below w.heap.size w w' := by
  have hk' := hide hk
  have hl' := hide hl
  clear hk hl
  by_cases hX : CoOk (x, y, z)
  · by_cases hM : MatOk l
    · rw [mat_yes hM hX]
      have hM' := hide hM
      have hX' := hide hX
      have hS := hide (decide_eq_true hX)
      obtain ⟨m0, m1, m2, m3, m4, m5, m6, m7, m8, rfl⟩ := nine hM.1
      obtain ⟨b, o, rfl, hbl, d0, d1, d2, d3, d4, d5, d6, d7, d8⟩ := ins9 (unhide hk')
      obtain ⟨X0, Y0, Z0⟩ := hX
      simp only at X0 Y0 Z0
      have B := hM.2
      have b00 := mp_bd (m := m0) (x := x) (B _ (by simp)) X0
      have b01 := mp_bd (m := m1) (x := y) (B _ (by simp)) Y0
      have b02 := mp_bd (m := m2) (x := z) (B _ (by simp)) Z0
      have b10 := mp_bd (m := m3) (x := x) (B _ (by simp)) X0
      have b11 := mp_bd (m := m4) (x := y) (B _ (by simp)) Y0
      have b12 := mp_bd (m := m5) (x := z) (B _ (by simp)) Z0
      have b20 := mp_bd (m := m6) (x := x) (B _ (by simp)) X0
      have b21 := mp_bd (m := m7) (x := y) (B _ (by simp)) Y0
      have b22 := mp_bd (m := m8) (x := z) (B _ (by simp)) Z0
      obtain ⟨V0, hV0⟩ : ∃ V, mnum [m0, m1, m2, m3, m4, m5, m6, m7, m8] (x, y, z) 0 = V := ⟨_, rfl⟩
      have e0 : clF (rnd (m0 * x + m1 * y + m2 * z) 4096) = V0 := hV0
      obtain ⟨V1, hV1⟩ : ∃ V, mnum [m0, m1, m2, m3, m4, m5, m6, m7, m8] (x, y, z) 1 = V := ⟨_, rfl⟩
      have e1 : clF (rnd (m3 * x + m4 * y + m5 * z) 4096) = V1 := hV1
      obtain ⟨V2, hV2⟩ : ∃ V, mnum [m0, m1, m2, m3, m4, m5, m6, m7, m8] (x, y, z) 2 = V := ⟨_, rfl⟩
      have e2 : clF (rnd (m6 * x + m7 * y + m8 * z) 4096) = V2 := hV2
      rw [hV0, hV1, hV2]
      clear hM hV0 hV1 hV2 B
      generalize hp00 : m0 * x = P00 at *
      have hq00 := hide hp00
      obtain ⟨l00, u00⟩ := b00
      clear hp00
      generalize hp01 : m1 * y = P01 at *
      have hq01 := hide hp01
      obtain ⟨l01, u01⟩ := b01
      clear hp01
      generalize hp02 : m2 * z = P02 at *
      have hq02 := hide hp02
      obtain ⟨l02, u02⟩ := b02
      clear hp02
      generalize hp10 : m3 * x = P10 at *
      have hq10 := hide hp10
      obtain ⟨l10, u10⟩ := b10
      clear hp10
      generalize hp11 : m4 * y = P11 at *
      have hq11 := hide hp11
      obtain ⟨l11, u11⟩ := b11
      clear hp11
      generalize hp12 : m5 * z = P12 at *
      have hq12 := hide hp12
      obtain ⟨l12, u12⟩ := b12
      clear hp12
      generalize hp20 : m6 * x = P20 at *
      have hq20 := hide hp20
      obtain ⟨l20, u20⟩ := b20
      clear hp20
      generalize hp21 : m7 * y = P21 at *
      have hq21 := hide hp21
      obtain ⟨l21, u21⟩ := b21
      clear hp21
      generalize hp22 : m8 * z = P22 at *
      have hq22 := hide hp22
      obtain ⟨l22, u22⟩ := b22
      clear hp22
      have E0 := hide e0
      have E1 := hide e1
      have E2 := hide e2
      clear e0 e1 e2
      have g1 : ((9 : Int) != 9) = false := by simp
      go_enter Try.func22, Try.ntmps22
      go_wp2_with fail
      refine (sco_any x y z true _ (unhide hS)).mono ?_
      rintro e w1 ⟨rfl, hb1⟩
      have R1 : Hid (Bx w1 (w.heap.size + 1) 0 0 0) := hide (Bx.below (w := (w.alloc (.cells #[.int .i64 x, .int .i64 y, .int .i64 z] 26)).alloc (.cells #[.int .i64 0, .int .i64 0, .int .i64 0] 26)) ⟨by simp [go_sem], by simp [go_sem], by simp [go_sem], by simp [go_sem], by simp [go_sem], by simp [go_sem]⟩ hb1)
      have I1 : Hid (Bx w1 w.heap.size x y z) := hide (Bx.below (w := (w.alloc (.cells #[.int .i64 x, .int .i64 y, .int .i64 z] 26)).alloc (.cells #[.int .i64 0, .int .i64 0, .int .i64 0] 26)) ⟨by simp [go_sem], by simp [go_sem], by simp [go_sem], by simp [go_sem], by simp [go_sem], by simp [go_sem]⟩ hb1)
      have H1 : Hid (Below w.heap.size w w1) := hide ((((Below.refl _ _).alloc (Nat.le_refl _) _).alloc (by simp) _).trans (hb1.mono (by simp; omega)))
      have hs1 : w.heap.size + 1 < w1.heap.size := (unhide R1).lt
      clear hb1
      go_wp2
      go_loop [5] (fun t => ∃ k : Nat, k ≤ 9 ∧ t = .int .i64 k) (fun t => 9 - (intOf t).toNat)
      case atStart => exact ⟨0, by omega, rfl⟩
      case round =>
        obtain ⟨k, hk, rfl⟩ := hrel
        by_cases hlt : k < 9
        · obtain ⟨b9, o9, x9, hab, hx, hbl9, c9⟩ := ins_at (unhide hk') (unhide H1) (show k < [m0, m1, m2, m3, m4, m5, m6, m7, m8].length from hlt)
          injection hab with hab
          injection hab with ha1 ha2
          subst ha1 ha2
          have f0 : MfOk x9 := (unhide hM').2 x9 (List.mem_of_getElem? hx)
          have hd := hide (show (decide (-65536 ≤ x9) && decide (x9 ≤ 65536)) = true by simp; exact f0)
          clear hx hbl9 f0
          go_wp2_with fail
          refine (in_any x9 (-65536) 65536 true _ (unhide hd)).mono ?_
          rintro e w9 ⟨rfl, hw0⟩
          have hw1 := hw0.symm
          subst hw1
          go_wp2
          go_round
          case rel => exact ⟨k + 1, by omega, by go_num⟩
          case measure => simp [intOf]; omega
        · have hke : k = 9 := by omega
          subst hke
          clear hk hlt
          have hAl : Hid (Below w1.heap.size w1 (w1.alloc (.cells #[.int .i64 0, .int .i64 0, .int .i64 0] 2))) := hide ((Below.refl _ _).alloc (Nat.le_refl _) _)
          have O0 : Hid (Bx (w1.alloc (.cells #[.int .i64 0, .int .i64 0, .int .i64 0] 2)) w1.heap.size 0 0 0) := hide (Bx.new w1 2 0 0 0)
          have R2 := hide ((unhide R1).below (unhide hAl))
          have I2 := hide ((unhide I1).below (unhide hAl))
          have H2 := hide (laterB (unhide H1) (unhide hAl))
          clear R1 I1 H1 hAl
          go_wp2
          generalize w1.heap.size = g at *
          go_loopw [7] (fun t wr => Hid (Below w.heap.size w wr) ∧ Hid (Bx wr (w.heap.size + 1) 0 0 0) ∧ Hid (Bx wr w.heap.size x y z) ∧ ((t = .int .i64 0 ∧ Hid (Bx wr g 0 0 0)) ∨ (t = .int .i64 1 ∧ Hid (Bx wr g V0 0 0)) ∨ (t = .int .i64 2 ∧ Hid (Bx wr g V0 V1 0)) ∨ (t = .int .i64 3 ∧ Hid (Bx wr g V0 V1 V2)))) (fun t _ => 3 - (intOf t).toNat)
          case atStart => exact ⟨H2, R2, I2, Or.inl ⟨rfl, O0⟩⟩
          case round =>
            clear H2 R2 I2 O0
            obtain ⟨hH, hR, hI, ⟨rfl, hB⟩ | ⟨rfl, hB⟩ | ⟨rfl, hB⟩ | ⟨rfl, hB⟩⟩ := hrel
            · have C := fun j => (bcell (unhide hH)).1 b j hbl
              have y0 : wr.cell? ⟨b, o, none⟩ = some (.int .i64 m0) := (C _).trans d0
              have hp0 := unhide hq00
              have wp0 : IntKind.i64.wrap P00 = P00 := by rw [IntKind.wrap_i64]; omega
              have y1 : wr.cell? ⟨b, o + 1, none⟩ = some (.int .i64 m1) := (C _).trans d1
              have hp1 := unhide hq01
              have wp1 : IntKind.i64.wrap P01 = P01 := by rw [IntKind.wrap_i64]; omega
              have y2 : wr.cell? ⟨b, o + 2, none⟩ = some (.int .i64 m2) := (C _).trans d2
              have hp2 := unhide hq02
              have wp2 : IntKind.i64.wrap P02 = P02 := by rw [IntKind.wrap_i64]; omega
              have ws1 : IntKind.i64.wrap (P00 + P01) = P00 + P01 := by rw [IntKind.wrap_i64]; omega
              have ws2 : IntKind.i64.wrap (P00 + P01 + P02) = P00 + P01 + P02 := by rw [IntKind.wrap_i64]; omega
              clear C
              obtain ⟨i0, i1, i2, fi0, fi1, fi2⟩ := unhide hI
              go_wp2_with fail
              go_quiet ((go_at_call 50; exact Calls.quiet_of_same (srnd_any (P00 + P01 + P02) 4096 (rnd (P00 + P01 + P02) 4096) _ (by omega) (by omega) (by omega) rfl)))
              have hB2 : Hid (Bx (wr.drewN nq) g 0 0 0) := hide ((unhide hB).block rfl)
              have hR2 : Hid (Bx (wr.drewN nq) (w.heap.size + 1) 0 0 0) := hide ((unhide hR).block rfl)
              have hI2 : Hid (Bx (wr.drewN nq) w.heap.size x y z) := hide ((unhide hI).block rfl)
              have hH2 := hide (below_drewN (unhide hH) nq)
              obtain ⟨o0, o1, o2, fo0, fo1, fo2⟩ := unhide hB2
              have hnew := hide ((unhide hB2).set0 V0)
              go_wp2_with fail
              refine (max_any 0 (rnd (P00 + P01 + P02) 4096) (max 0 (rnd (P00 + P01 + P02) 4096)) _ rfl).mono ?_
              rintro e w9 ⟨rfl, hw0⟩
              have hw1 := hw0.symm
              subst hw1
              go_wp2_with fail
              refine (min_any 65535 (max 0 (rnd (P00 + P01 + P02) 4096)) V0 _ (unhide E0)).mono ?_
              rintro e w9 ⟨rfl, hw0⟩
              have hw1 := hw0.symm
              subst hw1
              go_wp2
              go_roundw
              case rel => exact ⟨hide ((unhide hH2).setCell (by simp <;> omega) _), hide ((unhide hR2).other (by omega)), hide ((unhide hI2).other (by omega)), Or.inr (Or.inl ⟨rfl, hnew⟩)⟩
              case measure => simp [intOf]
            · have C := fun j => (bcell (unhide hH)).1 b j hbl
              have y0 : wr.cell? ⟨b, o + 3, none⟩ = some (.int .i64 m3) := (C _).trans d3
              have hp0 := unhide hq10
              have wp0 : IntKind.i64.wrap P10 = P10 := by rw [IntKind.wrap_i64]; omega
              have y1 : wr.cell? ⟨b, o + 4, none⟩ = some (.int .i64 m4) := (C _).trans d4
              have hp1 := unhide hq11
              have wp1 : IntKind.i64.wrap P11 = P11 := by rw [IntKind.wrap_i64]; omega
              have y2 : wr.cell? ⟨b, o + 5, none⟩ = some (.int .i64 m5) := (C _).trans d5
              have hp2 := unhide hq12
              have wp2 : IntKind.i64.wrap P12 = P12 := by rw [IntKind.wrap_i64]; omega
              have ws1 : IntKind.i64.wrap (P10 + P11) = P10 + P11 := by rw [IntKind.wrap_i64]; omega
              have ws2 : IntKind.i64.wrap (P10 + P11 + P12) = P10 + P11 + P12 := by rw [IntKind.wrap_i64]; omega
              clear C
              obtain ⟨i0, i1, i2, fi0, fi1, fi2⟩ := unhide hI
              go_wp2_with fail
              go_quiet ((go_at_call 50; exact Calls.quiet_of_same (srnd_any (P10 + P11 + P12) 4096 (rnd (P10 + P11 + P12) 4096) _ (by omega) (by omega) (by omega) rfl)))
              have hB2 : Hid (Bx (wr.drewN nq) g V0 0 0) := hide ((unhide hB).block rfl)
              have hR2 : Hid (Bx (wr.drewN nq) (w.heap.size + 1) 0 0 0) := hide ((unhide hR).block rfl)
              have hI2 : Hid (Bx (wr.drewN nq) w.heap.size x y z) := hide ((unhide hI).block rfl)
              have hH2 := hide (below_drewN (unhide hH) nq)
              obtain ⟨o0, o1, o2, fo0, fo1, fo2⟩ := unhide hB2
              have hnew := hide ((unhide hB2).set1 V1)
              go_wp2_with fail
              refine (max_any 0 (rnd (P10 + P11 + P12) 4096) (max 0 (rnd (P10 + P11 + P12) 4096)) _ rfl).mono ?_
              rintro e w9 ⟨rfl, hw0⟩
              have hw1 := hw0.symm
              subst hw1
              go_wp2_with fail
              refine (min_any 65535 (max 0 (rnd (P10 + P11 + P12) 4096)) V1 _ (unhide E1)).mono ?_
              rintro e w9 ⟨rfl, hw0⟩
              have hw1 := hw0.symm
              subst hw1
              go_wp2
              go_roundw
              case rel => exact ⟨hide ((unhide hH2).setCell (by simp <;> omega) _), hide ((unhide hR2).other (by omega)), hide ((unhide hI2).other (by omega)), Or.inr (Or.inr (Or.inl ⟨rfl, hnew⟩))⟩
              case measure => simp [intOf]
            · have C := fun j => (bcell (unhide hH)).1 b j hbl
              have y0 : wr.cell? ⟨b, o + 6, none⟩ = some (.int .i64 m6) := (C _).trans d6
              have hp0 := unhide hq20
              have wp0 : IntKind.i64.wrap P20 = P20 := by rw [IntKind.wrap_i64]; omega
              have y1 : wr.cell? ⟨b, o + 7, none⟩ = some (.int .i64 m7) := (C _).trans d7
              have hp1 := unhide hq21
              have wp1 : IntKind.i64.wrap P21 = P21 := by rw [IntKind.wrap_i64]; omega
              have y2 : wr.cell? ⟨b, o + 8, none⟩ = some (.int .i64 m8) := (C _).trans d8
              have hp2 := unhide hq22
              have wp2 : IntKind.i64.wrap P22 = P22 := by rw [IntKind.wrap_i64]; omega
              have ws1 : IntKind.i64.wrap (P20 + P21) = P20 + P21 := by rw [IntKind.wrap_i64]; omega
              have ws2 : IntKind.i64.wrap (P20 + P21 + P22) = P20 + P21 + P22 := by rw [IntKind.wrap_i64]; omega
              clear C
              obtain ⟨i0, i1, i2, fi0, fi1, fi2⟩ := unhide hI
              go_wp2_with fail
              go_quiet ((go_at_call 50; exact Calls.quiet_of_same (srnd_any (P20 + P21 + P22) 4096 (rnd (P20 + P21 + P22) 4096) _ (by omega) (by omega) (by omega) rfl)))
              have hB2 : Hid (Bx (wr.drewN nq) g V0 V1 0) := hide ((unhide hB).block rfl)
              have hR2 : Hid (Bx (wr.drewN nq) (w.heap.size + 1) 0 0 0) := hide ((unhide hR).block rfl)
              have hI2 : Hid (Bx (wr.drewN nq) w.heap.size x y z) := hide ((unhide hI).block rfl)
              have hH2 := hide (below_drewN (unhide hH) nq)
              obtain ⟨o0, o1, o2, fo0, fo1, fo2⟩ := unhide hB2
              have hnew := hide ((unhide hB2).set2 V2)
              go_wp2_with fail
              refine (max_any 0 (rnd (P20 + P21 + P22) 4096) (max 0 (rnd (P20 + P21 + P22) 4096)) _ rfl).mono ?_
              rintro e w9 ⟨rfl, hw0⟩
              have hw1 := hw0.symm
              subst hw1
              go_wp2_with fail
              refine (min_any 65535 (max 0 (rnd (P20 + P21 + P22) 4096)) V2 _ (unhide E2)).mono ?_
              rintro e w9 ⟨rfl, hw0⟩
              have hw1 := hw0.symm
              subst hw1
              go_wp2
              go_roundw
              case rel => exact ⟨hide ((unhide hH2).setCell (by simp <;> omega) _), hide ((unhide hR2).other (by omega)), hide ((unhide hI2).other (by omega)), Or.inr (Or.inr (Or.inr ⟨rfl, hnew⟩))⟩
              case measure => simp [intOf]
            · obtain ⟨o0, o1, o2, fo0, fo1, fo2⟩ := unhide hB
              obtain ⟨r0, r1, r2, fr0, fr1, fr2⟩ := unhide hR
              have hne1 : ¬ (w.heap.size + 1 = g) := by omega
              have hne2 : ¬ (g = w.heap.size + 1) := by omega
              go_wp2_with fail
              go_region_held3 (fun w' => w'.cell? ⟨g, 0, none⟩ = some (.int .i64 V0) ∧ w'.cell? ⟨g, 1, none⟩ = some (.int .i64 V1) ∧ w'.cell? ⟨g, 2, none⟩ = some (.int .i64 V2)) (go_keep) (fail)
              all_goals go_wp2
              all_goals
                refine bodyPost_ret (v := ag3 V0 V1 V2) (by simp [results, Try.results22, go_sem, r0, r1, r2]) rfl ⟨rfl, ?_⟩
                exact ((((unhide hH).setCell (by simp <;> omega) _).setCell (by simp <;> omega) _).setCell (by simp <;> omega) _).drew
    · rw [mat_no (fun h => hM h.1)]
      have hM' := hide hM
      have hS := hide (decide_eq_true hX)
      have hml := unhide hl'
      unfold maxLen at hml
      clear hM hX
      by_cases h9 : l.length = 9
      · have g1 : ((l.length : Int) != 9) = false := by simp; omega
        have h9' := hide h9
        have hle : (l.length : Int) ≤ 9 := by omega
        have hge : (9 : Int) ≤ l.length := by omega
        clear h9
        go_enter Try.func22, Try.ntmps22
        go_wp2_with fail
        refine (sco_any x y z true _ (unhide hS)).mono ?_
        rintro e w1 ⟨rfl, hb1⟩
        have R1 : Hid (Bx w1 (w.heap.size + 1) 0 0 0) := hide (Bx.below (w := (w.alloc (.cells #[.int .i64 x, .int .i64 y, .int .i64 z] 26)).alloc (.cells #[.int .i64 0, .int .i64 0, .int .i64 0] 26)) ⟨by simp [go_sem], by simp [go_sem], by simp [go_sem], by simp [go_sem], by simp [go_sem], by simp [go_sem]⟩ hb1)
        have I1 : Hid (Bx w1 w.heap.size x y z) := hide (Bx.below (w := (w.alloc (.cells #[.int .i64 x, .int .i64 y, .int .i64 z] 26)).alloc (.cells #[.int .i64 0, .int .i64 0, .int .i64 0] 26)) ⟨by simp [go_sem], by simp [go_sem], by simp [go_sem], by simp [go_sem], by simp [go_sem], by simp [go_sem]⟩ hb1)
        have H1 : Hid (Below w.heap.size w w1) := hide ((((Below.refl _ _).alloc (Nat.le_refl _) _).alloc (by simp) _).trans (hb1.mono (by simp; omega)))
        have hs1 : w.heap.size + 1 < w1.heap.size := (unhide R1).lt
        clear hb1
        go_wp2
        go_loop [5] (fun t => ∃ k : Nat, k ≤ 9 ∧ t = .int .i64 k ∧ Hid (NsPre MfOk l k)) (fun t => 9 - (intOf t).toNat)
        case atStart => exact ⟨0, by omega, rfl, hide (NsPre.zero _ l)⟩
        case round =>
          obtain ⟨k, hk, rfl, hA⟩ := hrel
          by_cases hlt : k < 9
          · obtain ⟨b9, o9, x9, rfl, hx, hbl9, c9⟩ := ins_at (unhide hk') (unhide H1) (show k < l.length by omega)
            have hx' := hide hx
            clear hx hbl9
            by_cases f0 : MfOk x9
            · have hd := hide (show (decide (-65536 ≤ x9) && decide (x9 ≤ 65536)) = true by simp; exact f0)
              have hnew := hide ((unhide hA).step (unhide hx') f0)
              clear f0 hA
              go_wp2_with fail
              refine (in_any x9 (-65536) 65536 true _ (unhide hd)).mono ?_
              rintro e w9 ⟨rfl, hw0⟩
              have hw1 := hw0.symm
              subst hw1
              go_wp2
              go_round
              case rel => exact ⟨k + 1, by omega, by go_num, hnew⟩
              case measure => simp [intOf]; omega
            · have hd := hide (show (decide (-65536 ≤ x9) && decide (x9 ≤ 65536)) = false by rw [Bool.eq_false_iff]; intro h; simp at h; exact f0 h)
              clear f0 hA
              obtain ⟨r0, r1, r2, fr0, fr1, fr2⟩ := unhide R1
              go_wp2_with fail
              refine (in_any x9 (-65536) 65536 false _ (unhide hd)).mono ?_
              rintro e w9 ⟨rfl, hw0⟩
              have hw1 := hw0.symm
              subst hw1
              go_wp2
              refine bodyPost_ret (v := ag3 0 0 0) (by simp [results, Try.results22, go_sem, r0, r1, r2]) rfl ⟨rfl, ?_⟩
              exact (((unhide H1).setCell (by simp <;> omega) _).setCell (by simp <;> omega) _).setCell (by simp <;> omega) _
          · have hke : k = l.length := by have := unhide h9'; omega
            exact absurd (mat_all (unhide h9') (by have := unhide hA; rw [hke] at this; exact this)) (unhide hM')
      · have g1 : ((l.length : Int) != 9) = true := by simp; omega
        clear h9
        go_enter Try.func22, Try.ntmps22
        go_wp2_with fail
        refine (sco_any x y z true _ (unhide hS)).mono ?_
        rintro e w1 ⟨rfl, hb1⟩
        have R1 : Hid (Bx w1 (w.heap.size + 1) 0 0 0) := hide (Bx.below (w := (w.alloc (.cells #[.int .i64 x, .int .i64 y, .int .i64 z] 26)).alloc (.cells #[.int .i64 0, .int .i64 0, .int .i64 0] 26)) ⟨by simp [go_sem], by simp [go_sem], by simp [go_sem], by simp [go_sem], by simp [go_sem], by simp [go_sem]⟩ hb1)
        have I1 : Hid (Bx w1 w.heap.size x y z) := hide (Bx.below (w := (w.alloc (.cells #[.int .i64 x, .int .i64 y, .int .i64 z] 26)).alloc (.cells #[.int .i64 0, .int .i64 0, .int .i64 0] 26)) ⟨by simp [go_sem], by simp [go_sem], by simp [go_sem], by simp [go_sem], by simp [go_sem], by simp [go_sem]⟩ hb1)
        have H1 : Hid (Below w.heap.size w w1) := hide ((((Below.refl _ _).alloc (Nat.le_refl _) _).alloc (by simp) _).trans (hb1.mono (by simp; omega)))
        have hs1 : w.heap.size + 1 < w1.heap.size := (unhide R1).lt
        clear hb1
        obtain ⟨r0, r1, r2, fr0, fr1, fr2⟩ := unhide R1
        go_wp2
        refine bodyPost_ret (v := ag3 0 0 0) (by simp [results, Try.results22, go_sem, r0, r1, r2]) rfl ⟨rfl, ?_⟩
        exact (((unhide H1).setCell (by simp <;> omega) _).setCell (by simp <;> omega) _).setCell (by simp <;> omega) _
  · rw [mat_no (fun h => hX h.2)]
    have hS := hide (decide_eq_false hX)
    clear hX
    go_enter Try.func22, Try.ntmps22
    go_wp2_with fail
    refine (sco_any x y z false _ (unhide hS)).mono ?_
    rintro e w1 ⟨rfl, hb1⟩
    have R1 : Hid (Bx w1 (w.heap.size + 1) 0 0 0) := hide (Bx.below (w := (w.alloc (.cells #[.int .i64 x, .int .i64 y, .int .i64 z] 26)).alloc (.cells #[.int .i64 0, .int .i64 0, .int .i64 0] 26)) ⟨by simp [go_sem], by simp [go_sem], by simp [go_sem], by simp [go_sem], by simp [go_sem], by simp [go_sem]⟩ hb1)
    have I1 : Hid (Bx w1 w.heap.size x y z) := hide (Bx.below (w := (w.alloc (.cells #[.int .i64 x, .int .i64 y, .int .i64 z] 26)).alloc (.cells #[.int .i64 0, .int .i64 0, .int .i64 0] 26)) ⟨by simp [go_sem], by simp [go_sem], by simp [go_sem], by simp [go_sem], by simp [go_sem], by simp [go_sem]⟩ hb1)
    have H1 : Hid (Below w.heap.size w w1) := hide ((((Below.refl _ _).alloc (Nat.le_refl _) _).alloc (by simp) _).trans (hb1.mono (by simp; omega)))
    have hs1 : w.heap.size + 1 < w1.heap.size := (unhide R1).lt
    clear hb1
    obtain ⟨r0, r1, r2, fr0, fr1, fr2⟩ := unhide R1
    go_wp2
    refine bodyPost_ret (v := ag3 0 0 0) (by simp [results, Try.results22, go_sem, r0, r1, r2]) rfl ⟨rfl, ?_⟩
    exact (((unhide H1).setCell (by simp <;> omega) _).setCell (by simp <;> omega) _).setCell (by simp <;> omega) _
end Go.Proofs.Ytdmcbdogpeidjaa
