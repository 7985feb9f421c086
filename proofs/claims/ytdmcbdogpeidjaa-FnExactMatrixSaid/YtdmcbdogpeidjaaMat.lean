/-
  Contracts of the program's Matrix; nothing that was there is written.
-/
import Derived.Test.YtdmcbdogpeidjaaTri2
namespace Go.Proofs.Ytdmcbdogpeidjaa
open Go.RowKit
set_option linter.unusedVariables false
set_option linter.unusedSimpArgs false

def MfOk (x : Int) : Prop := -65536 ≤ x ∧ x ≤ 65536
theorem mat_all {t : List Int} (h1 : t.length = 9) (h : NsPre MfOk t t.length) : MatOk t := ⟨h1, h.all⟩
theorem matno {t : List Int} {j : Nat} {x : Int} (hj : t[j]? = some x) (h : ¬ MfOk x) : ¬ MatOk t := fun H => h (H.2 x (List.mem_of_getElem? hj))
theorem nine {t : List Int} (h : t.length = 9) : ∃ m0 m1 m2 m3 m4 m5 m6 m7 m8, t = [m0, m1, m2, m3, m4, m5, m6, m7, m8] := by
  match t, h with
  | [m0, m1, m2, m3, m4, m5, m6, m7, m8], _ => exact ⟨_, _, _, _, _, _, _, _, _, rfl⟩
theorem mp_bd {m x : Int} (hm : MfOk m) (hx : LvOk x) : -4294967296 ≤ m * x ∧ m * x ≤ 4294967296 := by
  have := mul_bd (a := 65536) (b := 65536) hm (show -65536 ≤ x ∧ x ≤ 65536 by unfold LvOk at hx; omega)
  omega
/-- the nine cells -/
theorem ins9 {w : World} {a : Option Addr} {m0 m1 m2 m3 m4 m5 m6 m7 m8 : Int} (h : Ins w a [m0, m1, m2, m3, m4, m5, m6, m7, m8]) : ∃ b o, a = some ⟨b, o, none⟩ ∧ b < w.heap.size ∧ w.cell? ⟨b, o, none⟩ = some (.int .i64 m0) ∧ w.cell? ⟨b, o + 1, none⟩ = some (.int .i64 m1) ∧ w.cell? ⟨b, o + 2, none⟩ = some (.int .i64 m2) ∧ w.cell? ⟨b, o + 3, none⟩ = some (.int .i64 m3) ∧ w.cell? ⟨b, o + 4, none⟩ = some (.int .i64 m4) ∧ w.cell? ⟨b, o + 5, none⟩ = some (.int .i64 m5) ∧ w.cell? ⟨b, o + 6, none⟩ = some (.int .i64 m6) ∧ w.cell? ⟨b, o + 7, none⟩ = some (.int .i64 m7) ∧ w.cell? ⟨b, o + 8, none⟩ = some (.int .i64 m8) := by
  obtain ⟨b, o, rfl, i0, c0⟩ := h 0 _ rfl
  have H : ∀ j x, [m0, m1, m2, m3, m4, m5, m6, m7, m8][j]? = some x → w.cell? ⟨b, o + j, none⟩ = some (.int .i64 x) := fun j x hx => by
    obtain ⟨b', o', e, _, c⟩ := h j x hx
    injection e with e
    injection e with e1 e2
    subst e1 e2
    exact c
  exact ⟨b, o, rfl, i0, H 0 _ rfl, H 1 _ rfl, H 2 _ rfl, H 3 _ rfl, H 4 _ rfl, H 5 _ rfl, H 6 _ rfl, H 7 _ rfl, H 8 _ rfl⟩
set_option maxHeartbeats 1600000 in
theorem imatok_any (a : Option Addr) (cap : Nat) (l : List Int) (v : Bool) (w : World) (hl : l.length ≤ maxLen) (hk : Ins w a l) (hv : v = true ↔ MatOk l) :
    Calls Try.prog 58 #[.slice a l.length cap] w fun e w' => e = .returned (.bool v) ∧ w' = w := by
  have hk' := hide hk
  have hv' := hide hv
  clear hk hv
  unfold maxLen at hl
  by_cases h1 : l.length = 9
  · have g1 : ((l.length : Int) != 9) = false := by simp; omega
    have h1' := hide h1
    have hle : l.length ≤ 9 := by omega
    clear h1
    go_enter Try.func58, Try.ntmps58
    go_wp2
    go_loop [10] (fun t => ∃ k : Nat, k ≤ l.length ∧ t = .int .i64 k ∧ Hid (NsPre MfOk l k)) (fun t => l.length - (intOf t).toNat)
    case atStart => exact ⟨0, by omega, rfl, hide (NsPre.zero _ l)⟩
    case round =>
      obtain ⟨k, hk, rfl, hA⟩ := hrel
      by_cases hlt : k < l.length
      · obtain ⟨b, o, x, rfl, hx, hbl, c0⟩ := ins_at (unhide hk') (Below.refl _ _) hlt
        have hx' := hide hx
        clear hx hbl
        by_cases f0 : x < -65536
        · have d0 : decide (x < -65536) = true := by simpa using f0
          have hno : v = false := by cases v with | false => rfl | true => exact absurd ((unhide hv').1 rfl) (matno (unhide hx') (fun h => by have := h.1; omega))
          subst hno
          clear f0 hA
          go_wp2
          go_ret
          exact ⟨rfl, rfl⟩
        · have d0 : decide (x < -65536) = false := by simpa using f0
          by_cases f1 : 65536 < x
          · have d1 : decide (65536 < x) = true := by simpa using f1
            have hno : v = false := by cases v with | false => rfl | true => exact absurd ((unhide hv').1 rfl) (matno (unhide hx') (fun h => by have := h.2; omega))
            subst hno
            clear f0 f1 hA
            go_wp2
            go_ret
            exact ⟨rfl, rfl⟩
          · have d1 : decide (65536 < x) = false := by simpa using f1
            have hnew := hide ((unhide hA).step (unhide hx') (show MfOk x from ⟨by omega, by omega⟩))
            clear f0 f1 hA
            go_wp2
            go_round
            case rel => exact ⟨k + 1, by omega, by go_num, hnew⟩
            case measure => simp [intOf]; omega
      · have hke : k = l.length := by omega
        have hyes : v = true := (unhide hv').2 (mat_all (unhide h1') (by have := unhide hA; rw [hke] at this; exact this))
        subst hyes
        clear hA
        go_wp2
        go_ret
        exact ⟨rfl, rfl⟩
  · have hno : v = false := by cases v with | false => rfl | true => exact absurd ((unhide hv').1 rfl).1 h1
    subst hno
    have g1 : ((l.length : Int) != 9) = true := by simp; omega
    clear h1
    go_enter Try.func58, Try.ntmps58
    go_wp2
    go_ret
    exact ⟨rfl, rfl⟩

set_option maxHeartbeats 6400000 in
theorem imat_any (a : Option Addr) (cap : Nat) (l : List Int) (x y z : Int) (w : World) (hl : l.length ≤ maxLen) (hk : Ins w a l) :
    Calls Try.prog 25 #[.slice a l.length cap, ag3 x y z] w fun e w' => e = .returned (kv (matOf l (x, y, z))) ∧ Below w.heap.size w w' := by
  have hk' := hide hk
  have hl' := hide hl
  clear hk hl
  by_cases hM : MatOk l
  · by_cases hX : CoOk (x, y, z)
    · rw [mat_yes hM hX]
      have hM' := hide hM
      have hX' := hide hX
      have hS := hide (decide_eq_true hX)
      obtain ⟨m0, m1, m2, m3, m4, m5, m6, m7, m8, rfl⟩ := nine hM.1
      obtain ⟨b, o, rfl, hbl, d0, d1, d2, d3, d4, d5, d6, d7, d8⟩ := ins9 (unhide hk')
      obtain ⟨X0, Y0, Z0⟩ := hX
      simp only at X0 Y0 Z0
      have B := hM.2
      have b00 := mp_bd (m := m0) (x := x) (B _ (by simp)) X0
      have b01 := mp_bd (m := m1) (x := y) (B _ (by simp)) Y0
      have b02 := mp_bd (m := m2) (x := z) (B _ (by simp)) Z0
      have b10 := mp_bd (m := m3) (x := x) (B _ (by simp)) X0
      have b11 := mp_bd (m := m4) (x := y) (B _ (by simp)) Y0
      have b12 := mp_bd (m := m5) (x := z) (B _ (by simp)) Z0
      have b20 := mp_bd (m := m6) (x := x) (B _ (by simp)) X0
      have b21 := mp_bd (m := m7) (x := y) (B _ (by simp)) Y0
      have b22 := mp_bd (m := m8) (x := z) (B _ (by simp)) Z0
      obtain ⟨V0, hV0⟩ : ∃ V, mnum [m0, m1, m2, m3, m4, m5, m6, m7, m8] (x, y, z) 0 = V := ⟨_, rfl⟩
      have e0 : clF (rnd (m0 * x + m1 * y + m2 * z) 4096) = V0 := hV0
      obtain ⟨V1, hV1⟩ : ∃ V, mnum [m0, m1, m2, m3, m4, m5, m6, m7, m8] (x, y, z) 1 = V := ⟨_, rfl⟩
      have e1 : clF (rnd (m3 * x + m4 * y + m5 * z) 4096) = V1 := hV1
      obtain ⟨V2, hV2⟩ : ∃ V, mnum [m0, m1, m2, m3, m4, m5, m6, m7, m8] (x, y, z) 2 = V := ⟨_, rfl⟩
      have e2 : clF (rnd (m6 * x + m7 * y + m8 * z) 4096) = V2 := hV2
      rw [hV0, hV1, hV2]
      clear hM hV0 hV1 hV2 B
      generalize hp00 : m0 * x = P00 at *
      have hq00 := hide hp00
      obtain ⟨l00, u00⟩ := b00
      clear hp00
      generalize hp01 : m1 * y = P01 at *
      have hq01 := hide hp01
      obtain ⟨l01, u01⟩ := b01
      clear hp01
      generalize hp02 : m2 * z = P02 at *
      have hq02 := hide hp02
      obtain ⟨l02, u02⟩ := b02
      clear hp02
      generalize hp10 : m3 * x = P10 at *
      have hq10 := hide hp10
      obtain ⟨l10, u10⟩ := b10
      clear hp10
      generalize hp11 : m4 * y = P11 at *
      have hq11 := hide hp11
      obtain ⟨l11, u11⟩ := b11
      clear hp11
      generalize hp12 : m5 * z = P12 at *
      have hq12 := hide hp12
      obtain ⟨l12, u12⟩ := b12
      clear hp12
      generalize hp20 : m6 * x = P20 at *
      have hq20 := hide hp20
      obtain ⟨l20, u20⟩ := b20
      clear hp20
      generalize hp21 : m7 * y = P21 at *
      have hq21 := hide hp21
      obtain ⟨l21, u21⟩ := b21
      clear hp21
      generalize hp22 : m8 * z = P22 at *
      have hq22 := hide hp22
      obtain ⟨l22, u22⟩ := b22
      clear hp22
      have E0 := hide e0
      have E1 := hide e1
      have E2 := hide e2
      clear e0 e1 e2
      obtain ⟨ix0, ix1, ix2⟩ := ix3 x y z
      go_enter Try.func25, Try.ntmps25
      go_wp2_with fail
      refine (imatok_any (some ⟨b, o, none⟩) cap [m0, m1, m2, m3, m4, m5, m6, m7, m8] true _ (unhide hl') ((unhide hk').below (((Below.refl _ _).alloc (Nat.le_refl _) _).alloc (by simp) _)) ⟨fun _ => unhide hM', fun _ => rfl⟩).mono ?_
      rintro e w9 ⟨rfl, hw0⟩
      have hw1 := hw0.symm
      subst hw1
      go_wp2_with fail
      refine (ico_any x y z true _ (unhide hS)).mono ?_
      rintro e w1 ⟨rfl, hb1⟩
      have hcx : w1.cell? ⟨w.heap.size, 0, none⟩ = some (.int .i64 x) := by rw [(bcell hb1).1 _ _ (by simp; omega)]; simp [go_sem]
      have hcy : w1.cell? ⟨w.heap.size, 1, none⟩ = some (.int .i64 y) := by rw [(bcell hb1).1 _ _ (by simp; omega)]; simp [go_sem]
      have hcz : w1.cell? ⟨w.heap.size, 2, none⟩ = some (.int .i64 z) := by rw [(bcell hb1).1 _ _ (by simp; omega)]; simp [go_sem]
      have R1 : Bx w1 (w.heap.size + 1) 0 0 0 := Bx.below (w := (w.alloc (.cells #[.int .i64 x, .int .i64 y, .int .i64 z] 26)).alloc (.cells #[.int .i64 0, .int .i64 0, .int .i64 0] 26)) ⟨by simp [go_sem], by simp [go_sem], by simp [go_sem], by simp [go_sem], by simp [go_sem], by simp [go_sem]⟩ hb1
      have R1' := hide R1
      have H1 : Hid (Below w.heap.size w w1) := hide ((((Below.refl _ _).alloc (Nat.le_refl _) _).alloc (by simp) _).trans (hb1.mono (by simp; omega)))
      clear hb1 R1
      go_wp2_with fail
      refine (tri_any x y z _).mono ?_
      rintro e w2 ⟨rfl, hb2⟩
      have R2 := hide ((unhide R1').below hb2)
      have H2 := hide (laterB (unhide H1) hb2)
      have hs2 : w.heap.size + 1 < w2.heap.size := (unhide R2).lt
      clear hb2 R1' H1 hcx hcy hcz
      have hAl : Hid (Below w2.heap.size w2 ((w2.alloc (.cells #[.int .i64 x, .int .i64 y, .int .i64 z] 62)).alloc (.cells #[.int .i64 0, .int .i64 0, .int .i64 0] 62))) := hide (((Below.refl _ _).alloc (Nat.le_refl _) _).alloc (by simp) _)
      have I0 : Hid (Bx ((w2.alloc (.cells #[.int .i64 x, .int .i64 y, .int .i64 z] 62)).alloc (.cells #[.int .i64 0, .int .i64 0, .int .i64 0] 62)) w2.heap.size x y z) := hide ⟨by simp [go_sem], by simp [go_sem], by simp [go_sem], by simp [go_sem], by simp [go_sem], by simp [go_sem]⟩
      have O0 : Hid (Bx ((w2.alloc (.cells #[.int .i64 x, .int .i64 y, .int .i64 z] 62)).alloc (.cells #[.int .i64 0, .int .i64 0, .int .i64 0] 62)) (w2.heap.size + 1) 0 0 0) := hide ⟨by simp [go_sem], by simp [go_sem], by simp [go_sem], by simp [go_sem], by simp [go_sem], by simp [go_sem]⟩
      have R3 := hide ((unhide R2).below (unhide hAl))
      have H3 := hide (laterB (unhide H2) (unhide hAl))
      clear R2 H2 hAl
      go_wp2
      generalize w2.heap.size = g at *
      go_loopw [23] (fun t wr => Hid (Below w.heap.size w wr) ∧ Hid (Bx wr (w.heap.size + 1) 0 0 0) ∧ Hid (Bx wr g x y z) ∧ ((t = .int .i64 0 ∧ Hid (Bx wr (g + 1) 0 0 0)) ∨ (t = .int .i64 1 ∧ Hid (Bx wr (g + 1) V0 0 0)) ∨ (t = .int .i64 2 ∧ Hid (Bx wr (g + 1) V0 V1 0)) ∨ (t = .int .i64 3 ∧ Hid (Bx wr (g + 1) V0 V1 V2)))) (fun t _ => 3 - (intOf t).toNat)
      case atStart => exact ⟨H3, R3, I0, Or.inl ⟨rfl, O0⟩⟩
      case round =>
        clear H3 R3 I0 O0
        obtain ⟨hH, hR, hI, ⟨rfl, hB⟩ | ⟨rfl, hB⟩ | ⟨rfl, hB⟩ | ⟨rfl, hB⟩⟩ := hrel
        · have C := fun j => (bcell (unhide hH)).1 b j hbl
          have y0 : wr.cell? ⟨b, o, none⟩ = some (.int .i64 m0) := (C _).trans d0
          have y1 : wr.cell? ⟨b, o + 1, none⟩ = some (.int .i64 m1) := (C _).trans d1
          have y2 : wr.cell? ⟨b, o + 2, none⟩ = some (.int .i64 m2) := (C _).trans d2
          clear C
          obtain ⟨i0, i1, i2, fi0, fi1, fi2⟩ := unhide hI
          obtain ⟨o0, o1, o2, fo0, fo1, fo2⟩ := unhide hB
          have hnew := hide ((unhide hB).set0 V0)
          go_wp2
          go_loop [8, 27] (fun s t => (t = .int .i64 0 ∧ s = .int .i64 0) ∨ (t = .int .i64 1 ∧ s = .int .i64 P00) ∨ (t = .int .i64 2 ∧ s = .int .i64 (P00 + P01)) ∨ (t = .int .i64 3 ∧ s = .int .i64 (P00 + P01 + P02))) (fun _ t => 3 - (intOf t).toNat)
          case atStart => exact Or.inl ⟨rfl, rfl⟩
          case round =>
            rcases hrel with ⟨rfl, rfl⟩ | ⟨rfl, rfl⟩ | ⟨rfl, rfl⟩ | ⟨rfl, rfl⟩
            · have hp := unhide hq00
              go_wp2
              go_round
              case rel => exact Or.inr (Or.inl ⟨rfl, rfl⟩)
              case measure => simp [intOf]
            · have hp := unhide hq01
              go_wp2
              go_round
              case rel => exact Or.inr (Or.inr (Or.inl ⟨rfl, rfl⟩))
              case measure => simp [intOf]
            · have hp := unhide hq02
              go_wp2
              go_round
              case rel => exact Or.inr (Or.inr (Or.inr ⟨rfl, rfl⟩))
              case measure => simp [intOf]
            · go_wp2_with fail
              refine (irnd_any (P00 + P01 + P02) 4096 (rnd (P00 + P01 + P02) 4096) _ (by omega) (by omega) (by omega) rfl).mono ?_
              rintro e w9 ⟨rfl, hw0⟩
              have hw1 := hw0.symm
              subst hw1
              have hE : min (max (rnd (P00 + P01 + P02) 4096) 0) 65535 = V0 := by rw [← unhide E0]; unfold clF; omega
              go_wp2
              go_roundw
              case rel => exact ⟨hide ((unhide hH).setCell (by simp <;> omega) _), hide ((unhide hR).other (by omega)), hide ((unhide hI).other (by omega)), Or.inr (Or.inl ⟨rfl, hnew⟩)⟩
              case measure => simp [intOf]
        · have C := fun j => (bcell (unhide hH)).1 b j hbl
          have y0 : wr.cell? ⟨b, o + 3, none⟩ = some (.int .i64 m3) := (C _).trans d3
          have y1 : wr.cell? ⟨b, o + 4, none⟩ = some (.int .i64 m4) := (C _).trans d4
          have y2 : wr.cell? ⟨b, o + 5, none⟩ = some (.int .i64 m5) := (C _).trans d5
          clear C
          obtain ⟨i0, i1, i2, fi0, fi1, fi2⟩ := unhide hI
          obtain ⟨o0, o1, o2, fo0, fo1, fo2⟩ := unhide hB
          have hnew := hide ((unhide hB).set1 V1)
          go_wp2
          go_loop [8, 27] (fun s t => (t = .int .i64 0 ∧ s = .int .i64 0) ∨ (t = .int .i64 1 ∧ s = .int .i64 P10) ∨ (t = .int .i64 2 ∧ s = .int .i64 (P10 + P11)) ∨ (t = .int .i64 3 ∧ s = .int .i64 (P10 + P11 + P12))) (fun _ t => 3 - (intOf t).toNat)
          case atStart => exact Or.inl ⟨rfl, rfl⟩
          case round =>
            rcases hrel with ⟨rfl, rfl⟩ | ⟨rfl, rfl⟩ | ⟨rfl, rfl⟩ | ⟨rfl, rfl⟩
            · have hp := unhide hq10
              go_wp2
              go_round
              case rel => exact Or.inr (Or.inl ⟨rfl, rfl⟩)
              case measure => simp [intOf]
            · have hp := unhide hq11
              go_wp2
              go_round
              case rel => exact Or.inr (Or.inr (Or.inl ⟨rfl, rfl⟩))
              case measure => simp [intOf]
            · have hp := unhide hq12
              go_wp2
              go_round
              case rel => exact Or.inr (Or.inr (Or.inr ⟨rfl, rfl⟩))
              case measure => simp [intOf]
            · go_wp2_with fail
              refine (irnd_any (P10 + P11 + P12) 4096 (rnd (P10 + P11 + P12) 4096) _ (by omega) (by omega) (by omega) rfl).mono ?_
              rintro e w9 ⟨rfl, hw0⟩
              have hw1 := hw0.symm
              subst hw1
              have hE : min (max (rnd (P10 + P11 + P12) 4096) 0) 65535 = V1 := by rw [← unhide E1]; unfold clF; omega
              go_wp2
              go_roundw
              case rel => exact ⟨hide ((unhide hH).setCell (by simp <;> omega) _), hide ((unhide hR).other (by omega)), hide ((unhide hI).other (by omega)), Or.inr (Or.inr (Or.inl ⟨rfl, hnew⟩))⟩
              case measure => simp [intOf]
        · have C := fun j => (bcell (unhide hH)).1 b j hbl
          have y0 : wr.cell? ⟨b, o + 6, none⟩ = some (.int .i64 m6) := (C _).trans d6
          have y1 : wr.cell? ⟨b, o + 7, none⟩ = some (.int .i64 m7) := (C _).trans d7
          have y2 : wr.cell? ⟨b, o + 8, none⟩ = some (.int .i64 m8) := (C _).trans d8
          clear C
          obtain ⟨i0, i1, i2, fi0, fi1, fi2⟩ := unhide hI
          obtain ⟨o0, o1, o2, fo0, fo1, fo2⟩ := unhide hB
          have hnew := hide ((unhide hB).set2 V2)
          go_wp2
          go_loop [8, 27] (fun s t => (t = .int .i64 0 ∧ s = .int .i64 0) ∨ (t = .int .i64 1 ∧ s = .int .i64 P20) ∨ (t = .int .i64 2 ∧ s = .int .i64 (P20 + P21)) ∨ (t = .int .i64 3 ∧ s = .int .i64 (P20 + P21 + P22))) (fun _ t => 3 - (intOf t).toNat)
          case atStart => exact Or.inl ⟨rfl, rfl⟩
          case round =>
            rcases hrel with ⟨rfl, rfl⟩ | ⟨rfl, rfl⟩ | ⟨rfl, rfl⟩ | ⟨rfl, rfl⟩
            · have hp := unhide hq20
              go_wp2
              go_round
              case rel => exact Or.inr (Or.inl ⟨rfl, rfl⟩)
              case measure => simp [intOf]
            · have hp := unhide hq21
              go_wp2
              go_round
              case rel => exact Or.inr (Or.inr (Or.inl ⟨rfl, rfl⟩))
              case measure => simp [intOf]
            · have hp := unhide hq22
              go_wp2
              go_round
              case rel => exact Or.inr (Or.inr (Or.inr ⟨rfl, rfl⟩))
              case measure => simp [intOf]
            · go_wp2_with fail
              refine (irnd_any (P20 + P21 + P22) 4096 (rnd (P20 + P21 + P22) 4096) _ (by omega) (by omega) (by omega) rfl).mono ?_
              rintro e w9 ⟨rfl, hw0⟩
              have hw1 := hw0.symm
              subst hw1
              have hE : min (max (rnd (P20 + P21 + P22) 4096) 0) 65535 = V2 := by rw [← unhide E2]; unfold clF; omega
              go_wp2
              go_roundw
              case rel => exact ⟨hide ((unhide hH).setCell (by simp <;> omega) _), hide ((unhide hR).other (by omega)), hide ((unhide hI).other (by omega)), Or.inr (Or.inr (Or.inr ⟨rfl, hnew⟩))⟩
              case measure => simp [intOf]
        · obtain ⟨o0, o1, o2, fo0, fo1, fo2⟩ := unhide hB
          go_wp2_with fail
          refine (colour_any V0 V1 V2 _).mono ?_
          rintro e w3 ⟨rfl, hb3⟩
          obtain ⟨r0, r1, r2, fr0, fr1, fr2⟩ := (unhide hR).below hb3
          have H4 := hide (laterB (unhide hH) hb3)
          clear hb3
          go_wp2
          refine bodyPost_ret (v := ag3 V0 V1 V2) (by simp [results, Try.results25, go_sem, r0, r1, r2]) rfl ⟨rfl, ?_⟩
          exact (((unhide H4).setCell (by simp <;> omega) _).setCell (by simp <;> omega) _).setCell (by simp <;> omega) _
    · rw [mat_no (fun h => hX h.2)]
      have hM' := hide hM
      have hS := hide (decide_eq_false hX)
      clear hM hX
      go_enter Try.func25, Try.ntmps25
      go_wp2_with fail
      refine (imatok_any a cap l true _ (unhide hl') ((unhide hk').below (((Below.refl _ _).alloc (Nat.le_refl _) _).alloc (by simp) _)) ⟨fun _ => unhide hM', fun _ => rfl⟩).mono ?_
      rintro e w9 ⟨rfl, hw0⟩
      have hw1 := hw0.symm
      subst hw1
      go_wp2_with fail
      refine (ico_any x y z false _ (unhide hS)).mono ?_
      rintro e w1 ⟨rfl, hb1⟩
      obtain ⟨r0, r1, r2, fr0, fr1, fr2⟩ : Bx w1 (w.heap.size + 1) 0 0 0 := Bx.below (w := (w.alloc (.cells #[.int .i64 x, .int .i64 y, .int .i64 z] 26)).alloc (.cells #[.int .i64 0, .int .i64 0, .int .i64 0] 26)) ⟨by simp [go_sem], by simp [go_sem], by simp [go_sem], by simp [go_sem], by simp [go_sem], by simp [go_sem]⟩ hb1
      have H1 : Hid (Below w.heap.size w w1) := hide ((((Below.refl _ _).alloc (Nat.le_refl _) _).alloc (by simp) _).trans (hb1.mono (by simp; omega)))
      clear hb1
      go_wp2
      refine bodyPost_ret (v := ag3 0 0 0) (by simp [results, Try.results25, go_sem, r0, r1, r2]) rfl ⟨rfl, ?_⟩
      exact (((unhide H1).setCell (by simp <;> omega) _).setCell (by simp <;> omega) _).setCell (by simp <;> omega) _
  · rw [mat_no (fun h => hM h.1)]
    have hM' := hide hM
    clear hM
    go_enter Try.func25, Try.ntmps25
    go_wp2_with fail
    refine (imatok_any a cap l false _ (unhide hl') ((unhide hk').below (((Below.refl _ _).alloc (Nat.le_refl _) _).alloc (by simp) _)) ⟨(fun h => by cases h), fun h => absurd h (unhide hM')⟩).mono ?_
    rintro e w9 ⟨rfl, hw0⟩
    have hw1 := hw0.symm
    subst hw1
    go_wp2
    refine bodyPost_ret (v := ag3 0 0 0) (by simp [results, Try.results25, go_sem]) rfl ⟨rfl, ?_⟩
    exact (((Below.refl _ _).alloc (Nat.le_refl _) _).alloc (by simp) _)
end Go.Proofs.Ytdmcbdogpeidjaa
