/-
  For every list of bytes: what is put over the track that is drawn of them is seen from there on as long as it is, and nothing else is changed; no conditions.
-/
import Derived.Test.YtnmahojdaodlgaaDrI
import Derived.Test.YtnmahojdaodlgaaFacOvr
namespace Go.Proofs.Ytnmahojdaodlgaa
open Go.RowKit
set_option linter.unusedVariables false
set_option linter.unusedSimpArgs false

theorem over_u {l u : List Kl} {t x y z : Int} (h : overS l t (x, y, z) = some u) : u.length ≤ 300 ∧ lenOf l = clen l ∧ lenOf u = max (clen l) (t + z) ∧ 0 ≤ clen l ∧ clen l ≤ 10000000 ∧ 0 ≤ t ∧ t ≤ 10000000 ∧ 1 ≤ z ∧ z ≤ 10000000 ∧ 0 ≤ y ∧ y ≤ 10000000 ∧ 0 ≤ x := by
  obtain ⟨h1, ⟨a1, a2, a3, a4, a5⟩, ⟨r1, r2⟩, h3, h4, _⟩ := over_sees h
  have h5 := h1.2.2
  have h6 := clen_nonneg h1.2.1
  simp only at a1 a2 a3 a4 a5
  refine ⟨h3.1, if_pos h1, ?_, h6, h5, r1, by omega, a1, a2, a3, by omega, by omega⟩
  unfold lenOf
  rw [if_pos h3, h4]

set_option maxRecDepth 10000 in
set_option maxHeartbeats 3200000 in
theorem lawOv {W : World} (a : Option Addr) (len cap : Nat) (hr : RdB W W.heap.size a len) :
    Calls Try.prog 5 #[.slice a len cap] W fun e w' => e = .returned (.bool true) ∧ Below W.heap.size W w' := by
  have hr' := hide hr
  clear hr
  by_cases hbig : (4096 : Int) < len
  · have hb' := hide (decide_eq_true hbig)
    clear hbig
    go_enter Try.func5, Try.ntmps5
    go_wp2_with fail
    refine (big_any a len cap true _ (unhide hb')).mono ?_
    rintro e w0 ⟨rfl, hw0⟩
    have hw1 := hw0.symm
    subst hw1
    go_wp2
    go_ret
    exact ⟨rfl, Below.refl _ _⟩
  have hb' := hide (decide_eq_false hbig)
  have hl : len ≤ 4096 := by omega
  clear hbig
  go_enter Try.func5, Try.ntmps5
  go_wp2_with fail
  refine (big_any a len cap false _ (unhide hb')).mono ?_
  rintro e w0 ⟨rfl, hw0⟩
  have hw1 := hw0.symm
  subst hw1
  clear hb'
  go_wp2_with fail
  refine (dovr_any a len cap _ hl (unhide hr')).mono ?_
  rintro e w1 ⟨G, c, L, t, x, y, z, rfl, hL, ho, hb⟩
  obtain ⟨V, hV⟩ : ∃ V, V = w1.alloc (.cells #[.int .i64 x, .int .i64 y, .int .i64 z] 26) := ⟨_, rfl⟩
  have hAl : Below w1.heap.size w1 V := by rw [hV]; exact (Below.refl _ _).alloc (Nat.le_refl _) _
  have d0 : V.cell? ⟨w1.heap.size, 0, none⟩ = some (.int .i64 x) := by rw [hV]; simp [go_sem]
  have d1 : V.cell? ⟨w1.heap.size, 1, none⟩ = some (.int .i64 y) := by rw [hV]; simp [go_sem]
  have d2 : V.cell? ⟨w1.heap.size, 2, none⟩ = some (.int .i64 z) := by rw [hV]; simp [go_sem]
  have oL := hide (ownsRow_below (own_mono ho (Nat.zero_le _)) hAl)
  have HV := hide (laterB hb hAl)
  have hmx : L.length ≤ maxLen := by unfold maxLen; omega
  have hV' := hide hV
  clear ho hb hr' hAl hV
  obtain ⟨R, hR⟩ : ∃ R, R = overS L t (x, y, z) := ⟨_, rfl⟩
  have hR' := hide hR
  clear hR
  go_wp2_with fail
  rw [← unhide hV']
  refine (iOvr_any G 0 c L t x y z V hmx (kls_own (unhide oL))).mono ?_
  rintro e w2 hE
  rw [← unhide hR'] at hE
  obtain ⟨g2, c2, rfl, q2, n2, k2⟩ := hE
  have oU := hide (own_mono n2 (Nat.zero_le _))
  have oL2 := hide (ownsRow_below (unhide oL) k2)
  have H2 := hide k2
  have e0 := cell_later k2 d0
  have e1 := cell_later k2 d1
  have e2 := cell_later k2 d2
  clear n2 k2 q2 oL
  go_wp2_with fail
  refine (sover_any (some ⟨G, 0, none⟩) c L t x y z _ hmx (kls_own (unhide oL2))).mono ?_
  rintro e w3 hE
  rw [← unhide hR'] at hE
  obtain ⟨g3, c3, rfl, q3, n3, k3⟩ := hE
  have oU3 := hide (ownsRow_below (unhide oU) k3)
  have oL3 := hide (ownsRow_below (unhide oL2) k3)
  have H3 := hide (laterB (unhide H2) k3)
  clear n3 k3 q3 oU oL2 H2 e0 e1 e2
  cases R with
  | none =>
    have e0 : (outL none).length = 0 := rfl
    have e1 : (none : Option (List Kl)).isSome = false := rfl
    rw [e0, e1]
    clear e0 e1
    go_wp2
    go_ret
    exact ⟨rfl, laterB (unhide HV) (unhide H3)⟩
  | some u =>
    have e0 : outL (some u) = u := rfl
    have e1 : (some u).isSome = true := rfl
    rw [e0] at oU3 ⊢
    rw [e1]
    clear e0 e1
    obtain ⟨hu, hlL, hlU, N0, N1, t0, t1, z0, z1, y0, y1, x0⟩ := over_u (unhide hR').symm
    have hsee := hide (over_sees (unhide hR').symm).2.2.2.2.2
    have hmu : u.length ≤ maxLen := by unfold maxLen; omega
    obtain ⟨N, hN⟩ : ∃ N, N = clen L := ⟨_, rfl⟩
    rw [← hN] at hlL hlU N0 N1
    have hlL' := hide hlL
    have hlU' := hide hlU
    clear hlL hlU hN
    go_wp2_with fail
    refine (ilength_any (some ⟨G, 0, none⟩) c L _ hmx (kls_own (unhide oL3))).mono ?_
    rintro e w4 ⟨rfl, k4⟩
    rw [unhide hlL']
    have oU4 := hide (ownsRow_below (unhide oU3) k4)
    have oL4 := hide (ownsRow_below (unhide oL3) k4)
    have H4 := hide (laterB (unhide H3) k4)
    have e2 := cell_later (unhide H4) d2
    clear k4 oU3 oL3 H3
    by_cases hgt : N < t + z
    · have hmax : lenOf u = t + z := by rw [unhide hlU']; omega
      have hm' := hide hmax
      have htt : ((t + z) != (t + z)) = false := by simp
      clear hmax
      go_wp2_with fail
      refine (ilength_any (some ⟨g2, 0, none⟩) c2 u _ hmu (kls_own (unhide oU4))).mono ?_
      rintro e w5 ⟨rfl, k5⟩
      rw [unhide hm']
      have oU5 := hide (ownsRow_below (unhide oU4) k5)
      have oL5 := hide (ownsRow_below (unhide oL4) k5)
      have H5 := hide (laterB (unhide H4) k5)
      clear k5 oU4 oL4 H4 e2
      go_wp2
      go_loopw [11] (fun s wr => ∃ i : Int, t - 3 ≤ i ∧ i ≤ t + 40 ∧ s = .int .i64 i ∧ Hid (Own wr 0 g2 u.length c2 u) ∧ Hid (Own wr 0 G L.length c L) ∧ Hid (Below V.heap.size V wr)) (fun s _ => (t + 40 - intOf s).toNat)
      case atStart => exact ⟨t - 3, by omega, by omega, rfl, oU5, oL5, H5⟩
      case round =>
        clear oU5 oL5 H5
        obtain ⟨i, i0, i1, rfl, oU, oL, hw⟩ := hrel
        have e2 := cell_later (unhide hw) d2
        by_cases h1 : i < t + z + 3
        · by_cases h2 : i < t + 40
          · obtain ⟨p, hp⟩ : ∃ p, p = (frameAt L i).1 := ⟨_, rfl⟩
            obtain ⟨q, hq⟩ : ∃ q, q = (frameAt L i).2 := ⟨_, rfl⟩
            have hs := unhide hsee i
            have hx' := hide hp
            have hy' := hide hq
            by_cases hin : t ≤ i ∧ i < t + z
            · rw [if_pos hin] at hs
              obtain ⟨in0, in1⟩ := hin
              clear hp hq
              by_cases hx0 : x = 0
              · have hfu := hide (show frameAt u i = (0, 0) by rw [hs]; unfold sv; simp [hx0])
                subst hx0
                clear hs
                go_wp2_with fail
                refine (iframe_any (some ⟨g2, 0, none⟩) c2 u i _ hmu (kls_own (unhide oU))).mono ?_
                rintro e w6 ⟨rfl, k6⟩
                rw [unhide hfu]
                have oU6 := hide (ownsRow_below (unhide oU) k6)
                have oL6 := hide (ownsRow_below (unhide oL) k6)
                have H6 := hide (laterB (unhide hw) k6)
                clear k6 oU oL hw
                go_wp2_with fail
                refine (iframe_any (some ⟨G, 0, none⟩) c L i _ hmx (kls_own (unhide oL6))).mono ?_
                rintro e w7 ⟨rfl, k7⟩
                rw [← unhide hx', ← unhide hy']
                have oU7 := hide (ownsRow_below (unhide oU6) k7)
                have oL7 := hide (ownsRow_below (unhide oL6) k7)
                have H7 := hide (laterB (unhide H6) k7)
                have f0 := cell_later (unhide H7) d0
                have f1 := cell_later (unhide H7) d1
                have f2 := cell_later (unhide H7) d2
                clear k7 oU6 oL6 H6 e2
                go_wp2
                go_roundw
                case rel => exact ⟨i + 1, by omega, by omega, rfl, oU7, oL7, H7⟩
                case measure => simp [intOf]; omega
              · have hfu := hide (show frameAt u i = (x, y + i - t) by rw [hs]; unfold sv; simp only [if_neg hx0]; congr 1; omega)
                have hxp : 0 < x := by omega
                have hxx : (x != x) = false := by simp
                have hyy : ((y + i - t) != (y + i - t)) = false := by simp
                clear hs hx0
                go_wp2_with fail
                refine (iframe_any (some ⟨g2, 0, none⟩) c2 u i _ hmu (kls_own (unhide oU))).mono ?_
                rintro e w6 ⟨rfl, k6⟩
                rw [unhide hfu]
                have oU6 := hide (ownsRow_below (unhide oU) k6)
                have oL6 := hide (ownsRow_below (unhide oL) k6)
                have H6 := hide (laterB (unhide hw) k6)
                clear k6 oU oL hw
                go_wp2_with fail
                refine (iframe_any (some ⟨G, 0, none⟩) c L i _ hmx (kls_own (unhide oL6))).mono ?_
                rintro e w7 ⟨rfl, k7⟩
                rw [← unhide hx', ← unhide hy']
                have oU7 := hide (ownsRow_below (unhide oU6) k7)
                have oL7 := hide (ownsRow_below (unhide oL6) k7)
                have H7 := hide (laterB (unhide H6) k7)
                have f0 := cell_later (unhide H7) d0
                have f1 := cell_later (unhide H7) d1
                have f2 := cell_later (unhide H7) d2
                clear k7 oU6 oL6 H6 e2
                go_wp2
                go_roundw
                case rel => exact ⟨i + 1, by omega, by omega, rfl, oU7, oL7, H7⟩
                case measure => simp [intOf]; omega
            · rw [if_neg hin] at hs
              have hfu := hide (show frameAt u i = (p, q) by rw [hs, hp, hq])
              have hpp : (p != p) = false := by simp
              have hqq : (q != q) = false := by simp
              clear hp hq hs
              by_cases hti : t ≤ i
              · have hti2 : decide (i < t + z) = false := by simp; omega
                clear hin
                go_wp2_with fail
                refine (iframe_any (some ⟨g2, 0, none⟩) c2 u i _ hmu (kls_own (unhide oU))).mono ?_
                rintro e w6 ⟨rfl, k6⟩
                rw [unhide hfu]
                have oU6 := hide (ownsRow_below (unhide oU) k6)
                have oL6 := hide (ownsRow_below (unhide oL) k6)
                have H6 := hide (laterB (unhide hw) k6)
                clear k6 oU oL hw
                go_wp2_with fail
                refine (iframe_any (some ⟨G, 0, none⟩) c L i _ hmx (kls_own (unhide oL6))).mono ?_
                rintro e w7 ⟨rfl, k7⟩
                rw [← unhide hx', ← unhide hy']
                have oU7 := hide (ownsRow_below (unhide oU6) k7)
                have oL7 := hide (ownsRow_below (unhide oL6) k7)
                have H7 := hide (laterB (unhide H6) k7)
                have f0 := cell_later (unhide H7) d0
                have f1 := cell_later (unhide H7) d1
                have f2 := cell_later (unhide H7) d2
                clear k7 oU6 oL6 H6 e2
                go_wp2
                go_roundw
                case rel => exact ⟨i + 1, by omega, by omega, rfl, oU7, oL7, H7⟩
                case measure => simp [intOf]; omega
              · have hti2 : decide (t ≤ i) = false := by simp; omega
                clear hin
                go_wp2_with fail
                refine (iframe_any (some ⟨g2, 0, none⟩) c2 u i _ hmu (kls_own (unhide oU))).mono ?_
                rintro e w6 ⟨rfl, k6⟩
                rw [unhide hfu]
                have oU6 := hide (ownsRow_below (unhide oU) k6)
                have oL6 := hide (ownsRow_below (unhide oL) k6)
                have H6 := hide (laterB (unhide hw) k6)
                clear k6 oU oL hw
                go_wp2_with fail
                refine (iframe_any (some ⟨G, 0, none⟩) c L i _ hmx (kls_own (unhide oL6))).mono ?_
                rintro e w7 ⟨rfl, k7⟩
                rw [← unhide hx', ← unhide hy']
                have oU7 := hide (ownsRow_below (unhide oU6) k7)
                have oL7 := hide (ownsRow_below (unhide oL6) k7)
                have H7 := hide (laterB (unhide H6) k7)
                have f0 := cell_later (unhide H7) d0
                have f1 := cell_later (unhide H7) d1
                have f2 := cell_later (unhide H7) d2
                clear k7 oU6 oL6 H6 e2
                go_wp2
                go_roundw
                case rel => exact ⟨i + 1, by omega, by omega, rfl, oU7, oL7, H7⟩
                case measure => simp [intOf]; omega
          · have h2' : decide (i < t + 40) = false := by simpa using h2
            go_wp2
            go_ret
            exact ⟨rfl, laterB (unhide HV) (unhide hw)⟩
        · have h1' : decide (i < t + z + 3) = false := by simpa using h1
          go_wp2
          go_ret
          exact ⟨rfl, laterB (unhide HV) (unhide hw)⟩
    · have hmax : lenOf u = N := by rw [unhide hlU']; omega
      have hm' := hide hmax
      have htt : (N != N) = false := by simp
      have hgt' : decide (N < t + z) = false := by simpa using hgt
      clear hmax
      go_wp2_with fail
      refine (ilength_any (some ⟨g2, 0, none⟩) c2 u _ hmu (kls_own (unhide oU4))).mono ?_
      rintro e w5 ⟨rfl, k5⟩
      rw [unhide hm']
      have oU5 := hide (ownsRow_below (unhide oU4) k5)
      have oL5 := hide (ownsRow_below (unhide oL4) k5)
      have H5 := hide (laterB (unhide H4) k5)
      clear k5 oU4 oL4 H4 e2
      go_wp2
      go_loopw [11] (fun s wr => ∃ i : Int, t - 3 ≤ i ∧ i ≤ t + 40 ∧ s = .int .i64 i ∧ Hid (Own wr 0 g2 u.length c2 u) ∧ Hid (Own wr 0 G L.length c L) ∧ Hid (Below V.heap.size V wr)) (fun s _ => (t + 40 - intOf s).toNat)
      case atStart => exact ⟨t - 3, by omega, by omega, rfl, oU5, oL5, H5⟩
      case round =>
        clear oU5 oL5 H5
        obtain ⟨i, i0, i1, rfl, oU, oL, hw⟩ := hrel
        have e2 := cell_later (unhide hw) d2
        by_cases h1 : i < t + z + 3
        · by_cases h2 : i < t + 40
          · obtain ⟨p, hp⟩ : ∃ p, p = (frameAt L i).1 := ⟨_, rfl⟩
            obtain ⟨q, hq⟩ : ∃ q, q = (frameAt L i).2 := ⟨_, rfl⟩
            have hs := unhide hsee i
            have hx' := hide hp
            have hy' := hide hq
            by_cases hin : t ≤ i ∧ i < t + z
            · rw [if_pos hin] at hs
              obtain ⟨in0, in1⟩ := hin
              clear hp hq
              by_cases hx0 : x = 0
              · have hfu := hide (show frameAt u i = (0, 0) by rw [hs]; unfold sv; simp [hx0])
                subst hx0
                clear hs
                go_wp2_with fail
                refine (iframe_any (some ⟨g2, 0, none⟩) c2 u i _ hmu (kls_own (unhide oU))).mono ?_
                rintro e w6 ⟨rfl, k6⟩
                rw [unhide hfu]
                have oU6 := hide (ownsRow_below (unhide oU) k6)
                have oL6 := hide (ownsRow_below (unhide oL) k6)
                have H6 := hide (laterB (unhide hw) k6)
                clear k6 oU oL hw
                go_wp2_with fail
                refine (iframe_any (some ⟨G, 0, none⟩) c L i _ hmx (kls_own (unhide oL6))).mono ?_
                rintro e w7 ⟨rfl, k7⟩
                rw [← unhide hx', ← unhide hy']
                have oU7 := hide (ownsRow_below (unhide oU6) k7)
                have oL7 := hide (ownsRow_below (unhide oL6) k7)
                have H7 := hide (laterB (unhide H6) k7)
                have f0 := cell_later (unhide H7) d0
                have f1 := cell_later (unhide H7) d1
                have f2 := cell_later (unhide H7) d2
                clear k7 oU6 oL6 H6 e2
                go_wp2
                go_roundw
                case rel => exact ⟨i + 1, by omega, by omega, rfl, oU7, oL7, H7⟩
                case measure => simp [intOf]; omega
              · have hfu := hide (show frameAt u i = (x, y + i - t) by rw [hs]; unfold sv; simp only [if_neg hx0]; congr 1; omega)
                have hxp : 0 < x := by omega
                have hxx : (x != x) = false := by simp
                have hyy : ((y + i - t) != (y + i - t)) = false := by simp
                clear hs hx0
                go_wp2_with fail
                refine (iframe_any (some ⟨g2, 0, none⟩) c2 u i _ hmu (kls_own (unhide oU))).mono ?_
                rintro e w6 ⟨rfl, k6⟩
                rw [unhide hfu]
                have oU6 := hide (ownsRow_below (unhide oU) k6)
                have oL6 := hide (ownsRow_below (unhide oL) k6)
                have H6 := hide (laterB (unhide hw) k6)
                clear k6 oU oL hw
                go_wp2_with fail
                refine (iframe_any (some ⟨G, 0, none⟩) c L i _ hmx (kls_own (unhide oL6))).mono ?_
                rintro e w7 ⟨rfl, k7⟩
                rw [← unhide hx', ← unhide hy']
                have oU7 := hide (ownsRow_below (unhide oU6) k7)
                have oL7 := hide (ownsRow_below (unhide oL6) k7)
                have H7 := hide (laterB (unhide H6) k7)
                have f0 := cell_later (unhide H7) d0
                have f1 := cell_later (unhide H7) d1
                have f2 := cell_later (unhide H7) d2
                clear k7 oU6 oL6 H6 e2
                go_wp2
                go_roundw
                case rel => exact ⟨i + 1, by omega, by omega, rfl, oU7, oL7, H7⟩
                case measure => simp [intOf]; omega
            · rw [if_neg hin] at hs
              have hfu := hide (show frameAt u i = (p, q) by rw [hs, hp, hq])
              have hpp : (p != p) = false := by simp
              have hqq : (q != q) = false := by simp
              clear hp hq hs
              by_cases hti : t ≤ i
              · have hti2 : decide (i < t + z) = false := by simp; omega
                clear hin
                go_wp2_with fail
                refine (iframe_any (some ⟨g2, 0, none⟩) c2 u i _ hmu (kls_own (unhide oU))).mono ?_
                rintro e w6 ⟨rfl, k6⟩
                rw [unhide hfu]
                have oU6 := hide (ownsRow_below (unhide oU) k6)
                have oL6 := hide (ownsRow_below (unhide oL) k6)
                have H6 := hide (laterB (unhide hw) k6)
                clear k6 oU oL hw
                go_wp2_with fail
                refine (iframe_any (some ⟨G, 0, none⟩) c L i _ hmx (kls_own (unhide oL6))).mono ?_
                rintro e w7 ⟨rfl, k7⟩
                rw [← unhide hx', ← unhide hy']
                have oU7 := hide (ownsRow_below (unhide oU6) k7)
                have oL7 := hide (ownsRow_below (unhide oL6) k7)
                have H7 := hide (laterB (unhide H6) k7)
                have f0 := cell_later (unhide H7) d0
                have f1 := cell_later (unhide H7) d1
                have f2 := cell_later (unhide H7) d2
                clear k7 oU6 oL6 H6 e2
                go_wp2
                go_roundw
                case rel => exact ⟨i + 1, by omega, by omega, rfl, oU7, oL7, H7⟩
                case measure => simp [intOf]; omega
              · have hti2 : decide (t ≤ i) = false := by simp; omega
                clear hin
                go_wp2_with fail
                refine (iframe_any (some ⟨g2, 0, none⟩) c2 u i _ hmu (kls_own (unhide oU))).mono ?_
                rintro e w6 ⟨rfl, k6⟩
                rw [unhide hfu]
                have oU6 := hide (ownsRow_below (unhide oU) k6)
                have oL6 := hide (ownsRow_below (unhide oL) k6)
                have H6 := hide (laterB (unhide hw) k6)
                clear k6 oU oL hw
                go_wp2_with fail
                refine (iframe_any (some ⟨G, 0, none⟩) c L i _ hmx (kls_own (unhide oL6))).mono ?_
                rintro e w7 ⟨rfl, k7⟩
                rw [← unhide hx', ← unhide hy']
                have oU7 := hide (ownsRow_below (unhide oU6) k7)
                have oL7 := hide (ownsRow_below (unhide oL6) k7)
                have H7 := hide (laterB (unhide H6) k7)
                have f0 := cell_later (unhide H7) d0
                have f1 := cell_later (unhide H7) d1
                have f2 := cell_later (unhide H7) d2
                clear k7 oU6 oL6 H6 e2
                go_wp2
                go_roundw
                case rel => exact ⟨i + 1, by omega, by omega, rfl, oU7, oL7, H7⟩
                case measure => simp [intOf]; omega
          · have h2' : decide (i < t + 40) = false := by simpa using h2
            go_wp2
            go_ret
            exact ⟨rfl, laterB (unhide HV) (unhide hw)⟩
        · have h1' : decide (i < t + z + 3) = false := by simpa using h1
          go_wp2
          go_ret
          exact ⟨rfl, laterB (unhide HV) (unhide hw)⟩

end Go.Proofs.Ytnmahojdaodlgaa
