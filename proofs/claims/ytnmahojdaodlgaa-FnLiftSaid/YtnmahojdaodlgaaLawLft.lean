/-
  For every list of bytes: what is lifted off the track that is drawn of them leaves a gap of its length, and all else where it was; no conditions.
-/
import Derived.Test.YtnmahojdaodlgaaDrA
import Derived.Test.YtnmahojdaodlgaaFacLif
import Derived.Test.YtnmahojdaodlgaaSEd2
import Derived.Test.YtnmahojdaodlgaaFrB
namespace Go.Proofs.Ytnmahojdaodlgaa
open Go.RowKit
set_option linter.unusedVariables false
set_option linter.unusedSimpArgs false

set_option maxHeartbeats 400000 in
theorem big_any (a : Option Addr) (len cap : Nat) (v : Bool) (w : World) (hv : decide ((4096 : Int) < len) = v) :
    Calls Try.prog 15 #[.slice a len cap] w fun e w' => e = .returned (.bool v) ∧ w' = w := by
  subst hv
  go_enter Try.func15, Try.ntmps15
  go_wp2
  go_ret
  exact ⟨rfl, rfl⟩

theorem lift_u {l u : List Kl} {t n : Int} (h : liftS l t n = some u) : u.length ≤ 300 ∧ lenOf u = lenOf l ∧ 0 ≤ t ∧ t ≤ 10000000 ∧ 1 ≤ n ∧ n ≤ 10000000 := by
  obtain ⟨h1, ⟨_, ⟨r1, r2⟩, r3, r4⟩, h3, h4, _⟩ := lift_sees h
  have h5 := h1.2.2
  refine ⟨h3.1, ?_, r1, by omega, r3, by omega⟩
  unfold lenOf
  rw [if_pos h3, if_pos h1, h4]

set_option maxHeartbeats 3200000 in
theorem lawLft {W : World} (a : Option Addr) (len cap : Nat) (hr : RdB W W.heap.size a len) :
    Calls Try.prog 4 #[.slice a len cap] W fun e w' => e = .returned (.bool true) ∧ Below W.heap.size W w' := by
  have hr' := hide hr
  clear hr
  by_cases hbig : (4096 : Int) < len
  · have hb' := hide (decide_eq_true hbig)
    clear hbig
    go_enter Try.func4, Try.ntmps4
    go_wp2_with fail
    refine (big_any a len cap true _ (unhide hb')).mono ?_
    rintro e w0 ⟨rfl, hw0⟩
    have hw1 := hw0.symm
    subst hw1
    go_wp2
    go_ret
    exact ⟨rfl, Below.refl _ _⟩
  have hb' := hide (decide_eq_false hbig)
  have hl : len ≤ 4096 := by omega
  clear hbig
  go_enter Try.func4, Try.ntmps4
  go_wp2_with fail
  refine (big_any a len cap false _ (unhide hb')).mono ?_
  rintro e w0 ⟨rfl, hw0⟩
  have hw1 := hw0.symm
  subst hw1
  clear hb'
  go_wp2_with fail
  refine (dlift_any a len cap _ hl (unhide hr')).mono ?_
  rintro e w1 ⟨G, c, L, t, n, rfl, hL, ho, hb⟩
  have oL := hide (own_mono ho (Nat.zero_le _))
  have H1 := hide hb
  have hmx : L.length ≤ maxLen := by unfold maxLen; omega
  clear ho hb hr'
  obtain ⟨R, hR⟩ : ∃ R, R = liftS L t n := ⟨_, rfl⟩
  have hR' := hide hR
  clear hR
  go_wp2_with fail
  refine (iLif_any G 0 c L t n _ hmx (kls_own (unhide oL))).mono ?_
  rintro e w2 hE
  rw [← unhide hR'] at hE
  obtain ⟨g2, c2, rfl, q2, n2, k2⟩ := hE
  have oU := hide (own_mono n2 (Nat.zero_le _))
  have oL2 := hide (ownsRow_below (unhide oL) k2)
  have H2 := hide (laterB (unhide H1) k2)
  clear n2 k2 q2 oL H1
  go_wp2_with fail
  refine (slift_any (some ⟨G, 0, none⟩) c L t n _ hmx (kls_own (unhide oL2))).mono ?_
  rintro e w3 hE
  rw [← unhide hR'] at hE
  obtain ⟨g3, c3, rfl, q3, n3, k3⟩ := hE
  have oU3 := hide (ownsRow_below (unhide oU) k3)
  have oL3 := hide (ownsRow_below (unhide oL2) k3)
  have H3 := hide (laterB (unhide H2) k3)
  clear n3 k3 q3 oU oL2 H2
  cases R with
  | none =>
    have e0 : (outL none).length = 0 := rfl
    have e1 : (none : Option (List Kl)).isSome = false := rfl
    rw [e0, e1]
    clear e0 e1
    go_wp2
    go_ret
    exact ⟨rfl, unhide H3⟩
  | some u =>
    have e0 : outL (some u) = u := rfl
    have e1 : (some u).isSome = true := rfl
    rw [e0] at oU3 ⊢
    rw [e1]
    clear e0 e1
    obtain ⟨hu, hlen, t0, t1, m0, m1⟩ := lift_u (unhide hR').symm
    have hlen' := hide hlen
    have hsee := hide (lift_sees (unhide hR').symm).2.2.2.2
    have hmu : u.length ≤ maxLen := by unfold maxLen; omega
    clear hlen
    obtain ⟨v, hv⟩ : ∃ v, v = lenOf L := ⟨_, rfl⟩
    have hvv : (v != v) = false := by simp
    have hv' := hide hv
    clear hv
    go_wp2_with fail
    refine (ilength_any (some ⟨g2, 0, none⟩) c2 u _ hmu (kls_own (unhide oU3))).mono ?_
    rintro e w4 ⟨rfl, k4⟩
    rw [unhide hlen', ← unhide hv']
    have oU4 := hide (ownsRow_below (unhide oU3) k4)
    have oL4 := hide (ownsRow_below (unhide oL3) k4)
    have H4 := hide (laterB (unhide H3) k4)
    clear k4 oU3 oL3 H3
    go_wp2_with fail
    refine (ilength_any (some ⟨G, 0, none⟩) c L _ hmx (kls_own (unhide oL4))).mono ?_
    rintro e w5 ⟨rfl, k5⟩
    rw [← unhide hv']
    have oU5 := hide (ownsRow_below (unhide oU4) k5)
    have oL5 := hide (ownsRow_below (unhide oL4) k5)
    have H5 := hide (laterB (unhide H4) k5)
    clear k5 oU4 oL4 H4
    go_wp2
    go_loopw [10] (fun s wr => ∃ i : Int, t - 3 ≤ i ∧ i ≤ t + 40 ∧ s = .int .i64 i ∧ Hid (Own wr 0 g2 u.length c2 u) ∧ Hid (Own wr 0 G L.length c L) ∧ Hid (Below W.heap.size W wr)) (fun s _ => (t + 40 - intOf s).toNat)
    case atStart => exact ⟨t - 3, by omega, by omega, rfl, oU5, oL5, H5⟩
    case round =>
      clear oU5 oL5 H5
      obtain ⟨i, i0, i1, rfl, oU, oL, hw⟩ := hrel
      by_cases h1 : i < t + n + 3
      · by_cases h2 : i < t + 40
        · obtain ⟨p, hp⟩ : ∃ p, p = (frameAt u i).1 := ⟨_, rfl⟩
          obtain ⟨q, hq⟩ : ∃ q, q = (frameAt u i).2 := ⟨_, rfl⟩
          obtain ⟨x, hx⟩ : ∃ x, x = (frameAt L i).1 := ⟨_, rfl⟩
          obtain ⟨y, hy⟩ : ∃ y, y = (frameAt L i).2 := ⟨_, rfl⟩
          have hs := unhide hsee i
          have hp' := hide hp
          have hq' := hide hq
          have hx' := hide hx
          have hy' := hide hy
          by_cases hin : t ≤ i ∧ i < t + n
          · rw [if_pos hin] at hs
            rw [hs] at hp hq
            simp only at hp hq
            have hp0 : p = 0 := hp
            have hq0 : q = 0 := hq
            obtain ⟨in0, in1⟩ := hin
            clear hp hq hx hy hs
            go_wp2_with fail
            refine (iframe_any (some ⟨g2, 0, none⟩) c2 u i _ hmu (kls_own (unhide oU))).mono ?_
            rintro e w6 ⟨rfl, k6⟩
            rw [← unhide hp', ← unhide hq']
            have oU6 := hide (ownsRow_below (unhide oU) k6)
            have oL6 := hide (ownsRow_below (unhide oL) k6)
            have H6 := hide (laterB (unhide hw) k6)
            clear k6 oU oL hw
            go_wp2_with fail
            refine (iframe_any (some ⟨G, 0, none⟩) c L i _ hmx (kls_own (unhide oL6))).mono ?_
            rintro e w7 ⟨rfl, k7⟩
            rw [← unhide hx', ← unhide hy']
            have oU7 := hide (ownsRow_below (unhide oU6) k7)
            have oL7 := hide (ownsRow_below (unhide oL6) k7)
            have H7 := hide (laterB (unhide H6) k7)
            clear k7 oU6 oL6 H6
            subst hp0 hq0
            go_wp2
            go_roundw
            case rel => exact ⟨i + 1, by omega, by omega, rfl, oU7, oL7, H7⟩
            case measure => simp [intOf]; omega
          · rw [if_neg hin] at hs
            rw [hs] at hp hq
            have hpx : p = x := hp.trans hx.symm
            have hqy : q = y := hq.trans hy.symm
            have hin' : (decide (t ≤ i) && decide (i < t + n)) = false := by simp; omega
            have hxx : (x != x) = false := by simp
            have hyy : (y != y) = false := by simp
            clear hp hq hx hy hs
            by_cases hti : t ≤ i
            · have hti2 : decide (i < t + n) = false := by simp; omega
              clear hin hin'
              go_wp2_with fail
              refine (iframe_any (some ⟨g2, 0, none⟩) c2 u i _ hmu (kls_own (unhide oU))).mono ?_
              rintro e w6 ⟨rfl, k6⟩
              rw [← unhide hp', ← unhide hq', hpx, hqy]
              have oU6 := hide (ownsRow_below (unhide oU) k6)
              have oL6 := hide (ownsRow_below (unhide oL) k6)
              have H6 := hide (laterB (unhide hw) k6)
              clear k6 oU oL hw hpx hqy
              go_wp2_with fail
              refine (iframe_any (some ⟨G, 0, none⟩) c L i _ hmx (kls_own (unhide oL6))).mono ?_
              rintro e w7 ⟨rfl, k7⟩
              rw [← unhide hx', ← unhide hy']
              have oU7 := hide (ownsRow_below (unhide oU6) k7)
              have oL7 := hide (ownsRow_below (unhide oL6) k7)
              have H7 := hide (laterB (unhide H6) k7)
              clear k7 oU6 oL6 H6
              go_wp2
              go_roundw
              case rel => exact ⟨i + 1, by omega, by omega, rfl, oU7, oL7, H7⟩
              case measure => simp [intOf]; omega
            · have hti2 : decide (t ≤ i) = false := by simp; omega
              clear hin hin'
              go_wp2_with fail
              refine (iframe_any (some ⟨g2, 0, none⟩) c2 u i _ hmu (kls_own (unhide oU))).mono ?_
              rintro e w6 ⟨rfl, k6⟩
              rw [← unhide hp', ← unhide hq', hpx, hqy]
              have oU6 := hide (ownsRow_below (unhide oU) k6)
              have oL6 := hide (ownsRow_below (unhide oL) k6)
              have H6 := hide (laterB (unhide hw) k6)
              clear k6 oU oL hw hpx hqy
              go_wp2_with fail
              refine (iframe_any (some ⟨G, 0, none⟩) c L i _ hmx (kls_own (unhide oL6))).mono ?_
              rintro e w7 ⟨rfl, k7⟩
              rw [← unhide hx', ← unhide hy']
              have oU7 := hide (ownsRow_below (unhide oU6) k7)
              have oL7 := hide (ownsRow_below (unhide oL6) k7)
              have H7 := hide (laterB (unhide H6) k7)
              clear k7 oU6 oL6 H6
              go_wp2
              go_roundw
              case rel => exact ⟨i + 1, by omega, by omega, rfl, oU7, oL7, H7⟩
              case measure => simp [intOf]; omega
        · have h2' : decide (i < t + 40) = false := by simpa using h2
          go_wp2
          go_ret
          exact ⟨rfl, unhide hw⟩
      · have h1' : decide (i < t + n + 3) = false := by simpa using h1
        go_wp2
        go_ret
        exact ⟨rfl, unhide hw⟩

end Go.Proofs.Ytnmahojdaodlgaa
