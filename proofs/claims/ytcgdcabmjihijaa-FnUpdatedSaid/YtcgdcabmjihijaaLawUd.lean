/-
  For every list of bytes that two packages are drawn of: what is sent and what goes takes the names of the old package to those of the new one; no conditions.
-/
import Derived.Test.YtcgdcabmjihijaaDrU
namespace Go.Proofs.Ytcgdcabmjihijaa
open Go.RowKit
set_option linter.unusedVariables false
set_option linter.unusedSimpArgs false

theorem big_any (a : Option Addr) (n c : Nat) (w : World) : Calls Try.prog 4 #[.slice a n c] w fun e w' => e = .returned (.bool (decide (4096 < n))) ∧ w' = w := by
  go_enter Try.func4, Try.ntmps4
  go_wp2
  go_ret
  exact ⟨ret_bool (by simp; omega), rfl⟩
theorem updS_no {l m : List Kl} (h : (pOk l && pOk m) = false) : updS l m = [] ∧ updG l m = [] := by simp [updS, updG, h]
theorem updS_yes {l m : List Kl} (h : pOk l = true) (h2 : pOk m = true) : updS l m = sendL l m ∧ updG l m = goneL l m := by simp [updS, updG, h, h2]
theorem occ_snoc {B : List ByteArray} {s r : ByteArray} {j : Nat} (h : B[j]? = some r) : occ (B.take (j + 1)) s = occ (B.take j) s + (if (s.toList == r.toList) = true then 1 else 0) := by
  unfold occ
  rw [List.take_add_one, h, List.filter_append, List.length_append]
  cases e : (s.toList == r.toList) <;> simp [List.filter_cons, e]
theorem sum_snoc {A : List ByteArray} {f : ByteArray → Nat} {s : ByteArray} {i : Nat} (h : A[i]? = some s) : ((A.take (i + 1)).map f).sum = ((A.take i).map f).sum + f s := by
  rw [List.take_add_one, h]; simp
set_option maxRecDepth 100000 in
set_option maxHeartbeats 6400000 in
theorem lawUd {W : World} (a : Option Addr) (len cap : Nat) (hr : RdB W W.heap.size a len) :
    Calls Try.prog 3 #[.slice a len cap] W fun e w' => e = .returned (.bool true) ∧ Below W.heap.size W w' := by
  have hr' := hide hr
  clear hr
  by_cases hbig : 4096 < len
  · have gb : decide (4096 < len) = true := by simpa using hbig
    go_enter Try.func3, Try.ntmps3
    go_wp2_with fail
    refine (big_any a len cap W).mono ?_
    rintro e w1 ⟨rfl, hw0⟩
    have hw1 := hw0.symm
    subst hw1
    rw [gb]
    go_wp2
    go_ret
    exact ⟨rfl, Below.refl _ _⟩
  have gb : decide (4096 < len) = false := by simpa using hbig
  go_enter Try.func3, Try.ntmps3
  go_wp2_with fail
  refine (big_any a len cap W).mono ?_
  rintro e w1 ⟨rfl, hw0⟩
  have hw1 := hw0.symm
  subst hw1
  rw [gb]
  go_wp2_with fail
  refine (dupd_any a len cap W (by omega) (unhide hr')).mono ?_
  rintro e w1 ⟨g1, n1, c1, l, g2, n2, c2, m, rfl, hn1, hn2, ol, om, sl, sm, bw⟩
  have hll := own_len ol
  have hml := own_len om
  have ol := hide ol
  have om := hide om
  have sl1 := hide (show SzOk l from fun x hx => by have := sl x hx; unfold maxLen; omega)
  have sm1 := hide (show SzOk m from fun x hx => by have := sm x hx; unfold maxLen; omega)
  have sl2 := hide (show ∀ x ∈ l, x.1.size ≤ 1048576 from fun x hx => by have := sl x hx; omega)
  have sm2 := hide (show ∀ x ∈ m, x.1.size ≤ 1048576 from fun x hx => by have := sm x hx; omega)
  have bw := hide bw
  have hll' := hide hll
  have hml' := hide hml
  have cI := hide (show ∀ w2, Below w1.heap.size w1 w2 → Calls Try.prog 6 #[.slice (some ⟨g1, 0, none⟩) n1 c1, .slice (some ⟨g2, 0, none⟩) n2 c2] w2 (AnU w2 (updS l m) (updG l m)) from fun w2 hb => by
    have := iup_any (some ⟨g1, 0, none⟩) (some ⟨g2, 0, none⟩) c1 c2 l m w2 (by omega) (by omega) (unhide sl1) (unhide sm1) (unhide sl2) (unhide sm2) ((kls_own (unhide ol)).below hb) ((kls_own (unhide om)).below hb)
    rw [hll, hml] at this; exact this)
  have cS := hide (show ∀ w2, Below w1.heap.size w1 w2 → Calls Try.prog 7 #[.slice (some ⟨g1, 0, none⟩) n1 c1, .slice (some ⟨g2, 0, none⟩) n2 c2] w2 (AnU w2 (updS l m) (updG l m)) from fun w2 hb => by
    have := sup_any (some ⟨g1, 0, none⟩) (some ⟨g2, 0, none⟩) c1 c2 l m w2 (by omega) (by omega) (unhide sl1) (unhide sm1) (unhide sl2) (unhide sm2) ((kls_own (unhide ol)).below hb) ((kls_own (unhide om)).below hb)
    rw [hll, hml] at this; exact this)
  have cB := hide (show ∀ w2, Below w1.heap.size w1 w2 → Calls Try.prog 6 #[.slice (some ⟨g2, 0, none⟩) n2 c2, .slice (some ⟨g1, 0, none⟩) n1 c1] w2 (AnU w2 (updS m l) (updG m l)) from fun w2 hb => by
    have := iup_any (some ⟨g2, 0, none⟩) (some ⟨g1, 0, none⟩) c2 c1 m l w2 (by omega) (by omega) (unhide sm1) (unhide sl1) (unhide sm2) (unhide sl2) ((kls_own (unhide om)).below hb) ((kls_own (unhide ol)).below hb)
    rw [hll, hml] at this; exact this)
  have cP := hide (show ∀ w2, Below w1.heap.size w1 w2 → Calls Try.prog 8 #[.slice (some ⟨g1, 0, none⟩) n1 c1] w2 (fun e w' => e = .returned (.bool (pOk l)) ∧ Below w2.heap.size w2 w') from fun w2 hb => by
    have := spk_any (some ⟨g1, 0, none⟩) c1 l w2 (by unfold maxLen; omega) (unhide sl1) ((kls_own (unhide ol)).below hb)
    rw [hll] at this; exact this)
  have cQ := hide (show ∀ w2, Below w1.heap.size w1 w2 → Calls Try.prog 8 #[.slice (some ⟨g2, 0, none⟩) n2 c2] w2 (fun e w' => e = .returned (.bool (pOk m)) ∧ Below w2.heap.size w2 w') from fun w2 hb => by
    have := spk_any (some ⟨g2, 0, none⟩) c2 m w2 (by unfold maxLen; omega) (unhide sm1) ((kls_own (unhide om)).below hb)
    rw [hml] at this; exact this)
  clear sl sm sl1 sm1 sl2 sm2 ol om hll hml
  go_wp2_with fail
  refine (unhide cI _ (Below.refl _ _)).mono ?_
  rintro e w2 ⟨s1, d1, s2, d2, rfl, T1⟩
  have B2 := hide T1.bel
  have T1 := hide T1
  go_wp2_with fail
  refine (unhide cS _ (unhide B2)).mono ?_
  rintro e w3 ⟨s3, d3, s4, d4, rfl, T2⟩
  have B3 := hide (laterB (unhide B2) T2.bel)
  have O3 := hide (ownsRow_below (unhide T1).o1 T2.bel)
  clear T2 T1 B2 cI cS
  obtain ⟨P1, hP1⟩ : ∃ p, (updS l m).length = p := ⟨_, rfl⟩
  obtain ⟨Q1, hQ1⟩ : ∃ p, (updG l m).length = p := ⟨_, rfl⟩
  have p1 := updS_len l m
  have q1 := updG_len l m
  rw [hP1] at O3 p1
  rw [hQ1] at q1
  rw [hP1, hQ1]
  have hP1 := hide hP1
  have hQ1 := hide hQ1
  have e1 : ((P1 : Int) != P1) = false := by simp
  have e2 : ((Q1 : Int) != Q1) = false := by simp
  obtain ⟨v1, hv1⟩ : ∃ v, pOk l = v := ⟨_, rfl⟩
  obtain ⟨v2, hv2⟩ : ∃ v, pOk m = v := ⟨_, rfl⟩
  have hv1 := hide hv1
  have hv2 := hide hv2
  go_wp2_with fail
  refine (unhide cP _ (unhide B3)).mono ?_
  rintro e w4 ⟨rfl, hb⟩
  rw [unhide hv1]
  have B4 := hide (laterB (unhide B3) hb)
  have O4 := hide (ownsRow_below (unhide O3) hb)
  clear hb B3 O3
  have hbad := hide (show (v1 && v2) = false → P1 = 0 ∧ Q1 = 0 from fun h => by
    have := updS_no (l := l) (m := m) (by rw [unhide hv1, unhide hv2]; exact h)
    rw [this.1] at hP1; rw [this.2] at hQ1
    exact ⟨(unhide hP1).symm, (unhide hQ1).symm⟩)
  cases v1 with
  | false =>
    obtain ⟨h1, h2⟩ := unhide hbad rfl
    have e3 : ((P1 : Int) + Q1 == 0) = true := by simp; omega
    have e4 : decide (P1 + Q1 = 0) = true := by simp; omega
    clear hbad hP1 hQ1 O4
    subst h1 h2
    go_wp2
    go_ret
    exact ⟨rfl, laterB (unhide bw) (unhide B4)⟩
  | true =>
  go_wp2_with fail
  refine (unhide cQ _ (unhide B4)).mono ?_
  rintro e w5 ⟨rfl, hb⟩
  rw [unhide hv2]
  have B5 := hide (laterB (unhide B4) hb)
  have O5 := hide (ownsRow_below (unhide O4) hb)
  clear hb B4 O4
  cases v2 with
  | false =>
    obtain ⟨h1, h2⟩ := unhide hbad rfl
    clear hbad hP1 hQ1 O5
    subst h1 h2
    go_wp2
    go_ret
    exact ⟨rfl, laterB (unhide bw) (unhide B5)⟩
  | true =>
  go_wp2_with fail
  refine (unhide cB _ (unhide B5)).mono ?_
  rintro e w6 ⟨s5, d5, s6, d6, rfl, T6⟩
  have B6 := hide (laterB (unhide B5) T6.bel)
  have O6 := hide (ownsRow_below (unhide O5) T6.bel)
  have X6 := hide T6.o1
  clear T6 B5 O5 cB cP cQ hbad
  obtain ⟨P2, hP2⟩ : ∃ p, (updS m l).length = p := ⟨_, rfl⟩
  obtain ⟨Q2, hQ2⟩ : ∃ p, (updG m l).length = p := ⟨_, rfl⟩
  have p2 := updS_len m l
  have q2 := updG_len m l
  rw [hP2] at X6 p2
  rw [hQ2] at q2
  rw [hP2, hQ2]
  have hcnt := hide (counts (unhide hv1) (unhide hv2))
  have hu1 := updS_yes (unhide hv1) (unhide hv2)
  have hu2 := updS_yes (unhide hv2) (unhide hv1)
  rw [hu1.1] at O6 hP1
  rw [hu1.2] at hQ1
  rw [hu2.1] at X6 hP2
  rw [hu2.2] at hQ2
  have hP2 := hide hP2
  have hQ2 := hide hQ2
  clear hu1 hu2
  generalize sendL l m = A at *
  generalize sendL m l = C at *
  generalize goneL l m = D at *
  generalize goneL m l = E at *
  go_wp2
  go_loopw [11, 12] (fun u t wr => ∃ (i b : Nat), i ≤ P1 ∧ b ≤ i * 100 ∧ u = .int .i64 b ∧ t = .int .i64 i ∧ Hid (b = ((A.take i).map (occ C)).sum) ∧ Hid (Below w6.heap.size w6 wr)) (fun _ t _ => P1 - (intOf t).toNat)
  case atStart => exact ⟨0, 0, by omega, by omega, rfl, rfl, hide (by simp), hide (Below.refl _ _)⟩
  case round =>
    obtain ⟨i, b, hi, hb, rfl, rfl, hsum, hB⟩ := hrel
    by_cases hlt : i < P1
    rotate_left
    · have gg : decide ((i : Int) < P1) = false := by simp; omega
      have hie : i = P1 := by omega
      have hbb : b = bothN A C := by
        have := unhide hsum
        rw [hie, List.take_of_length_le (by have := unhide hP1; omega)] at this; exact this
      obtain ⟨k1, k2, k3⟩ := unhide hcnt
      rw [← hbb, unhide hP1] at k2
      rw [← hbb, unhide hP2] at k3
      rw [unhide hQ1, unhide hQ2, unhide hll', unhide hml'] at k1
      rw [unhide hQ2] at k2
      rw [unhide hQ1] at k3
      have e3 : ((n1 : Int) - Q1 == (n2 : Int) - Q2) = true := by simp; omega
      have e4 : ((P1 : Int) == (b : Int) + Q2) = true := by simp; omega
      have e5 : ((P2 : Int) == (b : Int) + Q1) = true := by simp; omega
      have hbo : b ≤ 10000 := by omega
      have k1 := hide k1
      have k2 := hide k2
      have k3 := hide k3
      clear hbb hie hsum hcnt
      go_wp2
      go_ret
      exact ⟨ret_bool (by have := unhide k1; have := unhide k2; have := unhide k3; first | rfl | (simp; omega)), laterB (laterB (unhide bw) (unhide B6)) (unhide hB)⟩
    have gg : decide ((i : Int) < P1) = true := by simp; omega
    obtain ⟨s, hs⟩ : ∃ s, A[i]? = some s := ⟨A[i]'(by have := unhide hP1; omega), List.getElem?_eq_getElem _⟩
    have hsn := hide (sum_snoc (f := occ C) hs)
    have hs := hide hs
    go_wp2
    go_loopw [11, 13] (fun u t wi => ∃ (j d : Nat), j ≤ P2 ∧ d ≤ b + j ∧ u = .int .i64 d ∧ t = .int .i64 j ∧ Hid (d = b + occ (C.take j) s) ∧ Hid (Below w6.heap.size w6 wi)) (fun _ t _ => P2 - (intOf t).toNat)
    case atStart => exact ⟨0, b, by omega, by omega, rfl, rfl, hide (by simp [occ]), hB⟩
    case round =>
      clear hB
      obtain ⟨j, d, hj, hd, rfl, rfl, hoc, hB⟩ := hrel
      by_cases hlj : j < P2
      rotate_left
      · have g2 : decide ((j : Int) < P2) = false := by simp; omega
        have hn := hide (show d = ((A.take (i + 1)).map (occ C)).sum by
          have h1 := unhide hoc
          rw [List.take_of_length_le (by have := unhide hP2; omega)] at h1
          rw [unhide hsn, h1, ← unhide hsum])
        clear hoc hsum
        go_wp2
        go_roundw
        case rel => exact ⟨i + 1, d, by omega, by omega, rfl, by go_num, hn, hB⟩
        case measure => simp [intOf]; omega
      have g2 : decide ((j : Int) < P2) = true := by simp; omega
      obtain ⟨r, hr⟩ : ∃ r, C[j]? = some r := ⟨C[j]'(by have := unhide hP2; omega), List.getElem?_eq_getElem _⟩
      have hos := hide (occ_snoc (s := s) hr)
      have y0 := ownS_at (unhide hs) (ownsRow_below (unhide O6) (unhide hB))
      have y1 := ownS_at hr (ownsRow_below (unhide X6) (unhide hB))
      clear hr
      cases he : (s.toList == r.toList) with
      | true =>
        have hn := hide (show d + 1 = b + occ (C.take (j + 1)) s by rw [unhide hos, he, unhide hoc]; simp; omega)
        clear hoc hos
        go_wp2_with fail
        go_quiet (fail)
        generalize hX : World.drewN _ _ = X
        have BX := hide (show Below w6.heap.size w6 X by rw [← hX]; exact below_drewN (unhide hB) _)
        clear hX hB
        go_wp2
        go_roundw
        case rel => exact ⟨j + 1, d + 1, by omega, by omega, by go_num, by go_num, hn, BX⟩
        case measure => simp [intOf]; omega
      | false =>
        have hn := hide (show d = b + occ (C.take (j + 1)) s by rw [unhide hos, he, unhide hoc]; simp)
        clear hoc hos
        go_wp2_with fail
        go_quiet (fail)
        generalize hX : World.drewN _ _ = X
        have BX := hide (show Below w6.heap.size w6 X by rw [← hX]; exact below_drewN (unhide hB) _)
        clear hX hB
        go_wp2
        go_roundw
        case rel => exact ⟨j + 1, d, by omega, by omega, rfl, by go_num, hn, BX⟩
        case measure => simp [intOf]; omega

end Go.Proofs.Ytcgdcabmjihijaa
