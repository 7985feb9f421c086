/-
  Contract of the merge in place, in general, given that of shorter parts; all blocks but the list's own stand.
-/
import Derived.Test.YtmpbcmpjfcddoaaSyG
namespace Go.Proofs.Ytmpbcmpjfcddoaa
open Go.RowKit
set_option linter.unusedVariables false
set_option linter.unusedSimpArgs false
namespace D

set_option maxRecDepth 100000 in
set_option maxHeartbeats 12800000 in
theorem sym_g2 (B gg n cap a m b : Nat) (L : List Kl) (w : World) (hO : Own w B gg n cap L) (hn : n ≤ 1000) (ham : a < m) (hmb : m < b) (hbn : b ≤ n) (hs1 : SrtdIn L a m) (hs2 : SrtdIn L m b) (hm1 : m ≠ a + 1) (hb1 : b ≠ m + 1)
    (IH : ∀ (a' m' b' : Nat) (L' : List Kl) (w' : World), b' - a' < b - a → Own w' B gg n cap L' → a' < m' → m' < b' → b' ≤ n → SrtdIn L' a' m' → SrtdIn L' m' b' → Calls Try.prog 54 #[.slice (some ⟨gg, 0, none⟩) n cap, .int .i64 a', .int .i64 m', .int .i64 b', (.func (.func 34) #[] #[])] w' fun en w2 => en = .returned (.tuple #[]) ∧ ∃ L2, Dn w' B gg n cap L' L2 w2 ∧ Out L' L2 a' b' ∧ SrtdIn L2 a' b' ∧ Sub L' L2 a' b')
    (mid : Nat) (hmid : (a + b) / 2 = mid) (hcm : m ≤ mid) : Calls Try.prog 54 #[.slice (some ⟨gg, 0, none⟩) n cap, .int .i64 a, .int .i64 m, .int .i64 b, (.func (.func 34) #[] #[])] w fun en w' => en = .returned (.tuple #[]) ∧ ∃ L', Dn w B gg n cap L L' w' ∧ Out L L' a b ∧ SrtdIn L' a b ∧ Sub L L' a b := by
  have hLn : L.length = n := own_len hO
  have hD0 : Hid (Own w B gg n cap L ∧ w.grownBy w (some gg)) := hide ⟨hO, grown_refl _ _⟩
  have hs1' := hide hs1
  have hs2' := hide hs2
  have IH' := hide IH
  have hmb2 : a < mid ∧ mid < b ∧ a + b ≤ 2 * mid + 1 ∧ 2 * mid ≤ a + b := by omega
  obtain ⟨hb2, hb3, hb4, hb5⟩ := hmb2
  obtain ⟨nn, hnn⟩ : ∃ nn, mid + m = nn := ⟨_, rfl⟩
  obtain ⟨P, hP⟩ : ∃ P, nn = P + 1 := ⟨nn - 1, by omega⟩
  obtain ⟨s0, hs0⟩ : ∃ s0, a = s0 := ⟨_, rfl⟩; obtain ⟨r0, hr0⟩ : ∃ r0, m = r0 := ⟨_, rfl⟩
  have t0 : ((m : Int) - a == 1) = false := by simp; omega
  have tw : IntKind.i64.wrap ((m : Int) - a) = (m : Int) - a := by rw [IntKind.wrap_i64]; omega
  have t1 : ((b : Int) - m == 1) = false := by simp; omega
  have tv : IntKind.i64.wrap ((b : Int) - m) = (b : Int) - m := by rw [IntKind.wrap_i64]; omega
  have tm : ((a : Int) + b) / 2 = mid := by omega
  have tn : IntKind.i64.wrap ((mid : Int) + m) = nn := by rw [IntKind.wrap_i64]; omega
  have tp : IntKind.i64.wrap ((nn : Int) - 1) = P := by rw [IntKind.wrap_i64]; omega
  have ka1 : a ≤ s0 := by omega
  have ka2 : s0 ≤ a := by omega
  have ka3 : m ≤ r0 := by omega
  have ka4 : r0 ≤ m := by omega
  have tg : decide ((mid : Int) < m) = false := by simp; omega
  have tg2 : decide (mid < m) = false := by simp; omega
  have hk := hide (And.intro hnn (And.intro hP (And.intro hs0 hr0)))
  clear hO hs1 hs2 hm1 hb1 IH hmid
  clear hnn hP hs0 hr0
  go_enter Try.func54, Try.ntmps54
  go_wp2
  go_loopw [20, 21] (fun s t wr => ∃ i j : Nat, s0 ≤ i ∧ i ≤ j ∧ j ≤ r0 ∧ s = .int .i64 i ∧ t = .int .i64 j ∧ Hid (Own wr B gg n cap L ∧ w.grownBy wr (some gg)) ∧ Hid (i = s0 ∨ ∃ x y, L[i - 1]? = some x ∧ L[nn - i]? = some y ∧ x.1 ≤ y.1) ∧ Hid (j = r0 ∨ ∃ x y, L[P - j]? = some x ∧ L[j]? = some y ∧ x.1 < y.1)) (fun s t _ => (intOf t).toNat - (intOf s).toNat)
  case atStart => exact ⟨a, m, by have := unhide hk; omega, by omega, by have := unhide hk; omega, rfl, rfl, hD0, hide (Or.inl (unhide hk).2.2.1), hide (Or.inl (unhide hk).2.2.2)⟩
  case round =>
    clear hD0
    obtain ⟨i, j, hi, hij, hj, rfl, rfl, hD, hI, hJ⟩ := hrel
    by_cases hlt : i < j
    · obtain ⟨cc, hh⟩ : ∃ h : Nat, ((i : Int) + j) / 2 = h := ⟨(i + j) / 2, by omega⟩
      have hih : i ≤ cc ∧ cc < j := by omega
      obtain ⟨h1, h2⟩ := hih
      obtain ⟨q, hq⟩ : ∃ q, P = q + cc := ⟨P - cc, by have := unhide hk; omega⟩
      have hqb : m ≤ q ∧ q < b := by have := unhide hk; omega
      obtain ⟨⟨x0, x1, x2, x3, x4⟩, hx⟩ : ∃ x, L[q]? = some x := ⟨L[q]'(by omega), List.getElem?_eq_getElem (by omega)⟩
      obtain ⟨⟨y0, y1, y2, y3, y4⟩, hy⟩ : ∃ y, L[cc]? = some y := ⟨L[cc]'(by omega), List.getElem?_eq_getElem (by omega)⟩
      obtain ⟨c0, c1, c2, c3, c4⟩ := own_cells hx (unhide hD).1
      obtain ⟨d0, d1, d2, d3, d4⟩ := own_cells hy (unhide hD).1
      obtain ⟨c, hc⟩ : ∃ c, cmpI x0 y0 = c := ⟨_, rfl⟩
      have hc' := hide hc
      have hx' := hide hx
      have hy' := hide hy
      have hq' := hide hq
      have hall : Hid (wr.cell? ⟨gg, q * 5, none⟩ = some (.int .i64 x0) ∧ wr.cell? ⟨gg, q * 5 + 1, none⟩ = some (.int .i64 x1) ∧ wr.cell? ⟨gg, q * 5 + 2, none⟩ = some (.int .i64 x2) ∧ wr.cell? ⟨gg, q * 5 + 3, none⟩ = some (.int .i64 x3) ∧ wr.cell? ⟨gg, q * 5 + 4, none⟩ = some (.int .i64 x4) ∧ wr.cell? ⟨gg, cc * 5, none⟩ = some (.int .i64 y0) ∧ wr.cell? ⟨gg, cc * 5 + 1, none⟩ = some (.int .i64 y1) ∧ wr.cell? ⟨gg, cc * 5 + 2, none⟩ = some (.int .i64 y2) ∧ wr.cell? ⟨gg, cc * 5 + 3, none⟩ = some (.int .i64 y3) ∧ wr.cell? ⟨gg, cc * 5 + 4, none⟩ = some (.int .i64 y4) ∧ Below wr.heap.size wr wr) := hide ⟨c0, c1, c2, c3, c4, d0, d1, d2, d3, d4, Below.refl _ _⟩
      have tq : IntKind.i64.wrap ((P : Int) - cc) = q := by rw [IntKind.wrap_i64]; omega
      have b1 : (q : Int) < n := by omega
      have b2 : (0 : Int) ≤ q := by omega
      have b3 : (cc : Int) < n := by omega
      have b4 : (0 : Int) ≤ cc := by omega
      clear hc hx hy hq hqb c0 c1 c2 c3 c4 d0 d1 d2 d3 d4
      go_wp2_with fail
      go_region_held3 (fun w' => w'.cell? ⟨gg, q * 5, none⟩ = some (.int .i64 x0) ∧ w'.cell? ⟨gg, q * 5 + 1, none⟩ = some (.int .i64 x1) ∧ w'.cell? ⟨gg, q * 5 + 2, none⟩ = some (.int .i64 x2) ∧ w'.cell? ⟨gg, q * 5 + 3, none⟩ = some (.int .i64 x3) ∧ w'.cell? ⟨gg, q * 5 + 4, none⟩ = some (.int .i64 x4) ∧ w'.cell? ⟨gg, cc * 5, none⟩ = some (.int .i64 y0) ∧ w'.cell? ⟨gg, cc * 5 + 1, none⟩ = some (.int .i64 y1) ∧ w'.cell? ⟨gg, cc * 5 + 2, none⟩ = some (.int .i64 y2) ∧ w'.cell? ⟨gg, cc * 5 + 3, none⟩ = some (.int .i64 y3) ∧ w'.cell? ⟨gg, cc * 5 + 4, none⟩ = some (.int .i64 y4) ∧ Below wr.heap.size wr w')
        (first | (with_reducible refine keepN ?_ hb; with_reducible assumption) | (with_reducible exact keepNd (unhide hall)))
        ((go_at_call 34; refine (by_any x0 x1 x2 x3 x4 y0 y1 y2 y3 y4 c _ (unhide hc')).mono ?_; rintro en w1 ⟨rfl, hb⟩))
      all_goals
        rename_i hH
        have hB := hide hH.2.2.2.2.2.2.2.2.2.2
        have hD1 : Hid (Own w1 B gg n cap L ∧ w.grownBy w1 (some gg)) := hide ⟨ownsRow_below (unhide hD).1 (unhide hB), grown_trans (unhide hD).2 ⟨(unhide hB).os, (unhide hB).tape, (unhide hB).output, (unhide hB).size, fun j hj _ => (unhide hB).block j hj⟩⟩
        clear hH hB hD hall
        by_cases hlt2 : x0 < y0
        · have hcc : c = -1 := by rw [← unhide hc']; unfold cmpI; rw [if_pos hlt2]
          subst hcc
          have hJ2 : Hid (cc = r0 ∨ ∃ x y, L[P - cc]? = some x ∧ L[cc]? = some y ∧ x.1 < y.1) := hide (Or.inr ⟨_, _, by rw [show P - cc = q by have := unhide hq'; omega]; exact unhide hx', unhide hy', hlt2⟩)
          clear hJ
          go_wp2
          go_roundw
          case rel => exact ⟨i, cc, hi, by omega, by omega, rfl, rfl, hD1, hI, hJ2⟩
          case measure => simp [intOf]; omega
        · have hcc : c = 0 ∨ c = 1 := by rw [← unhide hc']; unfold cmpI; rw [if_neg hlt2]; split <;> simp
          have hI2 : Hid (cc + 1 = s0 ∨ ∃ x y, L[cc + 1 - 1]? = some x ∧ L[nn - (cc + 1)]? = some y ∧ x.1 ≤ y.1) := hide (Or.inr ⟨_, _, unhide hy', by rw [show nn - (cc + 1) = q by have := unhide hq'; have := unhide hk; omega]; exact unhide hx', by show y0 ≤ x0; omega⟩)
          clear hI
          rcases hcc with rfl | rfl
          · go_wp2
            go_roundw
            case rel => exact ⟨cc + 1, j, by omega, by omega, hj, by go_num, rfl, hD1, hI2, hJ⟩
            case measure => simp [intOf]; omega
          · go_wp2
            go_roundw
            case rel => exact ⟨cc + 1, j, by omega, by omega, hj, by go_num, rfl, hD1, hI2, hJ⟩
            case measure => simp [intOf]; omega
    have hije : i = j := by omega
    subst hije
    have tl : decide ((i : Int) < i) = false := by simp
    obtain ⟨e, he⟩ : ∃ e, nn = e + i := ⟨nn - i, by have := unhide hk; omega⟩
    have te : IntKind.i64.wrap ((nn : Int) - i) = e := by rw [IntKind.wrap_i64]; have := unhide hk; omega
    have hbd : a ≤ i ∧ i ≤ m ∧ m ≤ e ∧ e ≤ b ∧ e + i = mid + m ∧ i ≤ mid ∧ mid ≤ e := by have := unhide hk; omega
    obtain ⟨v1, v2, v3, v4, v5, v6, v7⟩ := hbd
    have hMid : Hid (∀ L1 : List Kl, (∀ k : Nat, L1[k]? = L[roi i m e k]?) → Mid L L1 a i mid e b ∧ (∀ p q x y, i ≤ p → p < m → m ≤ q → q < e → L[p]? = some x → L[q]? = some y → y.1 < x.1)) := hide (fun L1 h => by
      refine mid_of v1 v2 v3 v4 v5 (by omega) (unhide hs1') (unhide hs2') ?_ ?_ h
      · rcases unhide hI with h1 | ⟨x, y, hx, hy, hxy⟩
        · left; rw [h1]; exact (unhide hk).2.2.1.symm
        · right; right; exact ⟨x, y, hx, by rw [show nn - i = e by omega] at hy; exact hy, hxy⟩
      · rcases unhide hJ with h1 | ⟨x, y, hx, hy, hxy⟩
        · right; left; rw [h1]; exact (unhide hk).2.2.2.symm
        · right; right; exact ⟨x, y, by rw [show P - i = e - 1 by have := unhide hk; omega] at hx; exact hx, hy, hxy⟩)
    clear hI hJ hs1' hs2' hlt he
    have hDn : Hid (Dn w B gg n cap L L wr) := hide ⟨(unhide hD).1, Alk.rfl, (unhide hD).2⟩
    have hrL : Hid (i = m ∨ e = m → ∀ k : Nat, L[k]? = L[roi i m e k]?) := hide (fun h k => roi_id h k)
    by_cases g1 : i < m
    rotate_left
    · have u1 : decide ((i : Int) < m) = false := by simp; omega
      have hR : Hid (∀ k : Nat, L[k]? = L[roi i m e k]?) := hide (unhide hrL (by omega))
      have hM := hide (unhide hMid L (unhide hR)).1
      have hD1 := hDn
      try (exfalso; omega)
      all_goals
        by_cases g3 : a < i
        rotate_left
        · have u3 : decide ((a : Int) < i) = false := by simp; omega
          have z3 : i = a := by omega
          have o12 : Hid (Out L L a mid) := hide Out.rfl
          have s12 : Hid (SrtdIn L a mid) := hide (srtd_join (unhide hM).s1 (unhide hM).s2 (Or.inl z3))
          have u12 : Hid (Sub L L a mid) := hide Sub.rfl
          have s34 : Hid (SrtdIn L mid e ∧ SrtdIn L e b) := hide ⟨(unhide hM).s3, (unhide hM).s4⟩
          have hD2 := hD1
          clear z3
          try (exfalso; omega)
          all_goals
            by_cases g5 : mid < e
            rotate_left
            · have u5 : decide ((mid : Int) < e) = false := by simp; omega
              have z5 : mid = e := by omega
              try (exfalso; omega)
              all_goals
                have hfin := hide (sym_fin v1 v2 v3 v4 v6 v7 (unhide hR) (unhide hM) (unhide o12) (unhide s12) (unhide u12) Out.rfl (srtd_join (unhide s34).1 (unhide s34).2 (Or.inl z5.symm)) Sub.rfl)
                go_wp2
                refine bodyPost_end (results_none rfl _ _ _) rfl ?_
                exact ⟨rfl, L, unhide hD2, (unhide hfin).1, (unhide hfin).2.1, (unhide hfin).2.2⟩
            have u5 : decide ((mid : Int) < e) = true := by simp; omega
            by_cases g6 : e < b
            rotate_left
            · have u6 : decide ((e : Int) < b) = false := by simp; omega
              have z6 : e = b := by omega
              try (exfalso; omega)
              all_goals
                have hfin := hide (sym_fin v1 v2 v3 v4 v6 v7 (unhide hR) (unhide hM) (unhide o12) (unhide s12) (unhide u12) Out.rfl (srtd_join (unhide s34).1 (unhide s34).2 (Or.inr z6)) Sub.rfl)
                go_wp2
                refine bodyPost_end (results_none rfl _ _ _) rfl ?_
                exact ⟨rfl, L, unhide hD2, (unhide hfin).1, (unhide hfin).2.1, (unhide hfin).2.2⟩
            have u6 : decide ((e : Int) < b) = true := by simp; omega
            try (exfalso; omega)
            all_goals
             go_wp2_with fail
             refine (unhide IH' mid e b L _ (by omega) (unhide hD2).1 g5 g6 hbn (unhide s34).1 (unhide s34).2).mono ?_
             rintro en w8 ⟨rfl, L3, hDn3, o3, s3, u3⟩
             have hfin := hide (sym_fin v1 v2 v3 v4 v6 v7 (unhide hR) (unhide hM) (unhide o12) (unhide s12) (unhide u12) o3 s3 u3)
             have hD3 := hide ((unhide hD2).next hDn3)
             clear hDn3 o3 s3 u3
             go_wp2
             refine bodyPost_end (results_none rfl _ _ _) rfl ?_
             exact ⟨rfl, L3, unhide hD3, (unhide hfin).1, (unhide hfin).2.1, (unhide hfin).2.2⟩
        have u3 : decide ((a : Int) < i) = true := by simp; omega
        by_cases g4 : i < mid
        rotate_left
        · have u4 : decide ((i : Int) < mid) = false := by simp; omega
          have z4 : i = mid := by omega
          have o12 : Hid (Out L L a mid) := hide Out.rfl
          have s12 : Hid (SrtdIn L a mid) := hide (srtd_join (unhide hM).s1 (unhide hM).s2 (Or.inr z4))
          have u12 : Hid (Sub L L a mid) := hide Sub.rfl
          have s34 : Hid (SrtdIn L mid e ∧ SrtdIn L e b) := hide ⟨(unhide hM).s3, (unhide hM).s4⟩
          have hD2 := hD1
          clear z4
          try (exfalso; omega)
          all_goals
            by_cases g5 : mid < e
            rotate_left
            · have u5 : decide ((mid : Int) < e) = false := by simp; omega
              have z5 : mid = e := by omega
              try (exfalso; omega)
              all_goals
                have hfin := hide (sym_fin v1 v2 v3 v4 v6 v7 (unhide hR) (unhide hM) (unhide o12) (unhide s12) (unhide u12) Out.rfl (srtd_join (unhide s34).1 (unhide s34).2 (Or.inl z5.symm)) Sub.rfl)
                go_wp2
                refine bodyPost_end (results_none rfl _ _ _) rfl ?_
                exact ⟨rfl, L, unhide hD2, (unhide hfin).1, (unhide hfin).2.1, (unhide hfin).2.2⟩
            have u5 : decide ((mid : Int) < e) = true := by simp; omega
            by_cases g6 : e < b
            rotate_left
            · have u6 : decide ((e : Int) < b) = false := by simp; omega
              have z6 : e = b := by omega
              try (exfalso; omega)
              all_goals
                have hfin := hide (sym_fin v1 v2 v3 v4 v6 v7 (unhide hR) (unhide hM) (unhide o12) (unhide s12) (unhide u12) Out.rfl (srtd_join (unhide s34).1 (unhide s34).2 (Or.inr z6)) Sub.rfl)
                go_wp2
                refine bodyPost_end (results_none rfl _ _ _) rfl ?_
                exact ⟨rfl, L, unhide hD2, (unhide hfin).1, (unhide hfin).2.1, (unhide hfin).2.2⟩
            have u6 : decide ((e : Int) < b) = true := by simp; omega
            try (exfalso; omega)
            all_goals
             go_wp2_with fail
             refine (unhide IH' mid e b L _ (by omega) (unhide hD2).1 g5 g6 hbn (unhide s34).1 (unhide s34).2).mono ?_
             rintro en w8 ⟨rfl, L3, hDn3, o3, s3, u3⟩
             have hfin := hide (sym_fin v1 v2 v3 v4 v6 v7 (unhide hR) (unhide hM) (unhide o12) (unhide s12) (unhide u12) o3 s3 u3)
             have hD3 := hide ((unhide hD2).next hDn3)
             clear hDn3 o3 s3 u3
             go_wp2
             refine bodyPost_end (results_none rfl _ _ _) rfl ?_
             exact ⟨rfl, L3, unhide hD3, (unhide hfin).1, (unhide hfin).2.1, (unhide hfin).2.2⟩
        have u4 : decide ((i : Int) < mid) = true := by simp; omega
        go_wp2_with fail
        refine (unhide IH' a i mid L _ (by omega) (unhide hD1).1 g3 g4 (by omega) (unhide hM).s1 (unhide hM).s2).mono ?_
        rintro en w7 ⟨rfl, L2, hDn2, o2, s2, u2⟩
        have o12 := hide o2
        have s12 := hide s2
        have u12 := hide u2
        have s34 : Hid (SrtdIn L2 mid e ∧ SrtdIn L2 e b) := hide ⟨(unhide hM).s3.out o2 (Or.inr (Nat.le_refl _)), (unhide hM).s4.out o2 (Or.inr v7)⟩
        have hD2 := hide ((unhide hD1).next hDn2)
        clear hDn2 o2 s2 u2
        try (exfalso; omega)
        all_goals
          by_cases g5 : mid < e
          rotate_left
          · have u5 : decide ((mid : Int) < e) = false := by simp; omega
            have z5 : mid = e := by omega
            try (exfalso; omega)
            all_goals
              have hfin := hide (sym_fin v1 v2 v3 v4 v6 v7 (unhide hR) (unhide hM) (unhide o12) (unhide s12) (unhide u12) Out.rfl (srtd_join (unhide s34).1 (unhide s34).2 (Or.inl z5.symm)) Sub.rfl)
              go_wp2
              refine bodyPost_end (results_none rfl _ _ _) rfl ?_
              exact ⟨rfl, L2, unhide hD2, (unhide hfin).1, (unhide hfin).2.1, (unhide hfin).2.2⟩
          have u5 : decide ((mid : Int) < e) = true := by simp; omega
          by_cases g6 : e < b
          rotate_left
          · have u6 : decide ((e : Int) < b) = false := by simp; omega
            have z6 : e = b := by omega
            try (exfalso; omega)
            all_goals
              have hfin := hide (sym_fin v1 v2 v3 v4 v6 v7 (unhide hR) (unhide hM) (unhide o12) (unhide s12) (unhide u12) Out.rfl (srtd_join (unhide s34).1 (unhide s34).2 (Or.inr z6)) Sub.rfl)
              go_wp2
              refine bodyPost_end (results_none rfl _ _ _) rfl ?_
              exact ⟨rfl, L2, unhide hD2, (unhide hfin).1, (unhide hfin).2.1, (unhide hfin).2.2⟩
          have u6 : decide ((e : Int) < b) = true := by simp; omega
          try (exfalso; omega)
          all_goals
           go_wp2_with fail
           refine (unhide IH' mid e b L2 _ (by omega) (unhide hD2).1 g5 g6 hbn (unhide s34).1 (unhide s34).2).mono ?_
           rintro en w8 ⟨rfl, L3, hDn3, o3, s3, u3⟩
           have hfin := hide (sym_fin v1 v2 v3 v4 v6 v7 (unhide hR) (unhide hM) (unhide o12) (unhide s12) (unhide u12) o3 s3 u3)
           have hD3 := hide ((unhide hD2).next hDn3)
           clear hDn3 o3 s3 u3
           go_wp2
           refine bodyPost_end (results_none rfl _ _ _) rfl ?_
           exact ⟨rfl, L3, unhide hD3, (unhide hfin).1, (unhide hfin).2.1, (unhide hfin).2.2⟩
    have u1 : decide ((i : Int) < m) = true := by simp; omega
    by_cases g2 : m < e
    rotate_left
    · have u2 : decide ((m : Int) < e) = false := by simp; omega
      have hR : Hid (∀ k : Nat, L[k]? = L[roi i m e k]?) := hide (unhide hrL (by omega))
      have hM := hide (unhide hMid L (unhide hR)).1
      have hD1 := hDn
      try (exfalso; omega)
      all_goals
        by_cases g3 : a < i
        rotate_left
        · have u3 : decide ((a : Int) < i) = false := by simp; omega
          have z3 : i = a := by omega
          have o12 : Hid (Out L L a mid) := hide Out.rfl
          have s12 : Hid (SrtdIn L a mid) := hide (srtd_join (unhide hM).s1 (unhide hM).s2 (Or.inl z3))
          have u12 : Hid (Sub L L a mid) := hide Sub.rfl
          have s34 : Hid (SrtdIn L mid e ∧ SrtdIn L e b) := hide ⟨(unhide hM).s3, (unhide hM).s4⟩
          have hD2 := hD1
          clear z3
          try (exfalso; omega)
          all_goals
            by_cases g5 : mid < e
            rotate_left
            · have u5 : decide ((mid : Int) < e) = false := by simp; omega
              have z5 : mid = e := by omega
              try (exfalso; omega)
              all_goals
                have hfin := hide (sym_fin v1 v2 v3 v4 v6 v7 (unhide hR) (unhide hM) (unhide o12) (unhide s12) (unhide u12) Out.rfl (srtd_join (unhide s34).1 (unhide s34).2 (Or.inl z5.symm)) Sub.rfl)
                go_wp2
                refine bodyPost_end (results_none rfl _ _ _) rfl ?_
                exact ⟨rfl, L, unhide hD2, (unhide hfin).1, (unhide hfin).2.1, (unhide hfin).2.2⟩
            have u5 : decide ((mid : Int) < e) = true := by simp; omega
            by_cases g6 : e < b
            rotate_left
            · have u6 : decide ((e : Int) < b) = false := by simp; omega
              have z6 : e = b := by omega
              try (exfalso; omega)
              all_goals
                have hfin := hide (sym_fin v1 v2 v3 v4 v6 v7 (unhide hR) (unhide hM) (unhide o12) (unhide s12) (unhide u12) Out.rfl (srtd_join (unhide s34).1 (unhide s34).2 (Or.inr z6)) Sub.rfl)
                go_wp2
                refine bodyPost_end (results_none rfl _ _ _) rfl ?_
                exact ⟨rfl, L, unhide hD2, (unhide hfin).1, (unhide hfin).2.1, (unhide hfin).2.2⟩
            have u6 : decide ((e : Int) < b) = true := by simp; omega
            try (exfalso; omega)
            all_goals
             go_wp2_with fail
             refine (unhide IH' mid e b L _ (by omega) (unhide hD2).1 g5 g6 hbn (unhide s34).1 (unhide s34).2).mono ?_
             rintro en w8 ⟨rfl, L3, hDn3, o3, s3, u3⟩
             have hfin := hide (sym_fin v1 v2 v3 v4 v6 v7 (unhide hR) (unhide hM) (unhide o12) (unhide s12) (unhide u12) o3 s3 u3)
             have hD3 := hide ((unhide hD2).next hDn3)
             clear hDn3 o3 s3 u3
             go_wp2
             refine bodyPost_end (results_none rfl _ _ _) rfl ?_
             exact ⟨rfl, L3, unhide hD3, (unhide hfin).1, (unhide hfin).2.1, (unhide hfin).2.2⟩
        have u3 : decide ((a : Int) < i) = true := by simp; omega
        by_cases g4 : i < mid
        rotate_left
        · have u4 : decide ((i : Int) < mid) = false := by simp; omega
          have z4 : i = mid := by omega
          have o12 : Hid (Out L L a mid) := hide Out.rfl
          have s12 : Hid (SrtdIn L a mid) := hide (srtd_join (unhide hM).s1 (unhide hM).s2 (Or.inr z4))
          have u12 : Hid (Sub L L a mid) := hide Sub.rfl
          have s34 : Hid (SrtdIn L mid e ∧ SrtdIn L e b) := hide ⟨(unhide hM).s3, (unhide hM).s4⟩
          have hD2 := hD1
          clear z4
          try (exfalso; omega)
          all_goals
            by_cases g5 : mid < e
            rotate_left
            · have u5 : decide ((mid : Int) < e) = false := by simp; omega
              have z5 : mid = e := by omega
              try (exfalso; omega)
              all_goals
                have hfin := hide (sym_fin v1 v2 v3 v4 v6 v7 (unhide hR) (unhide hM) (unhide o12) (unhide s12) (unhide u12) Out.rfl (srtd_join (unhide s34).1 (unhide s34).2 (Or.inl z5.symm)) Sub.rfl)
                go_wp2
                refine bodyPost_end (results_none rfl _ _ _) rfl ?_
                exact ⟨rfl, L, unhide hD2, (unhide hfin).1, (unhide hfin).2.1, (unhide hfin).2.2⟩
            have u5 : decide ((mid : Int) < e) = true := by simp; omega
            by_cases g6 : e < b
            rotate_left
            · have u6 : decide ((e : Int) < b) = false := by simp; omega
              have z6 : e = b := by omega
              try (exfalso; omega)
              all_goals
                have hfin := hide (sym_fin v1 v2 v3 v4 v6 v7 (unhide hR) (unhide hM) (unhide o12) (unhide s12) (unhide u12) Out.rfl (srtd_join (unhide s34).1 (unhide s34).2 (Or.inr z6)) Sub.rfl)
                go_wp2
                refine bodyPost_end (results_none rfl _ _ _) rfl ?_
                exact ⟨rfl, L, unhide hD2, (unhide hfin).1, (unhide hfin).2.1, (unhide hfin).2.2⟩
            have u6 : decide ((e : Int) < b) = true := by simp; omega
            try (exfalso; omega)
            all_goals
             go_wp2_with fail
             refine (unhide IH' mid e b L _ (by omega) (unhide hD2).1 g5 g6 hbn (unhide s34).1 (unhide s34).2).mono ?_
             rintro en w8 ⟨rfl, L3, hDn3, o3, s3, u3⟩
             have hfin := hide (sym_fin v1 v2 v3 v4 v6 v7 (unhide hR) (unhide hM) (unhide o12) (unhide s12) (unhide u12) o3 s3 u3)
             have hD3 := hide ((unhide hD2).next hDn3)
             clear hDn3 o3 s3 u3
             go_wp2
             refine bodyPost_end (results_none rfl _ _ _) rfl ?_
             exact ⟨rfl, L3, unhide hD3, (unhide hfin).1, (unhide hfin).2.1, (unhide hfin).2.2⟩
        have u4 : decide ((i : Int) < mid) = true := by simp; omega
        go_wp2_with fail
        refine (unhide IH' a i mid L _ (by omega) (unhide hD1).1 g3 g4 (by omega) (unhide hM).s1 (unhide hM).s2).mono ?_
        rintro en w7 ⟨rfl, L2, hDn2, o2, s2, u2⟩
        have o12 := hide o2
        have s12 := hide s2
        have u12 := hide u2
        have s34 : Hid (SrtdIn L2 mid e ∧ SrtdIn L2 e b) := hide ⟨(unhide hM).s3.out o2 (Or.inr (Nat.le_refl _)), (unhide hM).s4.out o2 (Or.inr v7)⟩
        have hD2 := hide ((unhide hD1).next hDn2)
        clear hDn2 o2 s2 u2
        try (exfalso; omega)
        all_goals
          by_cases g5 : mid < e
          rotate_left
          · have u5 : decide ((mid : Int) < e) = false := by simp; omega
            have z5 : mid = e := by omega
            try (exfalso; omega)
            all_goals
              have hfin := hide (sym_fin v1 v2 v3 v4 v6 v7 (unhide hR) (unhide hM) (unhide o12) (unhide s12) (unhide u12) Out.rfl (srtd_join (unhide s34).1 (unhide s34).2 (Or.inl z5.symm)) Sub.rfl)
              go_wp2
              refine bodyPost_end (results_none rfl _ _ _) rfl ?_
              exact ⟨rfl, L2, unhide hD2, (unhide hfin).1, (unhide hfin).2.1, (unhide hfin).2.2⟩
          have u5 : decide ((mid : Int) < e) = true := by simp; omega
          by_cases g6 : e < b
          rotate_left
          · have u6 : decide ((e : Int) < b) = false := by simp; omega
            have z6 : e = b := by omega
            try (exfalso; omega)
            all_goals
              have hfin := hide (sym_fin v1 v2 v3 v4 v6 v7 (unhide hR) (unhide hM) (unhide o12) (unhide s12) (unhide u12) Out.rfl (srtd_join (unhide s34).1 (unhide s34).2 (Or.inr z6)) Sub.rfl)
              go_wp2
              refine bodyPost_end (results_none rfl _ _ _) rfl ?_
              exact ⟨rfl, L2, unhide hD2, (unhide hfin).1, (unhide hfin).2.1, (unhide hfin).2.2⟩
          have u6 : decide ((e : Int) < b) = true := by simp; omega
          try (exfalso; omega)
          all_goals
           go_wp2_with fail
           refine (unhide IH' mid e b L2 _ (by omega) (unhide hD2).1 g5 g6 hbn (unhide s34).1 (unhide s34).2).mono ?_
           rintro en w8 ⟨rfl, L3, hDn3, o3, s3, u3⟩
           have hfin := hide (sym_fin v1 v2 v3 v4 v6 v7 (unhide hR) (unhide hM) (unhide o12) (unhide s12) (unhide u12) o3 s3 u3)
           have hD3 := hide ((unhide hD2).next hDn3)
           clear hDn3 o3 s3 u3
           go_wp2
           refine bodyPost_end (results_none rfl _ _ _) rfl ?_
           exact ⟨rfl, L3, unhide hD3, (unhide hfin).1, (unhide hfin).2.1, (unhide hfin).2.2⟩
    have u2 : decide ((m : Int) < e) = true := by simp; omega
    go_wp2_with fail
    refine (rot_any B gg n cap i m e L _ (unhide hD).1 hn g1 g2 (by omega)).mono ?_
    rintro en w6 ⟨rfl, L1, hDr, hRr⟩
    have hD1 : Hid (Dn w B gg n cap L L1 w6) := hide ⟨hDr.1, roi_alk v2 v3 (by omega) (by rw [own_len hDr.1]; omega) hRr (unhide hMid L1 hRr).2, grown_trans (unhide hD).2 hDr.2⟩
    have hR := hide hRr
    have hM := hide (unhide hMid L1 hRr).1
    clear hDr hRr hD hDn
    try (exfalso; omega)
    all_goals
      by_cases g3 : a < i
      rotate_left
      · have u3 : decide ((a : Int) < i) = false := by simp; omega
        have z3 : i = a := by omega
        have o12 : Hid (Out L1 L1 a mid) := hide Out.rfl
        have s12 : Hid (SrtdIn L1 a mid) := hide (srtd_join (unhide hM).s1 (unhide hM).s2 (Or.inl z3))
        have u12 : Hid (Sub L1 L1 a mid) := hide Sub.rfl
        have s34 : Hid (SrtdIn L1 mid e ∧ SrtdIn L1 e b) := hide ⟨(unhide hM).s3, (unhide hM).s4⟩
        have hD2 := hD1
        clear z3
        try (exfalso; omega)
        all_goals
          by_cases g5 : mid < e
          rotate_left
          · have u5 : decide ((mid : Int) < e) = false := by simp; omega
            have z5 : mid = e := by omega
            try (exfalso; omega)
            all_goals
              have hfin := hide (sym_fin v1 v2 v3 v4 v6 v7 (unhide hR) (unhide hM) (unhide o12) (unhide s12) (unhide u12) Out.rfl (srtd_join (unhide s34).1 (unhide s34).2 (Or.inl z5.symm)) Sub.rfl)
              go_wp2
              refine bodyPost_end (results_none rfl _ _ _) rfl ?_
              exact ⟨rfl, L1, unhide hD2, (unhide hfin).1, (unhide hfin).2.1, (unhide hfin).2.2⟩
          have u5 : decide ((mid : Int) < e) = true := by simp; omega
          by_cases g6 : e < b
          rotate_left
          · have u6 : decide ((e : Int) < b) = false := by simp; omega
            have z6 : e = b := by omega
            try (exfalso; omega)
            all_goals
              have hfin := hide (sym_fin v1 v2 v3 v4 v6 v7 (unhide hR) (unhide hM) (unhide o12) (unhide s12) (unhide u12) Out.rfl (srtd_join (unhide s34).1 (unhide s34).2 (Or.inr z6)) Sub.rfl)
              go_wp2
              refine bodyPost_end (results_none rfl _ _ _) rfl ?_
              exact ⟨rfl, L1, unhide hD2, (unhide hfin).1, (unhide hfin).2.1, (unhide hfin).2.2⟩
          have u6 : decide ((e : Int) < b) = true := by simp; omega
          try (exfalso; omega)
          all_goals
           go_wp2_with fail
           refine (unhide IH' mid e b L1 _ (by omega) (unhide hD2).1 g5 g6 hbn (unhide s34).1 (unhide s34).2).mono ?_
           rintro en w8 ⟨rfl, L3, hDn3, o3, s3, u3⟩
           have hfin := hide (sym_fin v1 v2 v3 v4 v6 v7 (unhide hR) (unhide hM) (unhide o12) (unhide s12) (unhide u12) o3 s3 u3)
           have hD3 := hide ((unhide hD2).next hDn3)
           clear hDn3 o3 s3 u3
           go_wp2
           refine bodyPost_end (results_none rfl _ _ _) rfl ?_
           exact ⟨rfl, L3, unhide hD3, (unhide hfin).1, (unhide hfin).2.1, (unhide hfin).2.2⟩
      have u3 : decide ((a : Int) < i) = true := by simp; omega
      by_cases g4 : i < mid
      rotate_left
      · have u4 : decide ((i : Int) < mid) = false := by simp; omega
        have z4 : i = mid := by omega
        have o12 : Hid (Out L1 L1 a mid) := hide Out.rfl
        have s12 : Hid (SrtdIn L1 a mid) := hide (srtd_join (unhide hM).s1 (unhide hM).s2 (Or.inr z4))
        have u12 : Hid (Sub L1 L1 a mid) := hide Sub.rfl
        have s34 : Hid (SrtdIn L1 mid e ∧ SrtdIn L1 e b) := hide ⟨(unhide hM).s3, (unhide hM).s4⟩
        have hD2 := hD1
        clear z4
        try (exfalso; omega)
        all_goals
          by_cases g5 : mid < e
          rotate_left
          · have u5 : decide ((mid : Int) < e) = false := by simp; omega
            have z5 : mid = e := by omega
            try (exfalso; omega)
            all_goals
              have hfin := hide (sym_fin v1 v2 v3 v4 v6 v7 (unhide hR) (unhide hM) (unhide o12) (unhide s12) (unhide u12) Out.rfl (srtd_join (unhide s34).1 (unhide s34).2 (Or.inl z5.symm)) Sub.rfl)
              go_wp2
              refine bodyPost_end (results_none rfl _ _ _) rfl ?_
              exact ⟨rfl, L1, unhide hD2, (unhide hfin).1, (unhide hfin).2.1, (unhide hfin).2.2⟩
          have u5 : decide ((mid : Int) < e) = true := by simp; omega
          by_cases g6 : e < b
          rotate_left
          · have u6 : decide ((e : Int) < b) = false := by simp; omega
            have z6 : e = b := by omega
            try (exfalso; omega)
            all_goals
              have hfin := hide (sym_fin v1 v2 v3 v4 v6 v7 (unhide hR) (unhide hM) (unhide o12) (unhide s12) (unhide u12) Out.rfl (srtd_join (unhide s34).1 (unhide s34).2 (Or.inr z6)) Sub.rfl)
              go_wp2
              refine bodyPost_end (results_none rfl _ _ _) rfl ?_
              exact ⟨rfl, L1, unhide hD2, (unhide hfin).1, (unhide hfin).2.1, (unhide hfin).2.2⟩
          have u6 : decide ((e : Int) < b) = true := by simp; omega
          try (exfalso; omega)
          all_goals
           go_wp2_with fail
           refine (unhide IH' mid e b L1 _ (by omega) (unhide hD2).1 g5 g6 hbn (unhide s34).1 (unhide s34).2).mono ?_
           rintro en w8 ⟨rfl, L3, hDn3, o3, s3, u3⟩
           have hfin := hide (sym_fin v1 v2 v3 v4 v6 v7 (unhide hR) (unhide hM) (unhide o12) (unhide s12) (unhide u12) o3 s3 u3)
           have hD3 := hide ((unhide hD2).next hDn3)
           clear hDn3 o3 s3 u3
           go_wp2
           refine bodyPost_end (results_none rfl _ _ _) rfl ?_
           exact ⟨rfl, L3, unhide hD3, (unhide hfin).1, (unhide hfin).2.1, (unhide hfin).2.2⟩
      have u4 : decide ((i : Int) < mid) = true := by simp; omega
      go_wp2_with fail
      refine (unhide IH' a i mid L1 _ (by omega) (unhide hD1).1 g3 g4 (by omega) (unhide hM).s1 (unhide hM).s2).mono ?_
      rintro en w7 ⟨rfl, L2, hDn2, o2, s2, u2⟩
      have o12 := hide o2
      have s12 := hide s2
      have u12 := hide u2
      have s34 : Hid (SrtdIn L2 mid e ∧ SrtdIn L2 e b) := hide ⟨(unhide hM).s3.out o2 (Or.inr (Nat.le_refl _)), (unhide hM).s4.out o2 (Or.inr v7)⟩
      have hD2 := hide ((unhide hD1).next hDn2)
      clear hDn2 o2 s2 u2
      try (exfalso; omega)
      all_goals
        by_cases g5 : mid < e
        rotate_left
        · have u5 : decide ((mid : Int) < e) = false := by simp; omega
          have z5 : mid = e := by omega
          try (exfalso; omega)
          all_goals
            have hfin := hide (sym_fin v1 v2 v3 v4 v6 v7 (unhide hR) (unhide hM) (unhide o12) (unhide s12) (unhide u12) Out.rfl (srtd_join (unhide s34).1 (unhide s34).2 (Or.inl z5.symm)) Sub.rfl)
            go_wp2
            refine bodyPost_end (results_none rfl _ _ _) rfl ?_
            exact ⟨rfl, L2, unhide hD2, (unhide hfin).1, (unhide hfin).2.1, (unhide hfin).2.2⟩
        have u5 : decide ((mid : Int) < e) = true := by simp; omega
        by_cases g6 : e < b
        rotate_left
        · have u6 : decide ((e : Int) < b) = false := by simp; omega
          have z6 : e = b := by omega
          try (exfalso; omega)
          all_goals
            have hfin := hide (sym_fin v1 v2 v3 v4 v6 v7 (unhide hR) (unhide hM) (unhide o12) (unhide s12) (unhide u12) Out.rfl (srtd_join (unhide s34).1 (unhide s34).2 (Or.inr z6)) Sub.rfl)
            go_wp2
            refine bodyPost_end (results_none rfl _ _ _) rfl ?_
            exact ⟨rfl, L2, unhide hD2, (unhide hfin).1, (unhide hfin).2.1, (unhide hfin).2.2⟩
        have u6 : decide ((e : Int) < b) = true := by simp; omega
        try (exfalso; omega)
        all_goals
         go_wp2_with fail
         refine (unhide IH' mid e b L2 _ (by omega) (unhide hD2).1 g5 g6 hbn (unhide s34).1 (unhide s34).2).mono ?_
         rintro en w8 ⟨rfl, L3, hDn3, o3, s3, u3⟩
         have hfin := hide (sym_fin v1 v2 v3 v4 v6 v7 (unhide hR) (unhide hM) (unhide o12) (unhide s12) (unhide u12) o3 s3 u3)
         have hD3 := hide ((unhide hD2).next hDn3)
         clear hDn3 o3 s3 u3
         go_wp2
         refine bodyPost_end (results_none rfl _ _ _) rfl ?_
         exact ⟨rfl, L3, unhide hD3, (unhide hfin).1, (unhide hfin).2.1, (unhide hfin).2.2⟩

end D
end Go.Proofs.Ytmpbcmpjfcddoaa
