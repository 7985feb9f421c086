/-
  Contract of the merge in place where the first part has one sample; all blocks but the list's own stand.
-/
import Derived.Test.YtmpbcmpjfcddoaaSyF
namespace Go.Proofs.Ytmpbcmpjfcddoaa
open Go.RowKit
set_option linter.unusedVariables false
set_option linter.unusedSimpArgs false
namespace D

set_option maxRecDepth 100000 in
set_option maxHeartbeats 6400000 in
theorem sym_left (B gg n cap a m b : Nat) (L : List Kl) (w : World) (hO : Own w B gg n cap L) (hn : n ≤ 1000) (ham : a < m) (hmb : m < b) (hbn : b ≤ n) (hs1 : SrtdIn L a m) (hs2 : SrtdIn L m b) (hm1 : m = a + 1) : Calls Try.prog 54 #[.slice (some ⟨gg, 0, none⟩) n cap, .int .i64 a, .int .i64 m, .int .i64 b, (.func (.func 34) #[] #[])] w fun en w' => en = .returned (.tuple #[]) ∧ ∃ L', Dn w B gg n cap L L' w' ∧ Out L L' a b ∧ SrtdIn L' a b ∧ Sub L L' a b := by
  have hLn : L.length = n := own_len hO
  obtain ⟨⟨y0, y1, y2, y3, y4⟩, hy⟩ : ∃ y, L[a]? = some y := ⟨L[a]'(by omega), List.getElem?_eq_getElem (by omega)⟩
  have hD0 : Hid (Own w B gg n cap L ∧ w.grownBy w (some gg)) := hide ⟨hO, grown_refl _ _⟩
  have hy' := hide hy
  have hs' := hide hs2
  have hm' := hide hm1
  have t0 : ((m : Int) - a == 1) = true := by simp; omega
  have tw : IntKind.i64.wrap ((m : Int) - a) = (m : Int) - a := by rw [IntKind.wrap_i64]; omega
  have ba : (a : Int) < n := by omega
  have ba0 : (0 : Int) ≤ a := by omega
  clear hO hs1 hs2 hy hm1
  go_enter Try.func54, Try.ntmps54
  go_wp2
  go_loopw [10, 11] (fun s t wr => ∃ i j : Nat, m ≤ i ∧ i ≤ j ∧ j ≤ b ∧ s = .int .i64 i ∧ t = .int .i64 j ∧ Hid (Own wr B gg n cap L ∧ w.grownBy wr (some gg)) ∧ Hid (i = m ∨ ∃ x, L[i - 1]? = some x ∧ x.1 < y0) ∧ Hid (j = b ∨ ∃ x, L[j]? = some x ∧ y0 ≤ x.1)) (fun s t _ => (intOf t).toNat - (intOf s).toNat)
  case atStart => exact ⟨m, b, Nat.le_refl _, by omega, Nat.le_refl _, rfl, rfl, hD0, hide (Or.inl rfl), hide (Or.inl rfl)⟩
  case round =>
    clear hD0
    obtain ⟨i, j, hi, hij, hj, rfl, rfl, hD, hI, hJ⟩ := hrel
    by_cases hlt : i < j
    · obtain ⟨h, hh⟩ : ∃ h : Nat, ((i : Int) + j) / 2 = h := ⟨(i + j) / 2, by omega⟩
      have hih : i ≤ h ∧ h < j := by omega
      obtain ⟨h1, h2⟩ := hih
      obtain ⟨⟨x0, x1, x2, x3, x4⟩, hx⟩ : ∃ x, L[h]? = some x := ⟨L[h]'(by omega), List.getElem?_eq_getElem (by omega)⟩
      obtain ⟨c0, c1, c2, c3, c4⟩ := own_cells hx (unhide hD).1
      obtain ⟨d0, d1, d2, d3, d4⟩ := own_cells (unhide hy') (unhide hD).1
      obtain ⟨c, hc⟩ : ∃ c, cmpI x0 y0 = c := ⟨_, rfl⟩
      have hc' := hide hc
      have hx' := hide hx
      have hall : Hid (wr.cell? ⟨gg, h * 5, none⟩ = some (.int .i64 x0) ∧ wr.cell? ⟨gg, h * 5 + 1, none⟩ = some (.int .i64 x1) ∧ wr.cell? ⟨gg, h * 5 + 2, none⟩ = some (.int .i64 x2) ∧ wr.cell? ⟨gg, h * 5 + 3, none⟩ = some (.int .i64 x3) ∧ wr.cell? ⟨gg, h * 5 + 4, none⟩ = some (.int .i64 x4) ∧ wr.cell? ⟨gg, a * 5, none⟩ = some (.int .i64 y0) ∧ wr.cell? ⟨gg, a * 5 + 1, none⟩ = some (.int .i64 y1) ∧ wr.cell? ⟨gg, a * 5 + 2, none⟩ = some (.int .i64 y2) ∧ wr.cell? ⟨gg, a * 5 + 3, none⟩ = some (.int .i64 y3) ∧ wr.cell? ⟨gg, a * 5 + 4, none⟩ = some (.int .i64 y4) ∧ Below wr.heap.size wr wr) := hide ⟨c0, c1, c2, c3, c4, d0, d1, d2, d3, d4, Below.refl _ _⟩
      have bh : (h : Int) < n := by omega
      have bh0 : (0 : Int) ≤ h := by omega
      clear hc hx c0 c1 c2 c3 c4 d0 d1 d2 d3 d4
      go_wp2_with fail
      go_region_held3 (fun w' => w'.cell? ⟨gg, h * 5, none⟩ = some (.int .i64 x0) ∧ w'.cell? ⟨gg, h * 5 + 1, none⟩ = some (.int .i64 x1) ∧ w'.cell? ⟨gg, h * 5 + 2, none⟩ = some (.int .i64 x2) ∧ w'.cell? ⟨gg, h * 5 + 3, none⟩ = some (.int .i64 x3) ∧ w'.cell? ⟨gg, h * 5 + 4, none⟩ = some (.int .i64 x4) ∧ w'.cell? ⟨gg, a * 5, none⟩ = some (.int .i64 y0) ∧ w'.cell? ⟨gg, a * 5 + 1, none⟩ = some (.int .i64 y1) ∧ w'.cell? ⟨gg, a * 5 + 2, none⟩ = some (.int .i64 y2) ∧ w'.cell? ⟨gg, a * 5 + 3, none⟩ = some (.int .i64 y3) ∧ w'.cell? ⟨gg, a * 5 + 4, none⟩ = some (.int .i64 y4) ∧ Below wr.heap.size wr w')
        (first | (with_reducible refine keepN ?_ hb; with_reducible assumption) | (with_reducible exact keepNd (unhide hall)))
        ((go_at_call 34; refine (by_any x0 x1 x2 x3 x4 y0 y1 y2 y3 y4 c _ (unhide hc')).mono ?_; rintro en w1 ⟨rfl, hb⟩))
      all_goals
        rename_i hH
        have hB := hide hH.2.2.2.2.2.2.2.2.2.2
        have hD1 : Hid (Own w1 B gg n cap L ∧ w.grownBy w1 (some gg)) := hide ⟨ownsRow_below (unhide hD).1 (unhide hB), grown_trans (unhide hD).2 ⟨(unhide hB).os, (unhide hB).tape, (unhide hB).output, (unhide hB).size, fun j hj _ => (unhide hB).block j hj⟩⟩
        clear hH hB hD hall
        by_cases hlt2 : x0 < y0
        · have hcc : c = -1 := by rw [← unhide hc']; unfold cmpI; rw [if_pos hlt2]
          subst hcc
          have hI2 : Hid (h + 1 = m ∨ ∃ x, L[h + 1 - 1]? = some x ∧ x.1 < y0) := hide (Or.inr ⟨_, unhide hx', hlt2⟩)
          clear hI
          go_wp2
          go_roundw
          case rel => exact ⟨h + 1, j, by omega, by omega, hj, by go_num, rfl, hD1, hI2, hJ⟩
          case measure => simp [intOf]; omega
        · have hcc : c = 0 ∨ c = 1 := by rw [← unhide hc']; unfold cmpI; rw [if_neg hlt2]; split <;> simp
          have hJ2 : Hid (h = b ∨ ∃ x, L[h]? = some x ∧ y0 ≤ x.1) := hide (Or.inr ⟨_, unhide hx', by show y0 ≤ x0; omega⟩)
          clear hJ
          rcases hcc with rfl | rfl
          · go_wp2
            go_roundw
            case rel => exact ⟨i, h, hi, by omega, by omega, rfl, rfl, hD1, hI, hJ2⟩
            case measure => simp [intOf]; omega
          · go_wp2
            go_roundw
            case rel => exact ⟨i, h, hi, by omega, by omega, rfl, rfl, hD1, hI, hJ2⟩
            case measure => simp [intOf]; omega
    have hije : i = j := by omega
    subst hije
    have tl : decide ((i : Int) < i) = false := by simp
    obtain ⟨E, hEq⟩ : ∃ E, i = E + 1 := ⟨i - 1, by omega⟩
    have hE' := hide hEq
    have haE : a ≤ E := by omega
    have hEn : E < n := by omega
    have tE : IntKind.i64.wrap ((i : Int) - 1) = E := by rw [IntKind.wrap_i64]; omega
    have hfinal : Hid (∀ L1 : List Kl, MvR1 L L1 a E → SrtdIn L1 a b) := hide (fun L1 h => by
      have hs := unhide hs'
      have hmm := unhide hm'
      rw [hmm] at hs
      refine MvR1.done (i := i) (by rw [hEq]; exact h) (by omega) hj (by omega) hs ?_ ?_
      · intro p x y p1 p2 hp hxa
        rw [unhide hy'] at hxa
        cases hxa
        show y.1 ≤ y0
        rcases unhide hI with h1 | ⟨z, hz, hz2⟩
        · omega
        · by_cases e : p = i - 1
          · subst e; rw [hz] at hp; cases hp; omega
          · have := hs p (i - 1) y z (by omega) (by omega) (by omega) hp hz; omega
      · intro p x y p1 p2 hp hxa
        rw [unhide hy'] at hxa
        cases hxa
        show y0 ≤ y.1
        rcases unhide hJ with h1 | ⟨z, hz, hz2⟩
        · omega
        · by_cases e : p = i
          · subst e; rw [hz] at hp; cases hp; exact hz2
          · have := hs i p z y (by omega) (by omega) (by omega) hz hp; omega)
    have hless : Hid (∀ p y, m ≤ p → p < i → L[p]? = some y → y.1 < y0) := hide (fun p y p1 p2 hp => by
      have hs := unhide hs'
      rcases unhide hI with h1 | ⟨z, hz, hz2⟩
      · omega
      · by_cases e : p = i - 1
        · subst e; rw [hz] at hp; cases hp; exact hz2
        · have := hs p (i - 1) y z (by omega) (by omega) (by omega) hp hz; omega)
    have hDn : Hid (Dn w B gg n cap L L wr) := hide ⟨(unhide hD).1, Alk.rfl, (unhide hD).2⟩
    clear hD hI hJ hlt hs' hEq
    go_wp2
    go_loopw [13] (fun s wr => ∃ (k : Nat) (L1 : List Kl), a ≤ k ∧ k ≤ E ∧ s = .int .i64 k ∧ Hid (Dn w B gg n cap L L1 wr) ∧ Hid (MvR1 L L1 a k)) (fun s _ => E - (intOf s).toNat)
    case atStart => exact ⟨a, L, Nat.le_refl _, haE, rfl, hDn, hide (MvR1.zero L a)⟩
    case round =>
      clear hDn
      obtain ⟨k, L1, hak, hkE, rfl, hD, hM⟩ := hrel
      by_cases hk : k < E
      rotate_left
      · have hke : k = E := by omega
        have tk : decide ((k : Int) < E) = false := by simp; omega
        subst hke
        have h1 := hide (unhide hfinal L1 (unhide hM))
        have h2 := hide ((unhide hM).out (b := b) haE (by have := unhide hE'; omega))
        go_wp2
        refine bodyPost_ret (results_none rfl _ _ _) rfl ?_
        exact ⟨rfl, L1, unhide hD, unhide h2, unhide h1, (unhide hM).sub haE (by have := unhide hE'; omega)⟩
      have tk : decide ((k : Int) < E) = true := by simp; omega
      have hL1 : L1.length = n := (unhide hD).len
      obtain ⟨K, hK⟩ : ∃ K, k + 1 = K := ⟨_, rfl⟩
      obtain ⟨⟨z0, z1, z2, z3, z4⟩, hz⟩ : ∃ z, L1[K]? = some z := ⟨L1[K]'(by omega), List.getElem?_eq_getElem (by omega)⟩
      have hx : L1[k]? = some (y0, y1, y2, y3, y4) := by rw [unhide hM k, if_neg (by omega), if_pos rfl]; exact unhide hy'
      have hzl : z0 < y0 := by
        have h1 := unhide hM K
        rw [hz, if_neg (by omega), if_neg (by omega)] at h1
        have := unhide hm'
        have := unhide hE'
        exact unhide hless K _ (by omega) (by omega) h1.symm
      have hal : Alk L1 (swp L1 k K (y0, y1, y2, y3, y4) (z0, z1, z2, z3, z4)) := by rw [← hK] at hz ⊢; exact swp_alk hx hz hzl
      have hnew : Hid (MvR1 L (swp L1 k K (y0, y1, y2, y3, y4) (z0, z1, z2, z3, z4)) a K) := hide (by rw [← hK] at hz ⊢; exact (unhide hM).step hak hx hz)
      have hfin := hide (fin_up hx hz (by omega) hal (unhide hD))
      obtain ⟨c0, c1, c2, c3, c4⟩ := own_cells hx (unhide hD).1
      obtain ⟨d0, d1, d2, d3, d4⟩ := own_cells hz (unhide hD).1
      have f0 := (unhide hD).1.frozenAt (k * 5)
      have g0 := (unhide hD).1.frozenAt (K * 5)
      have f1 := (unhide hD).1.frozenAt (k * 5 + 1)
      have g1 := (unhide hD).1.frozenAt (K * 5 + 1)
      have f2 := (unhide hD).1.frozenAt (k * 5 + 2)
      have g2 := (unhide hD).1.frozenAt (K * 5 + 2)
      have f3 := (unhide hD).1.frozenAt (k * 5 + 3)
      have g3 := (unhide hD).1.frozenAt (K * 5 + 3)
      have f4 := (unhide hD).1.frozenAt (k * 5 + 4)
      have g4 := (unhide hD).1.frozenAt (K * 5 + 4)
      have hO1 := own_put (x := (z0, z1, z2, z3, z4)) (k := k) (by omega) (unhide hD).1
      obtain ⟨m0, m1, m2, m3, m4⟩ := own_cells (k := K) (x := (z0, z1, z2, z3, z4)) (by rw [List.getElem?_set_ne (by omega)]; exact hz) hO1
      have s0 := hO1.frozenAt (K * 5)
      have s1 := hO1.frozenAt (K * 5 + 1)
      have s2 := hO1.frozenAt (K * 5 + 2)
      have s3 := hO1.frozenAt (K * 5 + 3)
      have s4 := hO1.frozenAt (K * 5 + 4)
      have tK : IntKind.i64.wrap ((k : Int) + 1) = K := by rw [IntKind.wrap_i64]; omega
      have b1 : (k : Int) < n := by omega
      have b2 : (0 : Int) ≤ k := by omega
      have b3 : (K : Int) < n := by omega
      have b4 : (0 : Int) ≤ K := by omega
      have hKE : K ≤ E := by omega
      have hKk : K = k + 1 := by omega
      have hKk' := hide hKk
      clear hO1 hx hz hzl hal hD hM hL1 hK hKk
      go_wp2_with fail
      go_region
      go_wp2
      go_roundw
      case rel => exact ⟨K, _, by have := unhide hKk'; omega, hKE, by go_num, hfin, hnew⟩
      case measure => have := unhide hKk'; simp [intOf]; omega

end D
end Go.Proofs.Ytmpbcmpjfcddoaa
