/-
  The model's told reels: the function and its contract.
-/
import Derived.Test.YtfbifffmieimoaaRlW
namespace Go.Proofs.Ytfbifffmieimoaa.Rl
open Go.RowKit
open Go.Proofs.Ytfbifffmieimoaa
set_option linter.unusedVariables false
set_option linter.unusedSimpArgs false

theorem below_drewN {B : Nat} {w w1 : World} (h : Below B w w1) (n : Nat) : Below B w (w1.drewN n) := ⟨h.os, h.tape, h.output, h.size, h.block⟩
theorem flK_last (o : List Kl) (p : Kl) (x : Int) : (flK (o ++ [p])).set (o.length * 3 + 2) (iv x) = flK (o ++ [(p.1, p.2.1, x)]) := by
  rw [flK_append, flK_append, List.set_append_right _ _ (by rw [flK_len]; omega), flK_len]
  have : o.length * 3 + 2 - o.length * 3 = 2 := by omega
  rw [this]; rfl
theorem own_last {w : World} {B g n cap : Nat} {o : List Kl} {p : Kl} (h : Own w B g n cap (o ++ [p])) (x : Int) : Own (w.setCell ⟨g, o.length * 3 + 2, none⟩ (.int .i64 x)) B g n cap (o ++ [(p.1, p.2.1, x)]) := by
  have h1 := (h.stored (o.length * 3 + 2) (iv x)).1
  rw [flK_last] at h1
  exact h1
theorem own_cast {w : World} {B g n n' cap : Nat} {l : List Kl} (h : n' = n) (ho : Own w B g n cap l) : Own w B g n' cap l := by subst h; exact ho
theorem last_get (o : List Kl) (p : Kl) : (o ++ [p])[o.length]? = some p := by simp
set_option maxHeartbeats 400000 in
theorem smax_any (x y : Int) (w : World) : Calls Try.prog 36 #[.int .i64 x, .int .i64 y] w fun e w' => e = .returned (.int .i64 (max x y)) ∧ w' = w := by
  by_cases h : y < x
  · go_enter Try.func36, Try.ntmps36
    go_wp2
    go_ret
    exact ⟨ret_int (by omega), rfl⟩
  · have h' : decide (y < x) = false := by simpa using h
    go_enter Try.func36, Try.ntmps36
    go_wp2
    go_ret
    exact ⟨ret_int (by omega), rfl⟩

/-- the list with a place kept for the new one -/
def mids (s : List Kl) (j : Nat) (z : Kl) : List Kl := s.take j ++ z :: s.drop j
theorem mids_len {s : List Kl} {j : Nat} {z : Kl} (h : j ≤ s.length) : (mids s j z).length = s.length + 1 := by simp [mids]; omega
theorem mids_set {s : List Kl} {j : Nat} {z y : Kl} (h : j ≤ s.length) : (mids s j z).set j y = mids s j y := by
  unfold mids
  rw [List.set_append_right _ _ (by simp; omega)]
  have e : j - (s.take j).length = 0 := by simp; omega
  rw [e]; rfl
theorem mids_down {s : List Kl} {j : Nat} {y : Kl} (h : s[j]? = some y) : mids s (j + 1) y = mids s j y := by
  unfold mids
  rw [take_snocK h, wo_drop (x1 := 0) (x3 := 0) (f := 0) h]
  simp
theorem mids_ahead {s : List Kl} {j : Nat} {y z : Kl} (h : s[j]? = some y) : (mids s (j + 1) z)[j]? = some y := by
  have hj : j < s.length := (List.getElem?_eq_some_iff.1 h).1
  unfold mids
  rw [List.getElem?_append_left (by simp; omega)]
  rw [List.getElem?_take]; simp [h]
theorem own_move {w : World} {B g n cap k : Nat} {s : List Kl} {x z : Kl} (hk : k ≤ s.length) (h : Own w B g n cap (mids s k z)) :
    Own (((w.setCell ⟨g, k * 3, none⟩ (.int .i64 x.1)).setCell ⟨g, k * 3 + 1, none⟩ (.int .i64 x.2.1)).setCell ⟨g, k * 3 + 2, none⟩ (.int .i64 x.2.2)) B g n cap (mids s k x) := by
  have := own_put (k := k) (x := x) (by rw [mids_len hk]; omega) h
  rw [mids_set hk] at this
  exact this
theorem below_3 {W w : World} {g a b c : Nat} {u v x : Value} (h : Below W.heap.size W w) (hg : W.heap.size ≤ g) : Below W.heap.size W (((w.setCell ⟨g, a, none⟩ u).setCell ⟨g, b, none⟩ v).setCell ⟨g, c, none⟩ x) :=
  ((h.setCell hg _).setCell hg _).setCell hg _
theorem drop_more {s : List Kl} {j : Nat} {x y : Kl} (h : s[j]? = some y) (hy : ¬ kle y x) (ha : ∀ z ∈ s.drop (j + 1), ¬ kle z x) : ∀ z ∈ s.drop j, ¬ kle z x := by
  rw [wo_drop (x1 := 0) (x3 := 0) (f := 0) h]
  intro z hz
  rcases List.mem_cons.1 hz with e | hz
  · rw [e]; exact hy
  · exact ha z hz
theorem ins_end {l : List Kl} {k j : Nat} {x : Kl} (hx : l[k]? = some x) (hj : j ≤ k) (h1 : ∀ z ∈ (sortK (l.take k)).drop j, ¬ kle z x) (h2 : ∀ y, (sortK (l.take k))[j - 1]? = some y → 0 < j → kle y x) : mids (sortK (l.take k)) j x = sortK (l.take (k + 1)) := by
  obtain ⟨s1, s2⟩ := sortK_spec (l.take k)
  have hk : k < l.length := (List.getElem?_eq_some_iff.1 hx).1
  have hl := s1.length_eq
  rw [take_snocK hx, sortK_snoc, insK_at s2 (by rw [hl, List.length_take]; omega) h1 h2]
  rfl
theorem sort_len {l : List Kl} {k : Nat} (hk : k ≤ l.length) : (sortK (l.take k)).length = k := by
  rw [(sortK_spec (l.take k)).1.length_eq, List.length_take]; omega

set_option maxRecDepth 100000 in
set_option maxHeartbeats 6400000 in
theorem stell_any (a : Option Addr) (cap : Nat) (l : List Kl) (w : World) (hl : l.length ≤ 100000) (hk : Kls w a l) :
    Calls Try.prog 38 #[.slice a l.length cap] w fun e w' => ∃ g c, e = .returned (.slice (some ⟨g, 0, none⟩) (told l).length c) ∧ Own w' w.heap.size g (told l).length c (told l) ∧ Below w.heap.size w w' := by
  have hk' := hide hk
  clear hk
  have h0 := hide (own_lit0 w (Nat.le_refl _))
  have hb0 := hide ((Below.refl w.heap.size w).alloc (Nat.le_refl _) (.cells #[] 34))
  go_enter Try.func38, Try.ntmps38
  go_wp2
  go_loopw [3, 4] (fun s t wr => ∃ k g c : Nat, k ≤ l.length ∧ t = .int .i64 k ∧ s = .slice (some ⟨g, 0, none⟩) k c ∧ Hid (Own wr w.heap.size g k c (sortK (l.take k))) ∧ Hid (Below w.heap.size w wr)) (fun _ t _ => l.length - (intOf t).toNat)
  case atStart => exact ⟨0, w.heap.size, 0, by omega, rfl, rfl, h0, hb0⟩
  case round =>
    clear h0 hb0
    obtain ⟨k, g, cp, hk, rfl, rfl, hO, hB⟩ := hrel
    by_cases hlt : k < l.length
    · obtain ⟨b, o', x1, x2, x3, rfl, hx, c0, c1, c2⟩ := kls_at (unhide hk') (unhide hB) hlt
      have hblt : b < w.heap.size := by
        obtain ⟨b', o2, e, h2, _⟩ := unhide hk' k _ hx
        injection e with e
        injection e with e
        omega
      have hcold := hide (show w.cell? ⟨b, o' + k * 3, none⟩ = some (.int .i64 x1) ∧ w.cell? ⟨b, o' + k * 3 + 1, none⟩ = some (.int .i64 x2) ∧ w.cell? ⟨b, o' + k * 3 + 2, none⟩ = some (.int .i64 x3) from by
        have C := (bcell (unhide hB)).1
        rw [← C b _ hblt, ← C b _ hblt, ← C b _ hblt]
        exact ⟨c0, c1, c2⟩)
      have hx' := hide hx
      have hglt : g < wr.heap.size := own_lt (unhide hO)
      have hwl : w.heap.size ≤ wr.heap.size := (unhide hB).size
      clear hx
      go_wp2_with (at_builtin; refine wpList_kg Try.underlying27 rfl _ _ rfl w.heap.size g k cp (sortK (l.take k)) rfl (unhide hO) wr.heap.size rfl rfl (by omega) ?_)
      intro g1 cap1 w1 hO1 hG1 hg1
      have hB1 := hide (below_grown (unhide hB) hG1 (own_ge (unhide hO)))
      have hsl := hide (sort_len hk)
      have hO1' : Hid (Own w1 w.heap.size g1 (k + 1) cap1 (mids (sortK (l.take k)) k (x1, x2, x3))) := hide (by
        have e : mids (sortK (l.take k)) k (x1, x2, x3) = sortK (l.take k) ++ [(x1, x2, x3)] := by
          unfold mids
          rw [List.take_of_length_le (by rw [unhide hsl]; omega), List.drop_eq_nil_of_le (by rw [unhide hsl]; omega)]
        rw [e]; exact hO1)
      have hend := hide (fun j => ins_end (j := j) (unhide hx'))
      clear hO1 hG1 c0 c1 c2 hO hB hglt hwl
      generalize sortK (l.take k) = srt at *
      go_wp2
      go_loopw [5] (fun t wr => ∃ (j : Nat) (z : Kl), j ≤ k ∧ t = .int .i64 j ∧ Hid (Own wr w.heap.size g1 (k + 1) cap1 (mids srt j z)) ∧ Hid (Below w.heap.size w wr) ∧ Hid (∀ y ∈ srt.drop j, ¬ kle y (x1, x2, x3))) (fun t _ => (intOf t).toNat)
      case atStart => exact ⟨k, (x1, x2, x3), by omega, rfl, hO1', hB1, hide (by rw [List.drop_eq_nil_of_le (by rw [unhide hsl]; omega)]; simp)⟩
      case round =>
        clear hO1' hB1
        obtain ⟨j, z, hj, rfl, hOq, hBq, hAll⟩ := hrel
        obtain ⟨p0, p1, p2⟩ := unhide hcold
        have C := fun o => (bcell (unhide hBq)).1 b o hblt
        have q0 := (C _).trans p0
        have q1 := (C _).trans p1
        have q2 := (C _).trans p2
        have hwr : w.heap.size ≤ wr.heap.size := (unhide hBq).size
        have hgq : g1 < wr.heap.size := own_lt (unhide hOq)
        clear p0 p1 p2 C
        cases j with
        | zero =>
          have hgd : decide ((0 : Int) < ((0 : Nat) : Int)) = false := by simp
          have hgd' : decide ((0 : Int) < 0) = false := by simp
          obtain ⟨v0, s0, f0, _, _⟩ := own_at (i := 0 * 3) (unhide hOq) (by omega)
          obtain ⟨v1, s1, f1, _, _⟩ := own_at (i := 0 * 3 + 1) (unhide hOq) (by omega)
          obtain ⟨v2, s2, f2, _, _⟩ := own_at (i := 0 * 3 + 2) (unhide hOq) (by omega)
          have hOf := hide (show Own _ w.heap.size g1 (k + 1) cap1 (sortK (l.take (k + 1))) from by
            have := own_move (x := (x1, x2, x3)) (by omega) (unhide hOq)
            rw [unhide hend 0 (by omega) (unhide hAll) (fun y h1 h2 => by omega)] at this
            exact this)
          clear hAll hOq
          go_wp2_with fail
          go_quiet (fail)
          go_wp2
          go_roundw
          case rel => exact ⟨k + 1, g1, cap1, by omega, by go_num, rfl, hide (unhide hOf), hide (below_3 (below_drewN (unhide hBq) _) (own_ge (unhide hOf)))⟩
          case measure => simp [intOf]; omega
        | succ m =>
          obtain ⟨y, hy⟩ : ∃ y, srt[m]? = some y := ⟨srt[m]'(by rw [unhide hsl]; omega), List.getElem?_eq_getElem _⟩
          obtain ⟨r0, r1, r2⟩ := own_cells (mids_ahead (z := z) hy) (unhide hOq)
          obtain ⟨v0, s0, f0, _, _⟩ := own_at (i := (m + 1) * 3) (unhide hOq) (by omega)
          obtain ⟨v1, s1, f1, _, _⟩ := own_at (i := (m + 1) * 3 + 1) (unhide hOq) (by omega)
          obtain ⟨v2, s2, f2, _, _⟩ := own_at (i := (m + 1) * 3 + 2) (unhide hOq) (by omega)
          obtain ⟨y1, y2, y3⟩ := y
          have hL : IntKind.i64.wrap (((m + 1 : Nat) : Int) - 1) = (m : Int) := by rw [IntKind.wrap_i64]; omega
          have hL' : IntKind.i64.wrap ((m : Int) + 1 - 1) = (m : Int) := by rw [IntKind.wrap_i64]; omega
          have hgd : decide ((0 : Int) < ((m + 1 : Nat) : Int)) = true := decide_eq_true (by omega)
          have hgd' : decide ((0 : Int) < (m : Int) + 1) = true := decide_eq_true (by omega)
          have hge : decide (0 ≤ (m : Int)) = true := by simp
          have hmk : (m : Int) < ((k + 1 : Nat) : Int) := by omega
          have hmk' : (m : Int) < (k : Int) + 1 := by omega
          have hy' := hide hy
          clear hy
          by_cases hkl : kle (y1, y2, y3) (x1, x2, x3)
          · have hOf := hide (show Own _ w.heap.size g1 (k + 1) cap1 (sortK (l.take (k + 1))) from by
              have := own_move (x := (x1, x2, x3)) (by rw [unhide hsl]; omega) (unhide hOq)
              rw [unhide hend (m + 1) (by omega) (unhide hAll) (fun y h1 h2 => by
                have e : m + 1 - 1 = m := by omega
                rw [e, unhide hy'] at h1
                injection h1 with h1
                rw [← h1]; exact hkl)] at this
              exact this)
            have b1 : decide (x1 < y1) = false := by unfold kle at hkl; simp only [] at hkl; simp; omega
            by_cases h2 : y1 = x1
            · have b2 : (y1 == x1) = true := by simp [h2]
              have b3 : decide (x2 < y2) = false := by unfold kle at hkl; simp only [] at hkl; simp; omega
              have h2' := hide h2
              have hkl' := hide hkl
              clear h2 hkl hAll hOq
              go_wp2_with fail
              go_quiet (fail)
              go_wp2
              go_roundw
              case rel => exact ⟨k + 1, g1, cap1, by omega, by go_num, rfl, hide (unhide hOf), hide (below_3 (below_drewN (unhide hBq) _) (own_ge (unhide hOf)))⟩
              case measure => simp [intOf]; omega
            · have b2 : (y1 == x1) = false := by simp [h2]
              have hkl' := hide hkl
              clear h2 hkl hAll hOq
              go_wp2_with fail
              go_quiet (fail)
              go_wp2
              go_roundw
              case rel => exact ⟨k + 1, g1, cap1, by omega, by go_num, rfl, hide (unhide hOf), hide (below_3 (below_drewN (unhide hBq) _) (own_ge (unhide hOf)))⟩
              case measure => simp [intOf]; omega
          · have hOn := hide (show Own _ w.heap.size g1 (k + 1) cap1 (mids srt m (y1, y2, y3)) from by
              have := own_move (x := (y1, y2, y3)) (by rw [unhide hsl]; omega) (unhide hOq)
              rw [mids_down (unhide hy')] at this
              exact this)
            have hAn := hide (drop_more (unhide hy') hkl (unhide hAll))
            have hBn := hide (fun q : Nat => below_drewN (unhide hBq) q)
            have hg1q := own_ge (unhide hOq)
            by_cases h1 : x1 < y1
            · have b1 : decide (x1 < y1) = true := by simpa using h1
              have hkl' := hide hkl
              clear h1 hkl hAll hOq
              go_wp2_with fail
              go_quiet (fail)
              go_wp2
              go_roundw
              case rel => exact ⟨m, (y1, y2, y3), by omega, by go_num, hide (unhide hOn), hide (below_3 (unhide hBn _) hg1q), hAn⟩
              case measure => simp [intOf]
            · have h2 : y1 = x1 := by unfold kle at hkl; simp only [] at hkl; omega
              have h3 : x2 < y2 := by unfold kle at hkl; simp only [] at hkl; omega
              have b1 : decide (x1 < y1) = false := by simpa using h1
              have b2 : (y1 == x1) = true := by simp [h2]
              have b3 : decide (x2 < y2) = true := by simpa using h3
              have h2' := hide h2
              have hkl' := hide hkl
              clear h1 h2 h3 hkl hAll hOq
              go_wp2_with fail
              go_quiet (fail)
              go_wp2
              go_roundw
              case rel => exact ⟨m, (y1, y2, y3), by omega, by go_num, hide (unhide hOn), hide (below_3 (unhide hBn _) hg1q), hAn⟩
              case measure => simp [intOf]
    · have hke : k = l.length := by omega
      have hOs : Hid (Own wr w.heap.size g k cp (sortK l)) := hide (by have := unhide hO; rw [hke, List.take_length] at this; rw [hke]; exact this)
      have hsl : Hid ((sortK l).length = k) := hide (by rw [(sortK_spec l).1.length_eq]; omega)
      have hglt : g < wr.heap.size := own_lt (unhide hO)
      have hwl : w.heap.size ≤ wr.heap.size := (unhide hB).size
      have h0 := hide (own_lit0 wr (Nat.le_refl _))
      have hb0 := hide ((Below.refl wr.heap.size wr).alloc (Nat.le_refl _) (.cells #[] 34))
      have htd : Hid (told l = tells [] none ((sortK l).drop 0)) := hide (by simp [tells, told])
      have hfin := hide (show ∀ o xo, told l = tells o xo ((sortK l).drop k) → told l = o ++ xo.toList from fun o xo h => by
        rw [h, List.drop_eq_nil_of_le (by rw [unhide hsl]; omega)]
        cases xo <;> simp [tells, tell, tellG])
      clear hO
      generalize wr = W0 at *
      have hke' := hide hke
      clear hke
      generalize sortK l = srt at *
      go_wp2
      go_loopw [6, 7] (fun s t wr => ∃ (i g2 c2 : Nat) (o : List Kl) (xo : Option Kl), i ≤ k ∧ t = .int .i64 i ∧ s = .slice (some ⟨g2, 0, none⟩) (o ++ xo.toList).length c2 ∧ Hid (Own wr W0.heap.size g2 (o ++ xo.toList).length c2 (o ++ xo.toList)) ∧ Hid (Below W0.heap.size W0 wr) ∧ Hid (told l = tells o xo (srt.drop i)) ∧ Hid ((o ++ xo.toList).length ≤ i ∧ (xo = none → o = []))) (fun _ t _ => k - (intOf t).toNat)
      case atStart => exact ⟨0, W0.heap.size, 0, [], none, by omega, rfl, rfl, h0, hb0, htd, hide (by simp)⟩
      case round =>
        clear h0 hb0 htd
        obtain ⟨i, g2, c2, o, xo, hi, rfl, rfl, hO2, hB2, hT, hLn⟩ := hrel
        by_cases hik : i < k
        · obtain ⟨r, hr⟩ : ∃ r, srt[i]? = some r := ⟨srt[i]'(by rw [unhide hsl]; omega), List.getElem?_eq_getElem _⟩
          obtain ⟨r0, r1, r2⟩ := own_cells hr (own_blk (unhide hOs) (unhide hB2) hglt)
          have hdr := wo_drop (x1 := 0) (x3 := 0) (f := 0) hr
          obtain ⟨y1, y2, y3⟩ := r
          have hg2 : g2 < wr.heap.size := own_lt (unhide hO2)
          have hgg : W0.heap.size ≤ g2 := own_ge (unhide hO2)
          have hwq : W0.heap.size ≤ wr.heap.size := (unhide hB2).size
          cases xo with
          | none =>
            have ho : o = [] := (unhide hLn).2 rfl
            subst ho
            have hT' := hide (show told l = tells [] (some (y1, y2, y3)) (srt.drop (i + 1)) by rw [unhide hT, hdr]; rfl)
            have hgd : decide ((0 : Int) < (([] : List Kl) ++ (none : Option Kl).toList).length) = false := by simp
            clear hdr hT hr
            go_wp2_with fail
            go_quiet (fail)
            go_wp2_with (at_builtin; refine wpList_kg Try.underlying27 rfl _ _ rfl W0.heap.size g2 0 c2 [] rfl (unhide hO2) wr.heap.size rfl rfl (by omega) ?_)
            intro g3 c3 w3 h1 h2 h3
            have hB3 := hide (below_grown (w := wr) (unhide hB2) ⟨h2.os, h2.tape, h2.output, h2.size, h2.block⟩ hgg)
            have h1' := hide h1
            clear h1 h2
            go_wp2
            go_roundw
            case rel => exact ⟨i + 1, g3, c3, [], some (y1, y2, y3), by omega, by go_num, rfl, h1', hB3, hT', hide (by simp)⟩
            case measure => simp [intOf]; omega
          | some x =>
            obtain ⟨x1, x2, x3⟩ := x
            obtain ⟨m, hm⟩ : ∃ m, m = o.length := ⟨_, rfl⟩
            have hlm : (o ++ (some (x1, x2, x3) : Option Kl).toList).length = m + 1 := by simp [hm]
            have hol : (o ++ (some (x1, x2, x3) : Option Kl).toList) = o ++ [(x1, x2, x3)] := rfl
            rw [hlm] at hO2 hLn ⊢
            rw [hol] at hO2
            have hcl := own_cells (last_get o (x1, x2, x3)) (unhide hO2)
            rw [← hm] at hcl
            obtain ⟨s0, s1, s2⟩ := hcl
            have hL : IntKind.i64.wrap (((m + 1 : Nat) : Int) - 1) = (m : Int) := by rw [IntKind.wrap_i64]; have := (unhide hLn).1; omega
            have hL' : IntKind.i64.wrap ((m : Int) + 1 - 1) = (m : Int) := by rw [IntKind.wrap_i64]; have := (unhide hLn).1; omega
            have hLm : IntKind.i64.wrap (m : Int) = (m : Int) := by rw [IntKind.wrap_i64]; have := (unhide hLn).1; omega
            have hgd : decide ((0 : Int) < ((m + 1 : Nat) : Int)) = true := decide_eq_true (by omega)
            have hgd' : decide ((0 : Int) < (m : Int) + 1) = true := decide_eq_true (by omega)
            have hge : decide (0 ≤ (m : Int)) = true := by simp
            have hmk : (m : Int) < ((m + 1 : Nat) : Int) := by omega
            have hmk' : (m : Int) < (m : Int) + 1 := by omega
            have hm' := hide hm
            have hmi := (unhide hLn).1
            clear hm hlm hol hr
            by_cases hhit : y1 = x1 ∧ y2 ≤ x3
            · have hT' := hide (show told l = tells o (some (x1, x2, max x3 y3)) (srt.drop (i + 1)) by rw [unhide hT, hdr]; show o ++ tellG _ _ = _; rw [tellG_hit hhit]; rfl)
              have b1 : (x1 == y1) = true := by simp [hhit.1]
              have b2 : decide (y2 ≤ x3) = true := by simpa using hhit.2
              have f2 := (unhide hO2).frozenAt (m * 3 + 2)
              have hON := hide (show Own (wr.setCell ⟨g2, m * 3 + 2, none⟩ (.int .i64 (max x3 y3))) W0.heap.size g2 (m + 1) c2 (o ++ [(x1, x2, max x3 y3)]) by
                have := own_last (unhide hO2) (max x3 y3)
                rw [← unhide hm'] at this; exact this)
              have hBN := hide (show Below W0.heap.size W0 (wr.setCell ⟨g2, m * 3 + 2, none⟩ (.int .i64 (max x3 y3))) from (unhide hB2).setCell hgg _)
              have hh := hide hhit
              have hMx := hide (fun w => smax_any x3 y3 w)
              clear hdr hT hhit hO2 hB2
              generalize max x3 y3 = M at *
              go_wp2_with fail
              go_quiet (fail)
              go_wp2_with fail
              obtain ⟨WQ, hWQ⟩ : ∃ WQ, WQ = wr.drewN nq := ⟨_, rfl⟩
              have t2 : WQ.cell? ⟨g2, m * 3 + 2, none⟩ = some (.int .i64 x3) := by rw [hWQ]; exact s2
              have t5 : WQ.cell? ⟨g, i * 3 + 2, none⟩ = some (.int .i64 y3) := by rw [hWQ]; exact r2
              have tf : WQ.frozen? ⟨g2, m * 3 + 2, none⟩ = false := by rw [hWQ]; exact f2
              have hON : Hid (Own (WQ.setCell ⟨g2, m * 3 + 2, none⟩ (.int .i64 M)) W0.heap.size g2 (m + 1) c2 (o ++ [(x1, x2, M)])) := by rw [hWQ]; exact hide (unhide hON)
              have hBN : Hid (Below W0.heap.size W0 (WQ.setCell ⟨g2, m * 3 + 2, none⟩ (.int .i64 M))) := by rw [hWQ]; exact hide ⟨(unhide hBN).os, (unhide hBN).tape, (unhide hBN).output, (unhide hBN).size, (unhide hBN).block⟩
              rw [← hWQ]
              clear hWQ r0 r1 r2 s0 s1 s2 f2
              refine wp_region_noPanic ?_
              refine wp_region_held_drew (S := fun w' => w'.cell? ⟨g, i * 3 + 2, none⟩ = some (.int .i64 y3)) (by kernel_rfl) ?_ (fun hH0 => ?_)
              · exact t5
              have t2d : WQ.drew.cell? ⟨g2, m * 3 + 2, none⟩ = some (.int .i64 x3) := t2
              have tfd : WQ.drew.frozen? ⟨g2, m * 3 + 2, none⟩ = false := tf
              refine wpAnyH_take (i := 0) (oi := { dst := some 125, op := Go.Op.move (Go.Operand.tmp 6), type := 27, pos := _, after := #[], guard := none }) (v := ?_) rfl (by kernel_rfl) (by kernel_rfl) (by kernel_rfl) (fun _ _ _ h => h) (Or.inl ⟨by rfl, ?_⟩) hH0 ?_
              rotate_left
              · (intro w hSw; (try dsimp only at hSw); go_simp <;> with_reducible rfl)
              (try simp only [Act.put, List.setIfInBounds_toArray, List.set_cons_zero, List.set_cons_succ])
              refine wpAnyH_take (i := 1) (oi := { dst := some 126, op := Go.Op.move (Go.Operand.tmp 8), type := 3, pos := _, after := #[], guard := none }) (v := ?_) rfl (by kernel_rfl) (by kernel_rfl) (by kernel_rfl) (fun _ _ _ h => h) (Or.inl ⟨by rfl, ?_⟩) hH0 ?_
              rotate_left
              · (intro w hSw; (try dsimp only at hSw); go_simp <;> with_reducible rfl)
              (try simp only [Act.put, List.setIfInBounds_toArray, List.set_cons_zero, List.set_cons_succ])
              refine wpAnyH_take (i := 2) (oi := { dst := some 127, op := Go.Op.binOp Go.BinOp.sub 3 (Go.Operand.tmp 126) (Go.Operand.const (Go.Value.int Go.IntKind.i64 1)) 3, type := 3, pos := _, after := #[{ on := 1, ground := Go.Ground.data }], guard := none }) (v := ?_) rfl (by kernel_rfl) (by kernel_rfl) (by kernel_rfl) (fun _ _ _ h => h) (Or.inl ⟨by rfl, ?_⟩) hH0 ?_
              rotate_left
              · (intro w hSw; (try dsimp only at hSw); go_simp <;> with_reducible rfl)
              (try simp only [Act.put, List.setIfInBounds_toArray, List.set_cons_zero, List.set_cons_succ])
              refine wpAnyH_take (i := 3) (oi := { dst := some 128, op := Go.Op.move (Go.Operand.tmp 6), type := 27, pos := _, after := #[], guard := none }) (v := ?_) rfl (by kernel_rfl) (by kernel_rfl) (by kernel_rfl) (fun _ _ _ h => h) (Or.inl ⟨by rfl, ?_⟩) hH0 ?_
              rotate_left
              · (intro w hSw; (try dsimp only at hSw); go_simp <;> with_reducible rfl)
              (try simp only [Act.put, List.setIfInBounds_toArray, List.set_cons_zero, List.set_cons_succ])
              refine wpAnyH_take (i := 4) (oi := { dst := some 129, op := Go.Op.move (Go.Operand.tmp 8), type := 3, pos := _, after := #[], guard := none }) (v := ?_) rfl (by kernel_rfl) (by kernel_rfl) (by kernel_rfl) (fun _ _ _ h => h) (Or.inl ⟨by rfl, ?_⟩) hH0 ?_
              rotate_left
              · (intro w hSw; (try dsimp only at hSw); go_simp <;> with_reducible rfl)
              (try simp only [Act.put, List.setIfInBounds_toArray, List.set_cons_zero, List.set_cons_succ])
              refine wpAnyH_take (i := 5) (oi := { dst := some 130, op := Go.Op.binOp Go.BinOp.sub 3 (Go.Operand.tmp 129) (Go.Operand.const (Go.Value.int Go.IntKind.i64 1)) 3, type := 3, pos := _, after := #[{ on := 4, ground := Go.Ground.data }], guard := none }) (v := ?_) rfl (by kernel_rfl) (by kernel_rfl) (by kernel_rfl) (fun _ _ _ h => h) (Or.inl ⟨by rfl, ?_⟩) hH0 ?_
              rotate_left
              · (intro w hSw; (try dsimp only at hSw); go_simp <;> with_reducible rfl)
              (try simp only [Act.put, List.setIfInBounds_toArray, List.set_cons_zero, List.set_cons_succ])
              refine wpAnyH_take (i := 6) (oi := { dst := some 131, op := Go.Op.indexAddr 27 (Go.Operand.tmp 128) (Go.Operand.tmp 130), type := 0, pos := _, after := #[{ on := 3, ground := Go.Ground.data }, { on := 5, ground := Go.Ground.data }], guard := none }) (v := ?_) rfl (by kernel_rfl) (by kernel_rfl) (by kernel_rfl) (fun _ _ _ h => h) (Or.inl ⟨by rfl, ?_⟩) hH0 ?_
              rotate_left
              · (intro w hSw; (try dsimp only at hSw); go_simp <;> with_reducible rfl)
              (try simp only [Act.put, List.setIfInBounds_toArray, List.set_cons_zero, List.set_cons_succ])
              refine wpAnyH_take (i := 7) (oi := { dst := some 132, op := Go.Op.fieldAddr 34 (Go.Operand.tmp 131) 2, type := 0, pos := _, after := #[{ on := 6, ground := Go.Ground.data }], guard := none }) (v := ?_) rfl (by kernel_rfl) (by kernel_rfl) (by kernel_rfl) (fun _ _ _ h => h) (Or.inl ⟨by rfl, ?_⟩) hH0 ?_
              rotate_left
              · (intro w hSw; (try dsimp only at hSw); go_simp <;> with_reducible rfl)
              (try simp only [Act.put, List.setIfInBounds_toArray, List.set_cons_zero, List.set_cons_succ])
              refine wpAnyH_take (i := 9) (oi := { dst := some 134, op := Go.Op.move (Go.Operand.tmp 3), type := 27, pos := _, after := #[], guard := none }) (v := ?_) rfl (by kernel_rfl) (by kernel_rfl) (by kernel_rfl) (fun _ _ _ h => h) (Or.inl ⟨by rfl, ?_⟩) hH0 ?_
              rotate_left
              · (intro w hSw; (try dsimp only at hSw); go_simp <;> with_reducible rfl)
              (try simp only [Act.put, List.setIfInBounds_toArray, List.set_cons_zero, List.set_cons_succ])
              refine wpAnyH_take (i := 10) (oi := { dst := some 135, op := Go.Op.move (Go.Operand.tmp 7), type := 3, pos := _, after := #[], guard := none }) (v := ?_) rfl (by kernel_rfl) (by kernel_rfl) (by kernel_rfl) (fun _ _ _ h => h) (Or.inl ⟨by rfl, ?_⟩) hH0 ?_
              rotate_left
              · (intro w hSw; (try dsimp only at hSw); go_simp <;> with_reducible rfl)
              (try simp only [Act.put, List.setIfInBounds_toArray, List.set_cons_zero, List.set_cons_succ])
              refine wpAnyH_take (i := 11) (oi := { dst := some 136, op := Go.Op.indexAddr 27 (Go.Operand.tmp 134) (Go.Operand.tmp 135), type := 0, pos := _, after := #[{ on := 9, ground := Go.Ground.data }, { on := 10, ground := Go.Ground.data }], guard := none }) (v := ?_) rfl (by kernel_rfl) (by kernel_rfl) (by kernel_rfl) (fun _ _ _ h => h) (Or.inl ⟨by rfl, ?_⟩) hH0 ?_
              rotate_left
              · (intro w hSw; (try dsimp only at hSw); go_simp <;> with_reducible rfl)
              (try simp only [Act.put, List.setIfInBounds_toArray, List.set_cons_zero, List.set_cons_succ])
              refine wpAnyH_take (i := 12) (oi := { dst := some 137, op := Go.Op.fieldAddr 34 (Go.Operand.tmp 136) 2, type := 0, pos := _, after := #[{ on := 11, ground := Go.Ground.data }], guard := none }) (v := ?_) rfl (by kernel_rfl) (by kernel_rfl) (by kernel_rfl) (fun _ _ _ h => h) (Or.inl ⟨by rfl, ?_⟩) hH0 ?_
              rotate_left
              · (intro w hSw; (try dsimp only at hSw); go_simp <;> with_reducible rfl)
              (try simp only [Act.put, List.setIfInBounds_toArray, List.set_cons_zero, List.set_cons_succ])
              refine wpAnyH_take (i := 13) (oi := { dst := some 138, op := Go.Op.load 2 (Go.Operand.tmp 137), type := 2, pos := _, after := #[{ on := 12, ground := Go.Ground.data }], guard := none }) (v := ?_) rfl (by kernel_rfl) (by kernel_rfl) (by kernel_rfl) (fun _ _ _ h => h) (Or.inl ⟨by rfl, ?_⟩) hH0 ?_
              rotate_left
              · (intro w hSw; (try dsimp only at hSw); go_simp <;> with_reducible rfl)
              (try simp only [Act.put, List.setIfInBounds_toArray, List.set_cons_zero, List.set_cons_succ])
              refine wpAnyH_ready (rs := [8]) (by kernel_rfl) (by simp) ?_
              refine AllReadyH.cons (o := { dst := some 133, op := Go.Op.load 2 (Go.Operand.tmp 132), type := 2, pos := _, after := #[{ on := 7, ground := Go.Ground.data }], guard := none }) rfl (fun K hK => ?_) AllReadyH.nil
              go_simp
              refine hK.out _ _ ?_ (fun hH1 => ?_)
              · exact hH0
              clear hK K
              (try simp only [Act.put, List.setIfInBounds_toArray, List.set_cons_zero, List.set_cons_succ])
              refine wpAnyH_ready (rs := [14]) (by kernel_rfl) (by simp) ?_
              refine AllReadyH.cons (o := { dst := some 139, op := Go.Op.call { callee := Go.Callee.value (Go.Operand.func 36), args := #[Go.Operand.tmp 133, Go.Operand.tmp 138], argTypes := #[2, 2] }, type := 2, pos := _, after := #[{ on := 8, ground := Go.Ground.data }, { on := 13, ground := Go.Ground.data }], guard := none }) rfl (fun K hK => ?_) AllReadyH.nil
              go_simp
              refine (unhide hMx _).mono ?_
              rintro e w1 ⟨rfl, rfl⟩
              refine hK.out _ _ ?_ (fun hH2 => ?_)
              · exact hH1
              clear hK K
              (try simp only [Act.put, List.setIfInBounds_toArray, List.set_cons_zero, List.set_cons_succ])
              refine wpAnyH_take (i := 15) (oi := { dst := some 140, op := Go.Op.indexAddr 27 (Go.Operand.tmp 125) (Go.Operand.tmp 127), type := 0, pos := _, after := #[{ on := 0, ground := Go.Ground.data }, { on := 2, ground := Go.Ground.data }, { on := 0, ground := Go.Ground.phase }, { on := 1, ground := Go.Ground.phase }, { on := 2, ground := Go.Ground.phase }, { on := 3, ground := Go.Ground.phase }, { on := 4, ground := Go.Ground.phase }, { on := 5, ground := Go.Ground.phase }, { on := 6, ground := Go.Ground.phase }, { on := 7, ground := Go.Ground.phase }, { on := 8, ground := Go.Ground.phase }, { on := 9, ground := Go.Ground.phase }, { on := 10, ground := Go.Ground.phase }, { on := 11, ground := Go.Ground.phase }, { on := 12, ground := Go.Ground.phase }, { on := 13, ground := Go.Ground.phase }, { on := 14, ground := Go.Ground.phase }], guard := none }) (v := ?_) rfl (by kernel_rfl) (by kernel_rfl) (by kernel_rfl) (fun _ _ _ h => h) (Or.inl ⟨by rfl, ?_⟩) hH2 ?_
              rotate_left
              · (intro w hSw; (try dsimp only at hSw); go_simp <;> with_reducible rfl)
              (try simp only [Act.put, List.setIfInBounds_toArray, List.set_cons_zero, List.set_cons_succ])
              refine wpAnyH_take (i := 16) (oi := { dst := some 141, op := Go.Op.fieldAddr 34 (Go.Operand.tmp 140) 2, type := 0, pos := _, after := #[{ on := 15, ground := Go.Ground.data }, { on := 0, ground := Go.Ground.phase }, { on := 1, ground := Go.Ground.phase }, { on := 2, ground := Go.Ground.phase }, { on := 3, ground := Go.Ground.phase }, { on := 4, ground := Go.Ground.phase }, { on := 5, ground := Go.Ground.phase }, { on := 6, ground := Go.Ground.phase }, { on := 7, ground := Go.Ground.phase }, { on := 8, ground := Go.Ground.phase }, { on := 9, ground := Go.Ground.phase }, { on := 10, ground := Go.Ground.phase }, { on := 11, ground := Go.Ground.phase }, { on := 12, ground := Go.Ground.phase }, { on := 13, ground := Go.Ground.phase }, { on := 14, ground := Go.Ground.phase }], guard := none }) (v := ?_) rfl (by kernel_rfl) (by kernel_rfl) (by kernel_rfl) (fun _ _ _ h => h) (Or.inl ⟨by rfl, ?_⟩) hH2 ?_
              rotate_left
              · (intro w hSw; (try dsimp only at hSw); go_simp <;> with_reducible rfl)
              (try simp only [Act.put, List.setIfInBounds_toArray, List.set_cons_zero, List.set_cons_succ])
              refine wpAnyH_ready (rs := [17]) (by kernel_rfl) (by simp) ?_
              refine AllReadyH.cons (o := { dst := none, op := Go.Op.store 2 (Go.Operand.tmp 141) (Go.Operand.tmp 139), type := 0, pos := _, after := #[{ on := 16, ground := Go.Ground.data }, { on := 14, ground := Go.Ground.data }, { on := 14, ground := Go.Ground.chain }, { on := 0, ground := Go.Ground.phase }, { on := 1, ground := Go.Ground.phase }, { on := 2, ground := Go.Ground.phase }, { on := 3, ground := Go.Ground.phase }, { on := 4, ground := Go.Ground.phase }, { on := 5, ground := Go.Ground.phase }, { on := 6, ground := Go.Ground.phase }, { on := 7, ground := Go.Ground.phase }, { on := 8, ground := Go.Ground.phase }, { on := 9, ground := Go.Ground.phase }, { on := 10, ground := Go.Ground.phase }, { on := 11, ground := Go.Ground.phase }, { on := 12, ground := Go.Ground.phase }, { on := 13, ground := Go.Ground.phase }, { on := 14, ground := Go.Ground.phase }], guard := none }) rfl (fun K hK => ?_) AllReadyH.nil
              go_simp
              have hgn : g ≠ g2 := by omega
              have hcy : ((WQ.drew).setCell ⟨g2, m * 3 + 2, none⟩ (.int .i64 M)).cell? ⟨g, i * 3 + 2, none⟩ = some (.int .i64 y3) := by simp [World.setCell, World.cell?, Array.getElem?_modify, Ne.symm hgn]; exact t5
              refine hK.out _ _ ?_ (fun hH3 => ?_)
              · exact hcy
              clear hK K
              (try simp only [Act.put, List.setIfInBounds_toArray, List.set_cons_zero, List.set_cons_succ])
              refine wpAnyH_done (by kernel_rfl) ?_ _
              refine NoPanic.normal ?_
              have hON' : Hid (Own ((WQ.drew).setCell ⟨g2, m * 3 + 2, none⟩ (.int .i64 M)) W0.heap.size g2 (m + 1) c2 (o ++ [(x1, x2, M)])) := hide (unhide hON)
              have hBN' : Hid (Below W0.heap.size W0 ((WQ.drew).setCell ⟨g2, m * 3 + 2, none⟩ (.int .i64 M))) := hide ⟨(unhide hBN).os, (unhide hBN).tape, (unhide hBN).output, (unhide hBN).size, (unhide hBN).block⟩
              go_wp2
              go_roundw
              case rel => exact ⟨i + 1, g2, c2, o, some (x1, x2, M), by omega, by go_num, by simp [unhide hm'], hide (own_cast (by simp [unhide hm']) (unhide hON')), hBN', hT', hide ⟨by have := unhide hm'; simp; omega, by simp⟩⟩
              case measure => simp [intOf]; omega
            · have hT' := hide (show told l = tells (o ++ [(x1, x2, x3)]) (some (y1, y2, y3)) (srt.drop (i + 1)) by rw [unhide hT, hdr]; show o ++ tellG _ _ = _; rw [tellG_new hhit]; simp [tells])
              have hh := hide hhit
              clear hdr hT
              by_cases h1 : y1 = x1
              · have b1 : (x1 == y1) = true := by simp [h1]
                have b2 : decide (y2 ≤ x3) = false := by simp; omega
                have h1' := hide h1
                clear h1 hhit
                go_wp2_with fail
                go_quiet (fail)
                go_wp2_with (at_builtin; refine wpList_kg Try.underlying27 rfl _ _ rfl W0.heap.size g2 (m + 1) c2 (o ++ [(x1, x2, x3)]) rfl (unhide hO2) wr.heap.size rfl rfl (by omega) ?_)
                intro g3 c3 w3 h1 h2 h3
                have hB3 := hide (below_grown (w := wr) (unhide hB2) ⟨h2.os, h2.tape, h2.output, h2.size, h2.block⟩ hgg)
                have h1' : Hid (Own w3 W0.heap.size g3 (m + 1 + 1) c3 ((o ++ [(x1, x2, x3)]) ++ (some (y1, y2, y3) : Option Kl).toList)) := hide (by
                  have e : (o ++ [(x1, x2, x3)]) ++ (some (y1, y2, y3) : Option Kl).toList = o ++ [(x1, x2, x3), (y1, y2, y3)] := by simp
                  rw [e]; first | exact h1 | (rw [List.append_assoc] at h1; exact h1))
                clear h1 h2
                have hl3 : Hid (((o ++ [(x1, x2, x3)]) ++ (some (y1, y2, y3) : Option Kl).toList).length = m + 1 + 1) := hide (by simp [unhide hm'])
                go_wp2
                go_roundw
                case rel => exact ⟨i + 1, g3, c3, o ++ [(x1, x2, x3)], some (y1, y2, y3), by omega, by go_num, by rw [unhide hl3], hide (own_cast (unhide hl3) (unhide h1')), hB3, hT', hide ⟨by rw [unhide hl3]; omega, by simp⟩⟩
                case measure => simp [intOf]; omega
              · have b1 : (x1 == y1) = false := by simp; omega
                clear h1 hhit
                go_wp2_with fail
                go_quiet (fail)
                go_wp2_with (at_builtin; refine wpList_kg Try.underlying27 rfl _ _ rfl W0.heap.size g2 (m + 1) c2 (o ++ [(x1, x2, x3)]) rfl (unhide hO2) wr.heap.size rfl rfl (by omega) ?_)
                intro g3 c3 w3 h1 h2 h3
                have hB3 := hide (below_grown (w := wr) (unhide hB2) ⟨h2.os, h2.tape, h2.output, h2.size, h2.block⟩ hgg)
                have h1' : Hid (Own w3 W0.heap.size g3 (m + 1 + 1) c3 ((o ++ [(x1, x2, x3)]) ++ (some (y1, y2, y3) : Option Kl).toList)) := hide (by
                  have e : (o ++ [(x1, x2, x3)]) ++ (some (y1, y2, y3) : Option Kl).toList = o ++ [(x1, x2, x3), (y1, y2, y3)] := by simp
                  rw [e]; first | exact h1 | (rw [List.append_assoc] at h1; exact h1))
                clear h1 h2
                have hl3 : Hid (((o ++ [(x1, x2, x3)]) ++ (some (y1, y2, y3) : Option Kl).toList).length = m + 1 + 1) := hide (by simp [unhide hm'])
                go_wp2
                go_roundw
                case rel => exact ⟨i + 1, g3, c3, o ++ [(x1, x2, x3)], some (y1, y2, y3), by omega, by go_num, by rw [unhide hl3], hide (own_cast (unhide hl3) (unhide h1')), hB3, hT', hide ⟨by rw [unhide hl3]; omega, by simp⟩⟩
                case measure => simp [intOf]; omega
        · have hik' : i = k := by omega
          have hR := unhide hfin o xo (by rw [← hik']; exact unhide hT)
          have hR' := hide hR
          clear hT hR
          go_wp2
          go_ret
          rw [unhide hR']
          exact ⟨g2, c2, rfl, own_mono (unhide hO2) hwl, (unhide hB).trans ((unhide hB2).mono hwl)⟩

end Go.Proofs.Ytfbifffmieimoaa.Rl
