/-
  The program's joining; the answer is new memory, nothing that was there is written.
  The program's taking a part of a track; the answer is new memory, nothing that was there is written.
-/
import Derived.Test.YtioaehjppiodfaaGreatDoorG09
import Derived.Test.YtioaehjppiodfaaGreatDoorG10
namespace Go.Proofs.YtioaehjppiodfaaGreatDoor
open Go.RowKit
set_option linter.unusedVariables false
set_option linter.unusedSimpArgs false

set_option maxHeartbeats 3200000 in
theorem ijoin_any (a : Option Addr) (cap : Nat) (l : List Kl) (w : World) (hl : l.length ≤ 1000) (hA : AOk l) (hk : Kls w a l) :
    Calls Tryz.prog 130 #[.slice a l.length cap] w fun e w' => ∃ g c, e = .returned (.slice (some ⟨g, 0, none⟩) (join l).length c) ∧ w.heap.size ≤ g ∧ Own w' w.heap.size g (join l).length c (join l) ∧ Below w.heap.size w w' := by
  have hk' := hide hk
  have hA' := hide hA
  clear hk hA
  have h0 := hide (show JR w l 0 (w.alloc (.cells #[] 94)) w.heap.size 0 from ⟨Nat.le_refl _, own_lit0 w (Nat.le_refl _), (Below.refl _ _).alloc (Nat.le_refl _) _⟩)
  go_enter Tryz.func130, Tryz.ntmps130
  go_wp2
  go_loopw [3, 10] (fun s t wr => ∃ k g c : Nat, k ≤ l.length ∧ t = .int .i64 k ∧ s = .slice (some ⟨g, 0, none⟩) (join (l.take k)).length c ∧ Hid (JR w l k wr g c)) (fun _ t _ => l.length - (intOf t).toNat)
  case atStart => exact ⟨0, w.heap.size, 0, by omega, rfl, rfl, h0⟩
  case round =>
    clear h0
    obtain ⟨k, g, cp, hk, rfl, rfl, hJ⟩ := hrel
    by_cases hlt : k < l.length
    · obtain ⟨b, o', s, i, n, rfl, hx, c0, c1, c2⟩ := kls_at (unhide hk') (unhide hJ).2.2 hlt
      have hcA := (unhide hA') _ (List.mem_of_getElem? hx)
      have hjt := hide (join_take hx)
      have hx' := hide hx
      clear hx
      obtain ⟨X, hX⟩ : ∃ X, X = wr.alloc (.cells #[.int .i64 s, .int .i64 i, .int .i64 n] 94) := ⟨_, rfl⟩
      have d0 : X.cell? ⟨wr.heap.size, 0, none⟩ = some (.int .i64 s) := by rw [hX]; simp [go_sem]
      have d1 : X.cell? ⟨wr.heap.size, 1, none⟩ = some (.int .i64 i) := by rw [hX]; simp [go_sem]
      have d2 : X.cell? ⟨wr.heap.size, 2, none⟩ = some (.int .i64 n) := by rw [hX]; simp [go_sem]
      have hXb : Below wr.heap.size wr X := by rw [hX]; exact (Below.refl _ _).alloc (Nat.le_refl _) _
      have hXs : X.heap.size = wr.heap.size + 1 := by rw [hX]; simp
      have hown := hide (ownsRow_below (unhide hJ).2.1 hXb)
      have hXw := hide (laterB (unhide hJ).2.2 hXb)
      have hg0 := (unhide hJ).1
      have hglt : g < wr.heap.size := own_lt (unhide hJ).2.1
      have hX' := hide hX
      clear hJ hXb hX
      rcases List.eq_nil_or_concat (join (l.take k)) with he | ⟨o, p, he⟩
      · rw [he] at hown hjt ⊢
        rw [jstep_nil] at hjt
        go_wp2_with fail
        rw [← unhide hX']
        go_quiet (fail)
        go_wp2_with (at_builtin; refine wpList_kN Tryz.underlying78 (B := w.heap.size) (g := g) (n := 0) (cap := cp) (L := []) rfl _ _ rfl rfl (unhide hown) (hX := by first | exact Below.refl X.heap.size X | exact below_drewN (Below.refl X.heap.size X) _) (by omega) (wr.heap.size + 1) (by first | exact hXs | simp [hXs]) rfl (by omega) (by omega) (by omega) ?_)
        intro g' cap' w' hown' hbel' hg' hlt'
        have hJ' := hide (show JR w l (k + 1) w' g' cap' from ⟨hg', by rw [unhide hjt]; exact hown', (unhide hXw).trans hbel'⟩)
        have hsl := hide (show (join (l.take (k + 1))).length = 1 by rw [unhide hjt]; rfl)
        clear hown' hbel' hown hXw
        go_wp2
        go_roundw
        case rel => exact ⟨k + 1, g', cap', by omega, by go_num, by rw [unhide hsl], hJ'⟩
        case measure => simp [intOf]; omega
      · rw [List.concat_eq_append] at he
        obtain ⟨q1, q2, q3, q4⟩ := bd_last (unhide hA') hk he
        obtain ⟨p1, p2, p3⟩ := p
        have hlen : (join (l.take k)).length = o.length + 1 := by rw [he]; simp
        have hmk : o.length + 1 ≤ 1000 := by have := len_join (l.take k); rw [List.length_take] at this; omega
        rw [hlen] at hown ⊢
        rw [he] at hown hjt
        rw [jstep_snoc] at hjt
        obtain ⟨x0, x1, x2⟩ := own_cells (last_get o (p1, p2, p3)) (unhide hown)
        have f2 := (unhide hown).frozenAt (o.length * 3 + 2)
        obtain ⟨m, hm⟩ : ∃ m, m = o.length := ⟨_, rfl⟩
        rw [← hm] at hown x0 x1 x2 f2 hmk ⊢
        have hm' := hide hm
        clear hm hlen he
        have hall : Hid (X.cell? ⟨g, m * 3, none⟩ = some (.int .i64 p1) ∧ X.cell? ⟨g, m * 3 + 1, none⟩ = some (.int .i64 p2) ∧ X.cell? ⟨g, m * 3 + 2, none⟩ = some (.int .i64 p3) ∧ X.cell? ⟨wr.heap.size, 0, none⟩ = some (.int .i64 s) ∧ X.cell? ⟨wr.heap.size, 1, none⟩ = some (.int .i64 i) ∧ X.cell? ⟨wr.heap.size, 2, none⟩ = some (.int .i64 n) ∧ Below X.heap.size X X) := hide ⟨x0, x1, x2, d0, d1, d2, Below.refl _ _⟩
        have n0 := hcA.1
        have n1 := hcA.2.1
        simp only at n0 n1 q1 q2 q3 q4
        have hm1 : (0 : Int) ≤ (m : Int) := by omega
        have hm2 : (m : Int) < (m : Int) + 1 := by omega
        have hm3 : (m : Int) < ((m + 1 : Nat) : Int) := by omega
        by_cases hgo : goes (p1, p2, p3) (s, i, n)
        · rw [if_pos hgo] at hjt
          have hsl := hide (show (join (l.take (k + 1))).length = m + 1 by rw [unhide hjt]; simp [unhide hm'])
          have hv := hide (decide_eq_true hgo)
          clear hgo
          go_wp2_with fail
          rw [← unhide hX']
          go_region_held3 (fun w' => w'.cell? ⟨g, m * 3, none⟩ = some (.int .i64 p1) ∧ w'.cell? ⟨g, m * 3 + 1, none⟩ = some (.int .i64 p2) ∧ w'.cell? ⟨g, m * 3 + 2, none⟩ = some (.int .i64 p3) ∧ w'.cell? ⟨wr.heap.size, 0, none⟩ = some (.int .i64 s) ∧ w'.cell? ⟨wr.heap.size, 1, none⟩ = some (.int .i64 i) ∧ w'.cell? ⟨wr.heap.size, 2, none⟩ = some (.int .i64 n) ∧ Below X.heap.size X w')
            (first | (refine keep6 ?_ hb; assumption) | (exact keep6d (unhide hall)))
            ((go_at_call 151; refine (goes_any p1 p2 p3 s i n true _ ⟨q1, q2⟩ ⟨q3, by omega⟩ (unhide hv)).mono ?_; rintro e w1 ⟨rfl, hb⟩))
          rename_i hH
          obtain ⟨y0, y1, y2, y3, y4, y5, yb⟩ := hH
          have oY := hide (ownsRow_below (unhide hown) yb)
          have yw := hide (laterB (unhide hXw) yb)
          have hgY : g < w1.heap.size := by have := yb.size; omega
          have fY : w1.frozen? ⟨g, m * 3 + 2, none⟩ = false := (unhide oY).frozenAt (m * 3 + 2)
          have hsY := yb.size
          clear hown hXw yb x0 x1 x2 f2 d0 d1 d2
          go_wp2_with fail
          go_region
          go_wp2
          go_roundw
          case rel => exact ⟨k + 1, g, cp, by omega, by go_num, by rw [unhide hsl], hide (jr_last (unhide hjt) (unhide hm') hg0 (unhide oY) (unhide yw) _)⟩
          case measure => simp [intOf]; omega
        · rw [if_neg hgo] at hjt
          have hv := hide (decide_eq_false hgo)
          clear hgo
          go_wp2_with fail
          rw [← unhide hX']
          go_region_held3 (fun w' => w'.cell? ⟨g, m * 3, none⟩ = some (.int .i64 p1) ∧ w'.cell? ⟨g, m * 3 + 1, none⟩ = some (.int .i64 p2) ∧ w'.cell? ⟨g, m * 3 + 2, none⟩ = some (.int .i64 p3) ∧ w'.cell? ⟨wr.heap.size, 0, none⟩ = some (.int .i64 s) ∧ w'.cell? ⟨wr.heap.size, 1, none⟩ = some (.int .i64 i) ∧ w'.cell? ⟨wr.heap.size, 2, none⟩ = some (.int .i64 n) ∧ Below X.heap.size X w')
            (first | (refine keep6 ?_ hb; assumption) | (exact keep6d (unhide hall)))
            ((go_at_call 151; refine (goes_any p1 p2 p3 s i n false _ ⟨q1, q2⟩ ⟨q3, by omega⟩ (unhide hv)).mono ?_; rintro e w1 ⟨rfl, hb⟩))
          rename_i hH
          obtain ⟨y0, y1, y2, y3, y4, y5, yb⟩ := hH
          have oY := hide (ownsRow_below (unhide hown) yb)
          have yw := hide (laterB (unhide hXw) yb)
          have hgY : g < w1.heap.size := by have := yb.size; omega
          have fY : w1.frozen? ⟨g, m * 3 + 2, none⟩ = false := (unhide oY).frozenAt (m * 3 + 2)
          have hsY := yb.size
          clear hown hXw yb x0 x1 x2 f2 d0 d1 d2
          go_wp2_with (at_builtin; refine wpList_kN Tryz.underlying78 (B := w.heap.size) (g := g) (n := m + 1) (cap := cp) (L := o ++ [(p1, p2, p3)]) rfl _ _ rfl rfl (unhide oY) (hX := by first | exact Below.refl w1.heap.size w1 | exact below_drewN (Below.refl w1.heap.size w1) _) hgY w1.heap.size (by first | rfl | simp) rfl (by omega) (by omega) (by omega) ?_)
          intro g' cap' w' hown' hbel' hg' hlt'
          have hJ' := hide (show JR w l (k + 1) w' g' cap' from jr_app (unhide hjt) (unhide hm') hg' (by first | exact hown' | (rw [List.append_assoc] at hown'; exact hown')) ((unhide yw).trans hbel'))
          have hsl := hide (show (join (l.take (k + 1))).length = m + 1 + 1 by rw [unhide hjt]; simp [unhide hm'])
          clear hown' hbel' oY yw
          go_wp2
          go_roundw
          case rel => exact ⟨k + 1, g', cap', by omega, by go_num, by rw [unhide hsl], hJ'⟩
          case measure => simp [intOf]; omega
    · have hke : k = l.length := by omega
      have hlj := hide (show join (l.take k) = join l by rw [hke, List.take_length])
      rw [unhide hlj]
      have hJ2 : Hid (w.heap.size ≤ g ∧ Own wr w.heap.size g (join l).length cp (join l) ∧ Below w.heap.size w wr) := hide (by have := unhide hJ; unfold JR at this; rw [unhide hlj] at this; exact this)
      clear hJ
      go_wp2
      go_ret
      exact ⟨g, cp, rfl, (unhide hJ2).1, (unhide hJ2).2.1, (unhide hJ2).2.2⟩
end Go.Proofs.YtioaehjppiodfaaGreatDoor

namespace Go.Proofs.YtioaehjppiodfaaGreatDoor
open Go.RowKit
set_option linter.unusedVariables false
set_option linter.unusedSimpArgs false

set_option maxHeartbeats 800000 in
theorem partOf_any (s i n a b v : Int) (w : World) (hv : (if s = 0 then 0 else i + a) = v) (hi : 0 ≤ i ∧ i ≤ 10000000) (ha : 0 ≤ a ∧ a ≤ 10000000) (hb : 0 ≤ b ∧ b ≤ 10000000) :
    Calls Tryz.prog 133 #[.agg #[.int .i64 s, .int .i64 i, .int .i64 n], .int .i64 a, .int .i64 b] w fun e w' => e = .returned (.agg #[.int .i64 s, .int .i64 v, .int .i64 (b - a)]) ∧ Below w.heap.size w w' := by
  subst hv
  obtain ⟨i0, i1⟩ := hi
  obtain ⟨a0, a1⟩ := ha
  obtain ⟨b0, b1⟩ := hb
  have hX := hide (show Below w.heap.size w ((w.alloc (.cells #[.int .i64 s, .int .i64 i, .int .i64 n] 94)).alloc (.cells #[.int .i64 0, .int .i64 0, .int .i64 0] 94)) from ((Below.refl _ _).alloc (Nat.le_refl _) _).alloc (by simp) _)
  by_cases hs : s = 0
  · subst hs
    go_enter Tryz.func133, Tryz.ntmps133
    go_wp2_with fail
    refine (gap_any 0 i n true _ rfl).mono ?_
    rintro e w1 ⟨rfl, hb⟩
    obtain ⟨B1, B2⟩ := bcell hb
    have hw := hide (laterB (unhide hX) hb)
    clear hb
    go_wp2
    refine bodyPost_ret (v := .agg #[.int .i64 0, .int .i64 0, .int .i64 (b - a)]) (by simp [results, Tryz.results133, go_sem, B1]) rfl ⟨by simp, ?_⟩
    have := unhide hw
    repeat first | exact this | refine Below.setCell ?_ (by simp) _
  · have hs' : decide (s = 0) = false := by simpa using hs
    go_enter Tryz.func133, Tryz.ntmps133
    go_wp2_with fail
    refine (gap_any s i n false _ hs').mono ?_
    rintro e w1 ⟨rfl, hb⟩
    obtain ⟨B1, B2⟩ := bcell hb
    have hw := hide (laterB (unhide hX) hb)
    clear hb
    go_wp2
    refine bodyPost_ret (v := .agg #[.int .i64 s, .int .i64 (i + a), .int .i64 (b - a)]) (by simp [results, Tryz.results133, go_sem, B1]) rfl ⟨by simp [hs], ?_⟩
    have := unhide hw
    repeat first | exact this | refine Below.setCell ?_ (by simp) _

set_option maxHeartbeats 3200000 in
theorem ipart_any (a : Option Addr) (cap : Nat) (l : List Kl) (f t : Int) (w : World) (hT : TOk l) (hf : 0 ≤ f ∧ f ≤ 30000000) (ht : 0 ≤ t ∧ t ≤ 30000000) (hk : Kls w a l) :
    Calls Tryz.prog 118 #[.slice a l.length cap, .int .i64 f, .int .i64 t] w fun e w' => ∃ g c, e = .returned (.slice (some ⟨g, 0, none⟩) (part l f t).length c) ∧ w.heap.size ≤ g ∧ Own w' w.heap.size g (part l f t).length c (part l f t) ∧ Below w.heap.size w w' := by
  have hk' := hide hk
  have hA' := hide hT.2.1
  have hl := hT.1
  have hL := hT.2.2
  obtain ⟨f0, f1⟩ := hf
  obtain ⟨t0, t1⟩ := ht
  clear hk hT
  have h0 := hide (show PR w l f t 0 (w.alloc (.cells #[] 94)) w.heap.size 0 from ⟨Nat.le_refl _, own_lit0 w (Nat.le_refl _), (Below.refl _ _).alloc (Nat.le_refl _) _⟩)
  go_enter Tryz.func118, Tryz.ntmps118
  go_wp2
  go_loopw [1, 2, 7, 15] (fun p q s t' wr => ∃ k g c : Nat, k ≤ l.length ∧ t' = .int .i64 k ∧ p = .int .i64 (f - clen (l.take k)) ∧ q = .int .i64 (t - clen (l.take k)) ∧ s = .slice (some ⟨g, 0, none⟩) (part (l.take k) f t).length c ∧ Hid (PR w l f t k wr g c)) (fun _ _ _ t' _ => l.length - (intOf t').toNat)
  case atStart => exact ⟨0, w.heap.size, 0, by omega, rfl, by simp [clen], by simp [clen], rfl, h0⟩
  case round =>
    clear h0
    obtain ⟨k, g, cp, hk, rfl, rfl, rfl, rfl, hJ⟩ := hrel
    obtain ⟨b0, _⟩ := take_bd ((unhide hA').take k) hk
    have b1 := clen_take_le (unhide hA') k
    by_cases hlt : k < l.length
    · obtain ⟨b, o', s, i, n, rfl, hx, c0, c1, c2⟩ := kls_at (unhide hk') (unhide hJ).2.2 hlt
      have hcA := (unhide hA') _ (List.mem_of_getElem? hx)
      have hcl := hide (clen_take hx)
      have hps := hide (part_snoc hx f t)
      obtain ⟨n0, n1, i0, i1, _⟩ := hcA
      simp only at n0 n1 i0 i1
      clear hx
      obtain ⟨q, hq⟩ : ∃ q, q = clen (l.take k) := ⟨_, rfl⟩
      rw [← hq] at b0 b1 hcl hps ⊢
      obtain ⟨F, hF⟩ : ∃ F, F = f - q := ⟨_, rfl⟩
      obtain ⟨T, hTT⟩ : ∃ T, T = t - q := ⟨_, rfl⟩
      rw [← hF, ← hTT]
      obtain ⟨m, hm⟩ : ∃ m, m = (part (l.take k) f t).length := ⟨_, rfl⟩
      rw [← hm]
      have hmk : m ≤ 300 := by have := part_len (l.take k) f t; rw [List.length_take] at this; omega
      have hown : Hid (Own wr w.heap.size g m cp (part (l.take k) f t)) := hide (by rw [hm]; exact (unhide hJ).2.1)
      have hg0 := (unhide hJ).1
      have hglt : g < wr.heap.size := own_lt (unhide hJ).2.1
      have hwB := hide (unhide hJ).2.2
      have F0 : -10000000 ≤ F := by omega
      have F1 : F ≤ 30000000 := by omega
      have T0 : -10000000 ≤ T := by omega
      have T1 : T ≤ 30000000 := by omega
      have hF2 := hide hF
      have hT2 := hide hTT
      have hm' := hide hm
      have hq' := hide hq
      clear hF hTT hm hq
      go_wp2_with fail
      go_region
      generalize hA : (if F < 0 then 0 else F) = A
      generalize hB : (if n < T then n else T) = B
      have hA2 : A = max F 0 := by rw [← hA]; split <;> omega
      have hB2 : B = min T n := by rw [← hB]; split <;> omega
      have A0 : 0 ≤ A := by omega
      have A1 : A ≤ 30000000 := by omega
      have B0 : -10000000 ≤ B := by omega
      have B1 : B ≤ 10000000 := by omega
      have hX : Hid (Below wr.heap.size wr (wr.alloc (.cells #[.int .i64 s, .int .i64 i, .int .i64 n] 94)).drew) := hide ((Below.refl _ _).alloc (Nat.le_refl _) _).drew
      obtain ⟨X, hXe⟩ : ∃ X, X = (wr.alloc (.cells #[.int .i64 s, .int .i64 i, .int .i64 n] 94)).drew := ⟨_, rfl⟩
      have d0 : X.cell? ⟨wr.heap.size, 0, none⟩ = some (.int .i64 s) := by rw [hXe]; simp [go_sem]
      have d1 : X.cell? ⟨wr.heap.size, 1, none⟩ = some (.int .i64 i) := by rw [hXe]; simp [go_sem]
      have d2 : X.cell? ⟨wr.heap.size, 2, none⟩ = some (.int .i64 n) := by rw [hXe]; simp [go_sem]
      have hXs := hide (show X.heap.size = wr.heap.size + 1 by rw [hXe]; simp)
      rw [← hXe] at hX ⊢
      have hpt : ptOne (s, i, n) F T = if A < B then [(s, (if s = 0 then 0 else i + A), B - A)] else [] := by unfold ptOne; rw [hA2, hB2]
      rw [← unhide hF2, ← unhide hT2, hpt] at hps
      clear hA hB hA2 hB2 hXe hpt
      by_cases hab : A < B
      · obtain ⟨v, hv⟩ : ∃ v, (if s = 0 then 0 else i + A) = v := ⟨_, rfl⟩
        have hp2 := hide (show part (l.take (k + 1)) f t = part (l.take k) f t ++ [(s, v, B - A)] by rw [unhide hps, if_pos hab, hv])
        have hv' := hide hv
        clear hv hps
        go_wp2_with fail
        refine (partOf_any s i n A B v _ (unhide hv') ⟨i0, by omega⟩ ⟨A0, by omega⟩ ⟨by omega, B1⟩).mono ?_
        rintro e w1 ⟨rfl, hb1⟩
        have e2 := cell_later hb1 d2
        have hX1 := hide ((unhide hX).trans (hb1.mono (unhide hX).size))
        have hs1 : wr.heap.size < w1.heap.size := by have := hb1.size; have := unhide hXs; omega
        clear hb1 d0 d1 d2
        go_wp2_with (at_builtin; refine wpList_kM Tryz.underlying78 (B := w.heap.size) (C := wr.heap.size) (wr := wr) (g := g) (n := m) (cap := cp) (L := part (l.take k) f t) rfl _ _ rfl rfl (unhide hown) (hX := unhide hX1) hglt w1.heap.size rfl rfl (by omega) (by omega) (by omega) ?_)
        intro g' cap' w' hown' hbel' hg' hlt' hkp
        have hJ' := hide (show PR w l f t (k + 1) w' g' cap' from pr_app (unhide hp2) (unhide hm') hg' hown' ((unhide hwB).trans hbel'))
        have hsl := hide (show (part (l.take (k + 1)) f t).length = m + 1 by rw [unhide hp2]; simp [unhide hm'])
        have hn := (hkp wr.heap.size 2 hs1 (by omega)).trans (show _ = some (.int .i64 n) by rw [World.cell?_alloc_past _ _ _ (by simpa using hs1)]; exact e2)
        clear hkp hown' hbel' hown hJ
        go_wp2
        go_roundw
        case rel => exact ⟨k + 1, g', cap', by omega, by go_num, by rw [unhide hcl, unhide hF2]; exact congrArg (Value.int .i64) (by omega), by rw [unhide hcl, unhide hT2]; exact congrArg (Value.int .i64) (by omega), by rw [unhide hsl], hJ'⟩
        case measure => simp [intOf]; omega
      · have hp2 := hide (show part (l.take (k + 1)) f t = part (l.take k) f t by rw [unhide hps, if_neg hab, List.append_nil])
        have hab' : decide (A < B) = false := by simpa using hab
        have hJ' := hide (pr_same (unhide hJ) (unhide hp2) (unhide hX))
        have hsl := hide (show (part (l.take (k + 1)) f t).length = m by rw [unhide hp2, unhide hm'])
        clear hJ hown hab
        go_wp2
        go_roundw
        case rel => exact ⟨k + 1, g, cp, by omega, by go_num, by rw [unhide hcl, unhide hF2]; exact congrArg (Value.int .i64) (by omega), by rw [unhide hcl, unhide hT2]; exact congrArg (Value.int .i64) (by omega), by rw [unhide hsl], hJ'⟩
        case measure => simp [intOf]; omega
    · have hke : k = l.length := by omega
      have hlj := hide (show part (l.take k) f t = part l f t by rw [hke, List.take_length])
      rw [unhide hlj]
      have hJ2 : Hid (w.heap.size ≤ g ∧ Own wr w.heap.size g (part l f t).length cp (part l f t) ∧ Below w.heap.size w wr) := hide (by have := unhide hJ; unfold PR at this; rw [unhide hlj] at this; exact this)
      clear hJ
      go_wp2
      go_ret
      exact ⟨g, cp, rfl, (unhide hJ2).1, (unhide hJ2).2.1, (unhide hJ2).2.2⟩
end Go.Proofs.YtioaehjppiodfaaGreatDoor
