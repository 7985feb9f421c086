/-
  What the program sees at a frame of keys: the frame, what is left of the division, its divisor; nothing that was there is written.
-/
import Derived.Test.YtbmkbhondlecaaaSpI
namespace Go.Proofs.Ytbmkbhondlecaaa.Y
open Go.RowKit
open Go.Proofs.Ytbmkbhondlecaaa
set_option linter.unusedVariables false
set_option linter.unusedSimpArgs false

/-- the boxes: t, and the answer under way -/
def SnB (W : World) (B : Nat) (t : Int) : Prop :=
  W.cell? ⟨B, 0, none⟩ = some (.int .i64 t) ∧ W.cell? ⟨B + 1, 0, none⟩ = some (.int .i64 0) ∧ W.cell? ⟨B + 1, 1, none⟩ = some (.int .i64 0) ∧ W.cell? ⟨B + 1, 2, none⟩ = some (.int .i64 0) ∧
  W.frozen? ⟨B + 1, 0, none⟩ = false ∧ W.frozen? ⟨B + 1, 1, none⟩ = false ∧ W.frozen? ⟨B + 1, 2, none⟩ = false ∧ B + 1 < W.heap.size
theorem SnB.later {W W' : World} {B : Nat} {t : Int} (h : SnB W B t) (hb : Below W.heap.size W W') : SnB W' B t := by
  obtain ⟨h0, h1, h2, h3, f1, f2, f3, hB⟩ := h
  obtain ⟨C, F⟩ := bcell hb
  exact ⟨(C _ _ (by omega)).trans h0, (C _ _ hB).trans h1, (C _ _ hB).trans h2, (C _ _ hB).trans h3, (F _ _ hB).trans f1, (F _ _ hB).trans f2, (F _ _ hB).trans f3, Nat.lt_of_lt_of_le hB hb.size⟩
theorem snb_start (w : World) (t : Int) : SnB ((w.alloc (.cells #[.int .i64 t] 2)).alloc (.cells #[.int .i64 0, .int .i64 0, .int .i64 0] 63)) w.heap.size t := by
  refine ⟨?_, ?_, ?_, ?_, ?_, ?_, ?_, ?_⟩ <;> simp [go_sem]
def SnS (w : World) (b o1 o2 B : Nat) (s1 i1 s2 i2 t : Int) (W : World) : Prop :=
  W.cell? ⟨b, o1, none⟩ = some (.int .i64 s1) ∧ W.cell? ⟨b, o1 + 1, none⟩ = some (.int .i64 i1) ∧ W.cell? ⟨b, o2, none⟩ = some (.int .i64 s2) ∧ W.cell? ⟨b, o2 + 1, none⟩ = some (.int .i64 i2) ∧ W.cell? ⟨B, 0, none⟩ = some (.int .i64 t) ∧ Below w.heap.size w W
theorem SnS.later {w W W' : World} {b o1 o2 B : Nat} {s1 i1 s2 i2 t : Int} (h : SnS w b o1 o2 B s1 i1 s2 i2 t W) (hb : Below W.heap.size W W') : SnS w b o1 o2 B s1 i1 s2 i2 t W' := by
  obtain ⟨h1, h2, h3, h4, g0, h7⟩ := h
  exact ⟨cell_later hb h1, cell_later hb h2, cell_later hb h3, cell_later hb h4, cell_later hb g0, laterB h7 hb⟩
theorem ne_bk {b b' o o' : Nat} (h : b ≠ b') : (⟨b, o, none⟩ : Addr) ≠ ⟨b', o', none⟩ := by intro e; injection e with e; exact h e
theorem set3_other {W : World} {B b o o1 o2 o3 : Nat} {a x y : Value} (h : b ≠ B) : (((W.setCell ⟨B, o1, none⟩ a).setCell ⟨B, o2, none⟩ x).setCell ⟨B, o3, none⟩ y).cell? ⟨b, o, none⟩ = W.cell? ⟨b, o, none⟩ := by
  rw [World.cell?_setCell_other _ _ _ _ (ne_bk (Ne.symm h)), World.cell?_setCell_other _ _ _ _ (ne_bk (Ne.symm h)), World.cell?_setCell_other _ _ _ _ (ne_bk (Ne.symm h))]
theorem set3_below {w W : World} {B : Nat} {a b c : Value} {o1 o2 o3 : Nat} (h : Below w.heap.size w W) (hB : w.heap.size ≤ B) : Below w.heap.size w (((W.setCell ⟨B, o1, none⟩ a).setCell ⟨B, o2, none⟩ b).setCell ⟨B, o3, none⟩ c) :=
  ((h.setCell (p := ⟨B, o1, none⟩) hB _).setCell (p := ⟨B, o2, none⟩) hB _).setCell (p := ⟨B, o3, none⟩) hB _
theorem SnS.set {w W : World} {b o1 o2 B p1 p2 p3 : Nat} {s1 i1 s2 i2 t : Int} {x y z : Value} (h : SnS w b o1 o2 B s1 i1 s2 i2 t W) (hb : b < B) (hB : w.heap.size ≤ B) : SnS w b o1 o2 B s1 i1 s2 i2 t (((W.setCell ⟨B + 1, p1, none⟩ x).setCell ⟨B + 1, p2, none⟩ y).setCell ⟨B + 1, p3, none⟩ z) := by
  obtain ⟨h1, h2, h3, h4, g0, h7⟩ := h
  exact ⟨by rw [set3_other (by omega)]; exact h1, by rw [set3_other (by omega)]; exact h2, by rw [set3_other (by omega)]; exact h3, by rw [set3_other (by omega)]; exact h4, by rw [set3_other (by omega)]; exact g0, set3_below h7 (by omega)⟩

/-- what seenAt answers -/
noncomputable def seenV (l : List Ky) (t : Int) : Value := if KsOk l ∧ FrOk t then .tuple #[.agg #[.int .i64 (spAt l t).1, .int .i64 (spAt l t).2.1, .int .i64 (spAt l t).2.2], .bool true] else .tuple #[.agg #[.int .i64 0, .int .i64 0, .int .i64 0], .bool false]
theorem seen_yes {l : List Ky} {t : Int} (h : KsOk l) (k : FrOk t) : seenV l t = .tuple #[.agg #[.int .i64 (spAt l t).1, .int .i64 (spAt l t).2.1, .int .i64 (spAt l t).2.2], .bool true] := if_pos ⟨h, k⟩
theorem seen_no {l : List Ky} {t : Int} (h : ¬ (KsOk l ∧ FrOk t)) : seenV l t = .tuple #[.agg #[.int .i64 0, .int .i64 0, .int .i64 0], .bool false] := if_neg h

set_option maxHeartbeats 3200000 in
theorem iseen_any (a : Option Addr) (cap : Nat) (l : List Ky) (t : Int) (w : World) (hl : l.length ≤ maxLen) (hk : Kys w a l) :
    Calls Try.prog 38 #[.slice a l.length cap, .int .i64 t] w fun e w' => e = .returned (seenV l t) ∧ Below w.heap.size w w' := by
  have hk' := hide hk
  have hl' := hide hl
  clear hk hl
  have hs0 := hide (snb_start w t)
  have hb0 := hide (((Below.refl w.heap.size w).alloc (Nat.le_refl _) (.cells #[.int .i64 t] 2)).alloc (by simp) (.cells #[.int .i64 0, .int .i64 0, .int .i64 0] 63))
  by_cases hK : KsOk l
  · have hK' := hide hK
    by_cases hF : FrOk t
    · have hd := hide (decide_eq_true hF)
      rw [seen_yes hK hF]
      have hl1 := hK.1
      have hl2 := hK.2.1
      clear hK
      obtain ⟨R, hR⟩ : ∃ R, spAt l t = R := ⟨_, rfl⟩
      rw [hR]
      have hR' := hide hR
      clear hR hF
      go_enter Try.func38, Try.ntmps38
      go_wp2_with fail
      refine (iks_any a cap l true _ (unhide hl') ((unhide hk').below (unhide hb0)) ⟨fun _ => unhide hK', fun _ => rfl⟩).mono ?_
      rintro e w1 ⟨rfl, hb1⟩
      have hs1 := hide ((unhide hs0).later hb1)
      have H1 := hide (laterB (unhide hb0) hb1)
      clear hb1 hs0 hb0
      have hc1 := (unhide hs1).1
      have hP1 : w.heap.size < w1.heap.size := by have := (unhide hs1).2.2.2.2.2.2.2; omega
      go_wp2_with fail
      refine (ifr_any t true _ (unhide hd)).mono ?_
      rintro e w2 ⟨rfl, hw0⟩
      have hw1 := hw0.symm
      subst hw1
      go_wp2_with fail
      refine (idx_any a cap l t w.heap.size _ (by omega) ((unhide hk').below (unhide H1)) hP1 hc1).mono ?_
      rintro e w3 ⟨r, rfl, hix, hb3⟩
      have hs3 := hide ((unhide hs1).later hb3)
      have H3 := hide (laterB (unhide H1) hb3)
      clear hb3 hs1 H1 hc1 hP1
      obtain ⟨c0, d0, d1, d2, f0, f1, f2, hB⟩ := unhide hs3
      rcases hix with ⟨rfl, hall⟩ | ⟨k, x, rfl, hx, hle, hall⟩
      · obtain ⟨m, hm⟩ : ∃ m, l.length = m + 1 := ⟨l.length - 1, by omega⟩
        obtain ⟨b, o, s, i, rfl, hy, hbl, y0, y1⟩ := kys_at (unhide hk') (unhide H3) (show m < l.length by omega)
        have hr : R = (i, 0, 0) := by rw [← unhide hR']; exact spAt_none hm hy hall
        subst hr
        have em : IntKind.i64.wrap ((l.length : Int) - 1) = (m : Int) := by rw [IntKind.wrap_i64]; omega
        have hm2 : (m : Int) < l.length := by omega
        have hne : b ≠ w.heap.size + 1 := by omega
        have hm' := hide hm
        clear hm hy hall hbl c0
        go_wp2
        refine bodyPost_ret (v := .tuple #[.agg #[.int .i64 i, .int .i64 0, .int .i64 0], .bool true]) (by simp [results, Try.results38, go_sem, d0, d1, d2]) rfl ⟨rfl, set3_below (unhide H3) (by omega)⟩
      · obtain ⟨s, i⟩ := x
        have hkl : k < l.length := (List.getElem?_eq_some_iff.1 hx).1
        obtain ⟨b, o, s', i', rfl, hx2, hbl, y0, y1⟩ := kys_at (unhide hk') (unhide H3) hkl
        rw [hx] at hx2
        injection hx2 with hx2
        injection hx2 with e1 e2
        subst e1 e2
        simp only at hle
        by_cases hst : s = t ∨ k = 0
        · have hr : R = (i, 0, 0) := by rw [← unhide hR']; exact spAt_at (unhide hK') hx hall (by simp only; omega)
          subst hr
          have hne : b ≠ w.heap.size + 1 := by omega
          by_cases k0 : k = 0
          · have hk0 : ((k : Int) == 0) = true := by simp [k0]
            have k0' := hide k0
            clear hst hx hall hbl hle k0
            go_wp2_with fail
            go_quiet (fail)
            go_wp2
            refine bodyPost_ret (v := .tuple #[.agg #[.int .i64 i, .int .i64 0, .int .i64 0], .bool true]) (by simp [results, Try.results38, go_sem, d0, d1, d2]) rfl ⟨rfl, set3_below (below_drewN (unhide H3) _) (by omega)⟩
          · have hk0 : ((k : Int) == 0) = false := by rw [beq_eq_false_iff_ne]; omega
            have hst1 : (s == t) = true := by simp; omega
            have k0' := hide k0
            clear hst hx hall hbl hle k0
            go_wp2_with fail
            go_quiet (fail)
            go_wp2
            refine bodyPost_ret (v := .tuple #[.agg #[.int .i64 i, .int .i64 0, .int .i64 0], .bool true]) (by simp [results, Try.results38, go_sem, d0, d1, d2]) rfl ⟨rfl, set3_below (below_drewN (unhide H3) _) (by omega)⟩
        · obtain ⟨m, hm⟩ : ∃ m, k = m + 1 := ⟨k - 1, by omega⟩
          obtain ⟨b', o', s1, i1, hb', hy, hbl2, z0, z1⟩ := kys_at (unhide hk') (unhide H3) (show m < l.length by omega)
          injection hb' with hb'
          injection hb' with hb1 hb2
          subst hb1 hb2
          have hs1t : s1 < t := hall m (s1, i1) (by omega) hy
          have hts : t < s := by omega
          have hr : R = btw (s1, i1) (s, i) t := by rw [← unhide hR']; exact spAt_btw hy (by rw [← hm]; exact hx) (fun j x hj hx => hall j x (by omega) hx) hts
          have K1 := (unhide hK').at hy
          have K2 := (unhide hK').at hx
          have hk0 : ((k : Int) == 0) = false := by rw [beq_eq_false_iff_ne]; omega
          have hst1 : (s == t) = false := by rw [beq_eq_false_iff_ne]; omega
          have em : IntKind.i64.wrap ((k : Int) - 1) = (m : Int) := by rw [IntKind.wrap_i64]; omega
          have hm2 : (m : Int) < l.length := by omega
          have hkn : decide ((k : Int) < 0) = false := decide_eq_false (by omega)
          have hall' := hide (show SnS w b (o + m * 2) (o + k * 2) w.heap.size s1 i1 s i t w3 from ⟨z0, z1, y0, y1, c0, unhide H3⟩)
          have hm' := hide hm
          have hbl' := hide hbl
          have hr' := hide hr.symm
          have hhts := hide (And.intro hs1t hts)
          clear hst hx hall hbl hle hbl2 hy hm hr hs1t hts
          go_wp2_with fail
          go_quiet (fail)
          have hb4 : Below w3.heap.size w3 (w3.drewN nq) := below_drewN (Below.refl _ _) _
          have hall2 := hide ((unhide hall').later hb4)
          have hs4 := hide ((unhide hs3).later hb4)
          generalize w3.drewN nq = w4 at *
          clear hall' hs3 H3 y0 y1 z0 z1 c0 d0 d1 d2 f0 f1 f2 hB hb4
          have hs5 := hide ((unhide hs4).later (Below.refl w4.heap.size w4).drew)
          clear hs4
          go_wp2_with fail
          go_region_held3 (fun W => W.cell? ⟨b, o + m * 2, none⟩ = some (.int .i64 s1) ∧ W.cell? ⟨b, o + m * 2 + 1, none⟩ = some (.int .i64 i1) ∧ W.cell? ⟨b, o + k * 2, none⟩ = some (.int .i64 s) ∧ W.cell? ⟨b, o + k * 2 + 1, none⟩ = some (.int .i64 i) ∧ W.cell? ⟨w.heap.size, 0, none⟩ = some (.int .i64 t) ∧ Below w.heap.size w W)
            (first | (refine SnS.later (w := w) (b := b) (o1 := o + m * 2) (o2 := o + k * 2) (B := w.heap.size) (s1 := s1) (i1 := i1) (s2 := s) (i2 := i) (t := t) ?_ hb; assumption) | (exact (unhide hall2).later (Below.refl _ _).drew) | (refine SnS.set (w := w) (b := b) (o1 := o + m * 2) (o2 := o + k * 2) (B := w.heap.size) (s1 := s1) (i1 := i1) (s2 := s) (i2 := i) (t := t) ?_ (unhide hbl') (Nat.le_refl _); assumption))
            ((go_at_call 61; refine (ibtw_any s1 i1 s i t R _ K1 K2 (unhide hhts).1 (unhide hhts).2 (unhide hr')).mono ?_; rintro e w5 ⟨rfl, hb⟩; obtain ⟨c0, d0, d1, d2, f0, f1, f2, hB⟩ := (unhide hs5).later hb))
          rename_i hH
          have hBl := hide hH.2.2.2.2.2
          clear hH
          go_wp2
          exact bodyPost_ret (v := .tuple #[.agg #[.int .i64 R.1, .int .i64 R.2.1, .int .i64 R.2.2], .bool true]) (by simp [results, Try.results38, go_sem, d0, d1, d2]) rfl ⟨rfl, unhide hBl⟩
    · have hd := hide (decide_eq_false hF)
      rw [seen_no (fun h => hF h.2)]
      clear hK hF
      go_enter Try.func38, Try.ntmps38
      go_wp2_with fail
      refine (iks_any a cap l true _ (unhide hl') ((unhide hk').below (unhide hb0)) ⟨fun _ => unhide hK', fun _ => rfl⟩).mono ?_
      rintro e w1 ⟨rfl, hb1⟩
      have hs1 := hide ((unhide hs0).later hb1)
      have H1 := hide (laterB (unhide hb0) hb1)
      clear hb1 hs0 hb0
      obtain ⟨c0, d0, d1, d2, f0, f1, f2, hB⟩ := unhide hs1
      go_wp2_with fail
      refine (ifr_any t false _ (unhide hd)).mono ?_
      rintro e w2 ⟨rfl, hw0⟩
      have hw1 := hw0.symm
      subst hw1
      go_wp2
      refine bodyPost_ret (v := .tuple #[.agg #[.int .i64 0, .int .i64 0, .int .i64 0], .bool false]) (by simp [results, Try.results38, go_sem, d0, d1, d2]) rfl ⟨rfl, set3_below (unhide H1) (by omega)⟩
  · rw [seen_no (fun h => hK h.1)]
    have hK' := hide hK
    clear hK
    go_enter Try.func38, Try.ntmps38
    go_wp2_with fail
    refine (iks_any a cap l false _ (unhide hl') ((unhide hk').below (unhide hb0)) ⟨(fun h => by cases h), fun h => absurd h (unhide hK')⟩).mono ?_
    rintro e w1 ⟨rfl, hb1⟩
    have hs1 := hide ((unhide hs0).later hb1)
    have H1 := hide (laterB (unhide hb0) hb1)
    clear hb1 hs0 hb0
    obtain ⟨c0, d0, d1, d2, f0, f1, f2, hB⟩ := unhide hs1
    go_wp2
    refine bodyPost_ret (v := .tuple #[.agg #[.int .i64 0, .int .i64 0, .int .i64 0], .bool false]) (by simp [results, Try.results38, go_sem, d0, d1, d2]) rfl ⟨rfl, set3_below (unhide H1) (by omega)⟩
end Go.Proofs.Ytbmkbhondlecaaa.Y
