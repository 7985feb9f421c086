/-
  What can't be read of titles: the contract of the model; nothing that was there is written.
-/
import Derived.Test.YtcpllfjhhlbmiaaDoorUnW
import Derived.Deep.CutRange
import Derived.Deep.CutBlock
namespace Go.Proofs.YtcpllfjhhlbmiaaDoor
open Go.RowKit
set_option linter.unusedVariables false
set_option linter.unusedSimpArgs false

set_option maxRecDepth 100000 in
set_option maxHeartbeats 6400000 in
theorem sunr_any (a : Option Addr) (cap : Nat) (l : List Kl) (s : Sy) (R : List V.Kl) (w : World) (hl : l.length ≤ 1048576) (hr : Kls w a l) (hsz : ∀ x ∈ l, x.2.2.size ≤ 1048576) (hR : unr s l = R) :
    Calls Tryd.prog 16 #[.slice a l.length cap, ag5 s] w fun e w' => ∃ g c, e = .returned (.slice (some ⟨g, 0, none⟩) R.length c) ∧ w.heap.size ≤ g ∧ V.Own w' w.heap.size g R.length c R ∧ Below w.heap.size w w' := by
  obtain ⟨a1, a2, a3, a4, a5⟩ := s
  have kA : Below w.heap.size w ((w.alloc (.cells #[.int .i64 a1, .int .i64 a2, .int .i64 a3, .int .i64 a4, .int .i64 a5] 36)).alloc (.cells #[] 42)) := ((Below.refl _ _).alloc (Nat.le_refl _) _).alloc (by simp) _
  have oA : V.Own ((w.alloc (.cells #[.int .i64 a1, .int .i64 a2, .int .i64 a3, .int .i64 a4, .int .i64 a5] 36)).alloc (.cells #[] 42)) (w.heap.size + 1) (w.heap.size + 1) 0 0 [] := by
    have := V.own_lit0 (w.alloc (.cells #[.int .i64 a1, .int .i64 a2, .int .i64 a3, .int .i64 a4, .int .i64 a5] 36)) (Nat.le_refl _)
    rw [sz_alloc] at this; exact this
  have yA : ((w.alloc (.cells #[.int .i64 a1, .int .i64 a2, .int .i64 a3, .int .i64 a4, .int .i64 a5] 36)).alloc (.cells #[] 42)).heap[w.heap.size]? = some (.cells #[.int .i64 a1, .int .i64 a2, .int .i64 a3, .int .i64 a4, .int .i64 a5] 36 (0, 0)) := blk_below (alloc_new w _) ((Below.refl _ _).alloc (Nat.le_refl _) _)
  have hr' := hide hr
  have hsz' := hide hsz
  obtain ⟨v, hv⟩ : ∃ v, tOk l = v := ⟨_, rfl⟩
  have cT := hide (sok_any a cap l v _ hl (hr.below kA) hsz hv)
  have kA' := hide kA
  have oA' := hide oA
  have yA' := hide yA
  clear hr hsz kA oA yA
  cases v
  · have hR2 : R = [] := by unfold unr at hR; rw [hv] at hR; simpa using hR.symm
    subst hR2
    clear hR hv
    go_enter Tryd.func16, Tryd.ntmps16
    go_wp2_with fail
    refine (unhide cT).mono ?_
    rintro e w1 ⟨rfl, k1⟩
    have o1 := hide (own_mono (ownsRow_below (unhide oA') k1) (show w.heap.size ≤ w.heap.size + 1 by omega))
    have b1 := hide (laterB (unhide kA') k1)
    clear k1 cT
    go_wp2
    go_ret
    exact ⟨_, _, rfl, by omega, unhide o1, unhide b1⟩
  obtain ⟨u, hu⟩ : ∃ u, syOk (a1, a2, a3, a4, a5) = u := ⟨_, rfl⟩
  have cY := hide (fun w => style_any (a1, a2, a3, a4, a5) u w hu)
  cases u
  · have hR2 : R = [] := by unfold unr at hR; rw [hv, if_pos rfl, hu] at hR; simpa using hR.symm
    subst hR2
    clear hR hv hu
    go_enter Tryd.func16, Tryd.ntmps16
    go_wp2_with fail
    refine (unhide cT).mono ?_
    rintro e w1 ⟨rfl, k1⟩
    have o1 := hide (ownsRow_below (unhide oA') k1)
    have b1 := hide (laterB (unhide kA') k1)
    obtain ⟨c0, c1, c2, c3, c4⟩ := blk5 (blk_below (unhide yA') k1)
    clear k1 cT oA' kA'
    go_wp2_with fail
    refine (unhide cY _).mono ?_
    rintro e w2 ⟨rfl, k2⟩
    have o2 := hide (own_mono (ownsRow_below (unhide o1) k2) (show w.heap.size ≤ w.heap.size + 1 by omega))
    have b2 := hide (laterB (unhide b1) k2)
    clear k2 cY o1 b1
    go_wp2
    go_ret
    exact ⟨_, _, rfl, by omega, unhide o2, unhide b2⟩
  have hR' := hide (show unl (a1, a2, a3, a4, a5) l l.length = R by unfold unr at hR; rw [hv, if_pos rfl, hu, if_pos rfl] at hR; exact hR)
  obtain ⟨hl2, hbd⟩ := t_bd hv
  have hbd' := hide hbd
  have hyb := sy_bd hu
  clear hR hv hu hbd
  go_enter Tryd.func16, Tryd.ntmps16
  go_wp2_with fail
  refine (unhide cT).mono ?_
  rintro e w1 ⟨rfl, k1⟩
  have o1 := hide (ownsRow_below (unhide oA') k1)
  have b1 := hide (laterB (unhide kA') k1)
  have y1 := hide (blk_below (unhide yA') k1)
  obtain ⟨c0, c1, c2, c3, c4⟩ := blk5 (unhide y1)
  clear k1 cT oA' kA' yA'
  go_wp2_with fail
  refine (unhide cY _).mono ?_
  rintro e w2 ⟨rfl, k2⟩
  have o2 := hide (ownsRow_below (unhide o1) k2)
  have b2 := hide (laterB (unhide b1) k2)
  have y2 := hide (blk_below (unhide y1) k2)
  clear k2 cY o1 b1 y1 c0 c1 c2 c3 c4
  go_wp2
  go_loopw [5, 6] (fun o t wr => ∃ (k g n c : Nat), k ≤ l.length ∧ t = .int .i64 k ∧ o = .slice (some ⟨g, 0, none⟩) n c ∧ n ≤ 6 * k ∧ Hid (V.Own wr (w.heap.size + 1) g n c (unl (a1, a2, a3, a4, a5) l k)) ∧ Hid (Below w.heap.size w wr) ∧ Hid (wr.heap[w.heap.size]? = some (.cells #[.int .i64 a1, .int .i64 a2, .int .i64 a3, .int .i64 a4, .int .i64 a5] 36 (0, 0)))) (fun _ t _ => l.length - (intOf t).toNat)
  case atStart => exact ⟨0, _, 0, _, by omega, rfl, rfl, by omega, o2, b2, y2⟩
  case round =>
    clear o2 b2 y2
    obtain ⟨k, g, n, c, hk, rfl, rfl, hn6, ho, hb, hy⟩ := hrel
    have hs0 := (unhide hb).size
    have hgl := own_lt (unhide ho)
    have hyl := lt_blk (unhide hy)
    by_cases hlt : k < l.length
    · obtain ⟨x, hx⟩ : ∃ x, l[k]? = some x := ⟨l[k], List.getElem?_eq_getElem hlt⟩
      obtain ⟨b, o, rfl, i1, c0, c1, c2⟩ := ((unhide hr').below (unhide hb)) k x hx
      obtain ⟨x0, x1, x2⟩ := unhide hbd' x (List.mem_of_getElem? hx)
      have hxs := unhide hsz' x (List.mem_of_getElem? hx)
      have hstep := hide (unl_step (s := (a1, a2, a3, a4, a5)) hx)
      have hprev : Hid (0 < k → ∃ p : Kl, l[k - 1]? = some p ∧ pTo l k = p.2.1) := hide (fun h => ⟨l[k - 1]'(by omega), List.getElem?_eq_getElem (by omega), by unfold pTo; rw [List.getElem?_eq_getElem (by omega)]⟩)
      obtain ⟨x, y, s⟩ := x
      simp only at c0 c1 c2 x0 x1 x2 hxs
      obtain ⟨L, hL⟩ : ∃ L, s.data.toList = L := ⟨_, rfl⟩
      obtain ⟨F, hF⟩ : ∃ F, tf (a1, a2, a3, a4, a5) k (pTo l k) (x, y, s) = F := ⟨_, rfl⟩
      have hLs := hide (show s.size = L.length by rw [Lib.size_eq, hL])
      have hL' := hide hL
      have f0 : F 0 = false := by rw [← hF]; rfl
      have f1 : decide (y - x < a1) = F 1 := by rw [← hF]; rfl
      have f2 : (decide (0 < k) && decide (x - pTo l k < a2)) = F 2 := by rw [← hF]; rfl
      have f3 : decide (a3 * (y - x) < (sms (linesL L) : Int) * 1000) = F 3 := by rw [← hF, ← hL]; rfl
      have f4 : decide (a4 < ((linesL L).length : Int)) = F 4 := by rw [← hF, ← hL]; rfl
      have f5 : decide (a5 < (mxs (linesL L) : Int)) = F 5 := by rw [← hF, ← hL]; rfl
      rw [hF] at hstep
      obtain ⟨e1, e2, e3⟩ := stU_end L
      rw [← e1] at f3
      rw [← e2] at f4
      rw [← e3] at f5
      obtain ⟨B1, B2, B3, B4⟩ := stU_bd L
      have hml : (stU L).1 ≤ 1048576 := by have := unhide hLs; omega
      generalize pTo l k = pv at *
      have hf0 := hide f0
      have hf1 := hide f1
      have hf2 := hide f2
      have hf3 := hide f3
      have hf4 := hide f4
      have hf5 := hide f5
      have tD : IntKind.i64.wrap (y - x) = y - x := by rw [IntKind.wrap_i64]; omega
      have hP0 : 0 ≤ a3 * (y - x) := Int.mul_nonneg (by omega) (by omega)
      have hP1 : a3 * (y - x) ≤ 359999999 * 359999999 := Int.mul_le_mul (by omega) (by omega) (by omega) (by omega)
      have tP : IntKind.i64.wrap (a3 * (y - x)) = a3 * (y - x) := by rw [IntKind.wrap_i64]; omega
      clear hx hF hL f0 f1 f2 f3 f4 f5 e1 e2 e3
      generalize hPk : unl (a1, a2, a3, a4, a5) l k = P at *
      clear hPk
      have U0 : Hid (UW w a1 a2 a3 a4 a5 wr.heap.size x y s g n c (P ++ wup k F 1) (wr.alloc (.cells #[.int .i64 x, .int .i64 y, .string s] 32))) := hide (by
        rw [wup_no (unhide hf0), wup, List.append_nil]
        exact ⟨(unhide ho).alloc _, (unhide hb).alloc hs0 _, blk_below (unhide hy) ((Below.refl _ _).alloc (Nat.le_refl _) _), alloc_new _ _, by omega⟩)
      clear ho hb hy
      go_wp2_with fail
      generalize wr.alloc (.cells #[.int .i64 x, .int .i64 y, .string s] 32) = X at *
      have hqg : wr.heap.size ≠ g := (unhide U0).ne
      generalize wr.heap.size = q at *
      clear c0 c1 c2
      obtain ⟨t0, t1, t2⟩ := blk3 (unhide U0).ttl
      go_loopw [10, 11, 12, 13, 14] (fun u10 u11 u12 u13 t wx => ∃ j : Nat, j ≤ s.size ∧ t = .int .i64 j ∧ u10 = .int .i64 (stU (L.take j)).1 ∧ u11 = .int .i64 (stU (L.take j)).2.1 ∧ u12 = .int .i64 (stU (L.take j)).2.2.1 ∧ u13 = .int .i64 (stU (L.take j)).2.2.2 ∧ wx = X) (fun _ _ _ _ t _ => s.size - (intOf t).toNat)
      case atStart => exact ⟨0, by omega, rfl, rfl, rfl, rfl, rfl, rfl⟩
      case round =>
        obtain ⟨j, hj, rfl, rfl, rfl, rfl, rfl, hwx⟩ := hrel
        subst hwx
        by_cases hjl : j < s.size
        · have hlt2 : decide ((j : Int) < (s.size : Int)) = true := decide_eq_true (by omega)
          obtain ⟨d, hd⟩ : ∃ d, L[j]? = some d := ⟨L[j]'(by have := unhide hLs; omega), List.getElem?_eq_getElem (by have := unhide hLs; omega)⟩
          have hidx := fun w => idx_str (unhide hL') hd w
          have hone := hide (stU_one hd)
          obtain ⟨C1, C2, C3, C4⟩ := stU_bd (L.take j)
          have hjj : (L.take j).length ≤ 1048576 := by have := unhide hLs; simp; omega
          generalize stU (L.take j) = st at *
          obtain ⟨s1, s2, s3, s4⟩ := st
          simp only at C1 C2 C3 C4
          clear hd
          by_cases e10 : d = 10
          · have q1 : (((d.toNat : Nat) : Int) == 10) = true := by rw [e10]; rfl
            have hnx := hide (show stU (L.take (j + 1)) = (s1, s2 + 1, 0, s4) by rw [unhide hone]; unfold stepU; rw [if_pos e10])
            clear hone e10
            go_wp2
            go_roundw
            case rel => exact ⟨j + 1, by omega, by go_num, by rw [unhide hnx], by rw [unhide hnx]; go_num, by rw [unhide hnx]; rfl, by rw [unhide hnx], by first | rfl | trivial⟩
            case measure => simp [intOf]; omega
          have q1 := nat10 e10
          by_cases hS : isS d = true
          · have hnx := hide (show stU (L.take (j + 1)) = (s1 + 1, s2, s3 + 1, max s4 (s3 + 1)) by rw [unhide hone]; unfold stepU; rw [if_neg e10, if_pos hS])
            have hmx : max (s4 : Int) ((s3 : Int) + 1) = ((max s4 (s3 + 1) : Nat) : Int) := by omega
            have cm := hide (fun w => max_any (s4 : Int) ((s3 : Int) + 1) w)
            rw [hmx] at cm
            by_cases h128 : d.toNat < 128
            · have q2 : decide (((d.toNat : Nat) : Int) < 128) = true := decide_eq_true (by omega)
              clear hone e10 hS hmx
              go_wp2_with fail
              refine (unhide cm _).mono ?_
              rintro e w5 ⟨rfl, rfl⟩
              go_wp2
              go_roundw
              case rel => exact ⟨j + 1, by omega, by go_num, by rw [unhide hnx]; go_num, by rw [unhide hnx], by rw [unhide hnx]; go_num, by rw [unhide hnx], by first | rfl | trivial⟩
              case measure => simp [intOf]; omega
            · have q2 : decide (((d.toNat : Nat) : Int) < 128) = false := decide_eq_false (by omega)
              have q3 : decide ((191 : Int) < ((d.toNat : Nat) : Int)) = true := by
                unfold isS at hS; rw [decide_eq_false h128] at hS; simp at hS; exact decide_eq_true (by omega)
              clear hone e10 hS hmx
              go_wp2_with fail
              refine (unhide cm _).mono ?_
              rintro e w5 ⟨rfl, rfl⟩
              go_wp2
              go_roundw
              case rel => exact ⟨j + 1, by omega, by go_num, by rw [unhide hnx]; go_num, by rw [unhide hnx], by rw [unhide hnx]; go_num, by rw [unhide hnx], by first | rfl | trivial⟩
              case measure => simp [intOf]; omega
          · have hnx := hide (show stU (L.take (j + 1)) = (s1, s2, s3, s4) by rw [unhide hone]; unfold stepU; rw [if_neg e10, if_neg hS])
            have q2 : decide (((d.toNat : Nat) : Int) < 128) = false := decide_eq_false (by intro h; exact hS (by unfold isS; rw [decide_eq_true (by omega)]; rfl))
            have q3 : decide ((191 : Int) < ((d.toNat : Nat) : Int)) = false := decide_eq_false (by intro h; exact hS (by unfold isS; rw [decide_eq_true (p := 191 < d.toNat) (by omega)]; simp))
            clear hone e10 hS
            go_wp2
            go_roundw
            case rel => exact ⟨j + 1, by omega, by go_num, by rw [unhide hnx], by rw [unhide hnx], by rw [unhide hnx], by rw [unhide hnx], by first | rfl | trivial⟩
            case measure => simp [intOf]; omega
        · have hlt2 : decide ((j : Int) < (s.size : Int)) = false := decide_eq_false (by omega)
          have htk : L.take j = L := List.take_of_length_le (by have := unhide hLs; omega)
          rw [htk]
          clear htk
          have tM : IntKind.i64.wrap (((stU L).1 : Int) * 1000) = (stU L).1 * 1000 := by rw [IntKind.wrap_i64]; omega
          generalize stU L = st at *
          obtain ⟨s1, s2, s3, s4⟩ := st
          simp only at tM hml B1 B2 B3 B4 hf3 hf4 hf5
          have hUx := hide (unhide U0)
          clear t0 t1 t2
          obtain ⟨y0, y1, y2, y3, y4⟩ := blk5 (unhide U0).sty
          obtain ⟨t0, t1, t2⟩ := blk3 (unhide U0).ttl
          have zz1 : w.heap.size + 1 ≤ wr.heap.size := by have := own_lt (unhide U0).own; have := own_ge (unhide U0).own; omega
          have fj := unhide hf1
          go_upto_if 73 with fail
          clear fj
          go_cut [5] from 26 to 129 (fun o wx => ∃ g n c, o = .slice (some ⟨g, 0, none⟩) n c ∧ n ≤ 6 * k + 1 ∧ Hid (UW w a1 a2 a3 a4 a5 q x y s g n c (P ++ wup k F 2) wx))
          case first =>
            cases hc : F 1
            · have hc' := hide hc
              have gj : decide (y - x < a1) = false := (unhide hf1).trans hc
              clear hc
              go_wp2_with fail
              go_meet
              exact ⟨g, n, c, rfl, by omega, hide (by rw [wup_no (unhide hc')]; exact unhide U0)⟩
            · have hc' := hide hc
              have gj : decide (y - x < a1) = true := (unhide hf1).trans hc
              clear hc
              go_wp2_with (at_builtin; refine V.wpList_g _ rfl _ _ rfl (w.heap.size + 1) g n c (P ++ wup k F 1) ((k : Int), (1 : Int)) rfl ((unhide U0).own.alloc _) wr.heap.size rfl (alloc_new _ _) (by omega) (by simp; omega) ?_)
              intro g' c' w' ho' hg' hl'
              have U' := hide ((unhide U0).app ho' hg' hl')
              clear ho' hg' hl'
              go_wp2_with fail
              go_meet
              exact ⟨g', n + 1, c', rfl, by omega, hide (by rw [wup_yes (unhide hc')]; first | exact unhide U' | (rw [← List.append_assoc]; exact unhide U'))⟩
          case rest =>
            obtain ⟨g1, n1, c1, rfl, hn1, U1⟩ := hcut
            clear U0 y0 y1 y2 y3 y4 t0 t1 t2
            obtain ⟨y0, y1, y2, y3, y4⟩ := blk5 (unhide U1).sty
            obtain ⟨t0, t1, t2⟩ := blk3 (unhide U1).ttl
            have zz2 : w.heap.size + 1 ≤ wc.heap.size := by have := own_lt (unhide U1).own; have := own_ge (unhide U1).own; omega
            go_upto_region 27 with fail
            go_cut [94] from 26 to 129 (fun t wx => t = .bool (F 2) ∧ Hid (UW w a1 a2 a3 a4 a5 q x y s g1 n1 c1 (P ++ wup k F 2) wx))
            case first =>
              by_cases hk0 : 0 < k
              · obtain ⟨p, hp, hpv⟩ := unhide hprev hk0
                obtain ⟨b', o', hbo, i2, d0, d1, d2⟩ := ((unhide hr').below (unhide U1).bel) (k - 1) p hp
                injection hbo with hbo
                injection hbo with hb1 ho1 _
                subst hb1 ho1
                have hpb := unhide hbd' p (List.mem_of_getElem? hp)
                have g6 : decide ((0 : Int) < (k : Int)) = true := decide_eq_true (by omega)
                have g6n : decide (0 < k) = true := decide_eq_true hk0
                have hk1 : ((k : Int) - 1) = ((k - 1 : Nat) : Int) := by omega
                generalize p.2.1 = z at *
                have tw : IntKind.i64.wrap (x - z) = x - z := by rw [IntKind.wrap_i64]; omega
                have hf2' := unhide hf2
                rw [g6n, hpv] at hf2'
                clear hp d0 d2 hpv
                by_cases h7 : x - z < a2
                · have g7 : decide (x - z < a2) = true := decide_eq_true h7
                  rw [g7] at hf2'
                  have hF2 := hide (show (true : Bool) = F 2 by rw [← hf2']; rfl)
                  clear hf2'
                  go_quiet (fail)
                  go_wp2_with fail
                  go_meet
                  exact ⟨by rw [← unhide hF2], hide ((unhide U1).draw _)⟩
                · have g7 : decide (x - z < a2) = false := decide_eq_false h7
                  rw [g7] at hf2'
                  have hF2 := hide (show (false : Bool) = F 2 by rw [← hf2']; rfl)
                  clear hf2'
                  go_quiet (fail)
                  go_wp2_with fail
                  go_meet
                  exact ⟨by rw [← unhide hF2], hide ((unhide U1).draw _)⟩
              · have g6 : decide ((0 : Int) < (k : Int)) = false := decide_eq_false (by omega)
                have g6n : decide (0 < k) = false := decide_eq_false hk0
                have hF2 := hide (show false = F 2 by rw [← unhide hf2, g6n]; rfl)
                go_quiet (fail)
                go_wp2_with fail
                go_meet
                exact ⟨by rw [← unhide hF2], hide ((unhide U1).draw _)⟩
            case rest =>
              obtain ⟨rfl, U1b⟩ := hcut
              clear y0 y1 y2 y3 y4 t0 t1 t2
              clear U1
              have zz2b : w.heap.size + 1 ≤ wc.heap.size := by have := own_lt (unhide U1b).own; have := own_ge (unhide U1b).own; omega
              go_upto_if 94 with fail
              go_cut [5] from 26 to 129 (fun o wx => ∃ g n c, o = .slice (some ⟨g, 0, none⟩) n c ∧ n ≤ 6 * k + 2 ∧ Hid (UW w a1 a2 a3 a4 a5 q x y s g n c (P ++ wup k F 3) wx))
              case first =>
                cases hc : F 2
                · have hc' := hide hc
                  clear hc
                  go_wp2_with fail
                  go_meet
                  exact ⟨g1, n1, c1, rfl, by omega, hide (by rw [wup_no (unhide hc')]; exact unhide U1b)⟩
                · have hc' := hide hc
                  clear hc
                  go_wp2_with (at_builtin; refine V.wpList_g _ rfl _ _ rfl (w.heap.size + 1) g1 n1 c1 (P ++ wup k F 2) ((k : Int), (2 : Int)) rfl ((unhide U1b).own.alloc _) wc.heap.size rfl (alloc_new _ _) (by omega) (by simp; omega) ?_)
                  intro g' c' w' ho' hg' hl'
                  have U' := hide ((unhide U1b).app ho' hg' hl')
                  clear ho' hg' hl'
                  go_wp2_with fail
                  go_meet
                  exact ⟨g', n1 + 1, c', rfl, by omega, hide (by rw [wup_yes (unhide hc')]; first | exact unhide U' | (rw [← List.append_assoc]; exact unhide U'))⟩
              case rest =>
                obtain ⟨g2, n2, c2, rfl, hn2, U2⟩ := hcut
                clear U1b
                obtain ⟨y0, y1, y2, y3, y4⟩ := blk5 (unhide U2).sty
                obtain ⟨t0, t1, t2⟩ := blk3 (unhide U2).ttl
                have zz3 : w.heap.size + 1 ≤ wc.heap.size := by have := own_lt (unhide U2).own; have := own_ge (unhide U2).own; omega
                have fj := unhide hf3
                go_upto_if 106 with fail
                clear fj
                go_cut [5] from 26 to 129 (fun o wx => ∃ g n c, o = .slice (some ⟨g, 0, none⟩) n c ∧ n ≤ 6 * k + 3 ∧ Hid (UW w a1 a2 a3 a4 a5 q x y s g n c (P ++ wup k F 4) wx))
                case first =>
                  cases hc : F 3
                  · have hc' := hide hc
                    have gj : decide (a3 * (y - x) < (s1 : Int) * 1000) = false := (unhide hf3).trans hc
                    clear hc
                    go_wp2_with fail
                    go_meet
                    exact ⟨g2, n2, c2, rfl, by omega, hide (by rw [wup_no (unhide hc')]; exact unhide U2)⟩
                  · have hc' := hide hc
                    have gj : decide (a3 * (y - x) < (s1 : Int) * 1000) = true := (unhide hf3).trans hc
                    clear hc
                    go_wp2_with (at_builtin; refine V.wpList_g _ rfl _ _ rfl (w.heap.size + 1) g2 n2 c2 (P ++ wup k F 3) ((k : Int), (3 : Int)) rfl ((unhide U2).own.alloc _) wc.heap.size rfl (alloc_new _ _) (by omega) (by simp; omega) ?_)
                    intro g' c' w' ho' hg' hl'
                    have U' := hide ((unhide U2).app ho' hg' hl')
                    clear ho' hg' hl'
                    go_wp2_with fail
                    go_meet
                    exact ⟨g', n2 + 1, c', rfl, by omega, hide (by rw [wup_yes (unhide hc')]; first | exact unhide U' | (rw [← List.append_assoc]; exact unhide U'))⟩
                case rest =>
                  obtain ⟨g3, n3, c3, rfl, hn3, U3⟩ := hcut
                  clear U2 y0 y1 y2 y3 y4 t0 t1 t2
                  obtain ⟨y0, y1, y2, y3, y4⟩ := blk5 (unhide U3).sty
                  obtain ⟨t0, t1, t2⟩ := blk3 (unhide U3).ttl
                  have zz4 : w.heap.size + 1 ≤ wc.heap.size := by have := own_lt (unhide U3).own; have := own_ge (unhide U3).own; omega
                  have fj := unhide hf4
                  go_upto_if 115 with fail
                  clear fj
                  go_cut [5] from 26 to 129 (fun o wx => ∃ g n c, o = .slice (some ⟨g, 0, none⟩) n c ∧ n ≤ 6 * k + 4 ∧ Hid (UW w a1 a2 a3 a4 a5 q x y s g n c (P ++ wup k F 5) wx))
                  case first =>
                    cases hc : F 4
                    · have hc' := hide hc
                      have gj : decide (a4 < (s2 : Int)) = false := (unhide hf4).trans hc
                      clear hc
                      go_wp2_with fail
                      go_meet
                      exact ⟨g3, n3, c3, rfl, by omega, hide (by rw [wup_no (unhide hc')]; exact unhide U3)⟩
                    · have hc' := hide hc
                      have gj : decide (a4 < (s2 : Int)) = true := (unhide hf4).trans hc
                      clear hc
                      go_wp2_with (at_builtin; refine V.wpList_g _ rfl _ _ rfl (w.heap.size + 1) g3 n3 c3 (P ++ wup k F 4) ((k : Int), (4 : Int)) rfl ((unhide U3).own.alloc _) wc.heap.size rfl (alloc_new _ _) (by omega) (by simp; omega) ?_)
                      intro g' c' w' ho' hg' hl'
                      have U' := hide ((unhide U3).app ho' hg' hl')
                      clear ho' hg' hl'
                      go_wp2_with fail
                      go_meet
                      exact ⟨g', n3 + 1, c', rfl, by omega, hide (by rw [wup_yes (unhide hc')]; first | exact unhide U' | (rw [← List.append_assoc]; exact unhide U'))⟩
                  case rest =>
                    obtain ⟨g4, n4, c4, rfl, hn4, U4⟩ := hcut
                    clear U3 y0 y1 y2 y3 y4 t0 t1 t2
                    obtain ⟨y0, y1, y2, y3, y4⟩ := blk5 (unhide U4).sty
                    obtain ⟨t0, t1, t2⟩ := blk3 (unhide U4).ttl
                    have zz5 : w.heap.size + 1 ≤ wc.heap.size := by have := own_lt (unhide U4).own; have := own_ge (unhide U4).own; omega
                    have fj := unhide hf5
                    go_upto_if 124 with fail
                    clear fj
                    cases hc : F 5
                    · have U6 := hide (show UW w a1 a2 a3 a4 a5 q x y s g4 n4 c4 (P ++ wup k F 6) wc by rw [wup_no hc]; exact unhide U4)
                      clear hc U4
                      have oF := hide (show V.Own wc (w.heap.size + 1) g4 (n4) c4 (unl (a1, a2, a3, a4, a5) l (k + 1)) by rw [unhide hstep]; exact (unhide U6).own)
                      have bF := hide (unhide U6).bel
                      have yF := hide (unhide U6).sty
                      clear U6
                      go_wp2
                      go_roundw
                      case rel => exact ⟨k + 1, g4, n4, c4, by omega, by go_num, rfl, by omega, oF, bF, yF⟩
                      case measure => simp [intOf]; omega
                    · have hc' := hide hc
                      clear hc
                      go_wp2_with (at_builtin; refine V.wpList_g _ rfl _ _ rfl (w.heap.size + 1) g4 n4 c4 (P ++ wup k F 5) ((k : Int), (5 : Int)) rfl ((unhide U4).own.alloc _) wc.heap.size rfl (alloc_new _ _) (by omega) (by simp; omega) ?_)
                      intro g' c' w' ho' hg' hl'
                      have U' := hide ((unhide U4).app ho' hg' hl')
                      clear ho' hg' hl' U4
                      have U6 := hide (show UW w a1 a2 a3 a4 a5 q x y s g' (n4 + 1) c' (P ++ wup k F 6) w' by rw [wup_yes (unhide hc')]; first | exact unhide U' | (rw [← List.append_assoc]; exact unhide U'))
                      clear U'
                      have oF := hide (show V.Own w' (w.heap.size + 1) g' (n4 + 1) c' (unl (a1, a2, a3, a4, a5) l (k + 1)) by rw [unhide hstep]; exact (unhide U6).own)
                      have bF := hide (unhide U6).bel
                      have yF := hide (unhide U6).sty
                      clear U6
                      go_wp2
                      go_roundw
                      case rel => exact ⟨k + 1, g', n4 + 1, c', by omega, by go_num, rfl, by omega, oF, bF, yF⟩
                      case measure => simp [intOf]; omega
    · have hke : k = l.length := by omega
      have ho2 := hide (show V.Own wr w.heap.size g R.length c R by
        have h1 := unhide ho
        rw [hke, unhide hR'] at h1
        have h2 := V.own_len h1
        rw [h2]
        exact own_mono h1 (by omega))
      have hnR : n = R.length := by
        have h1 := unhide ho
        rw [hke, unhide hR'] at h1
        exact (V.own_len h1).symm
      subst hnR
      clear ho hke
      go_wp2
      go_ret
      exact ⟨_, _, rfl, by have := own_ge (unhide ho2); omega, unhide ho2, unhide hb⟩

end Go.Proofs.YtcpllfjhhlbmiaaDoor
