/-
  Contract of the program's sums of turned numbers: a new list of them; nothing that was there is written.
-/
import Derived.Test.YtmhciigjjamjkaaWvT
import Derived.Outline
import Derived.Deep.CutRange
import Derived.Deep.CutBlock
namespace Go.Proofs.Ytmhciigjjamjkaa
open Go.RowKit
set_option linter.unusedVariables false
set_option linter.unusedSimpArgs false

set_option maxHeartbeats 3200000 in
theorem tsumB1 (a : Option Addr) (ca : Nat) (l : List (Nat × Nat)) (w : World) (hl : l.length = 1) (ha : Cxs false 0 w.heap.size w a l) :
    Calls Try.prog 8 #[.slice a l.length ca, .int .i64 7] w fun e w' => ∃ L, e = .returned (.slice (some ⟨w.heap.size, 0, none⟩) L.length L.length) ∧ w'.ownsRow w.heap.size 28 2 (.slice (some ⟨w.heap.size, 0, none⟩) L.length L.length) L.length (flC L) ∧ TsL true l l.length L ∧ Below w.heap.size w w' := by
  have ha' := hide ha
  clear ha
  have hn1 : 1 ≤ l.length := by omega
  have hn2 : l.length ≤ 8 := by omega
  have m1 : ((l.length : Int) != 1) = false := by simp; omega
  have hq : (8 : Int) / l.length = 8 := by rw [hl]; rfl
  have hl' := hide hl
  clear hl
  obtain ⟨i0, hi, hz0, hz1, hz2⟩ := info_parts info25
  go_enter Try.func8, Try.ntmps8
  go_wp2_with (refine wpList_make_full _ rfl _ _ 25 rfl w.heap.size 28 i0 _ 2 Try.underlying25 hi hz0 hz1 .i64 .i64 _ _ l.length rfl rfl rfl rfl ?b2 ?b3 (Nat.le_refl _) ?_)
  case b2 => rw [hz2]; omega
  case b3 => unfold maxLen; omega
  intro w1 hown hg
  have hb1 := hide (show Below w.heap.size w w1 from (Below.refl _ _).grown hg (Nat.le_refl _) (fun k hk => by cases hk))
  have hown1 : Hid (w1.ownsRow w.heap.size 28 2 (.slice (some ⟨w.heap.size, 0, none⟩) l.length l.length) l.length (flC (midL [] l.length))) := hide (by
    have e : flC (midL [] l.length) = (madeCells #[.float .f64 0, .float .f64 0] (l.length * 2)).toList := by rw [made_flC]; simp [midL]
    rw [e]; exact hown)
  clear hown hg
  go_wp2
  go_loopw [32] (fun t wr => ∃ (j : Nat) (L : List (Nat × Nat)), j ≤ l.length ∧ t = .int .i64 j ∧ Hid (wr.ownsRow w.heap.size 28 2 (.slice (some ⟨w.heap.size, 0, none⟩) l.length l.length) l.length (flC (midL L l.length))) ∧ Hid (TsL true l j L) ∧ Hid (Below w.heap.size w wr)) (fun t _ => l.length - (intOf t).toNat)
  case atStart => exact ⟨0, [], by omega, rfl, hown1, hide (TsL.nil _ l), hb1⟩
  case round =>
    clear hown1 hb1
    obtain ⟨j, L, hj, rfl, hown, hts, hw⟩ := hrel
    obtain ⟨wo, rfl⟩ : ∃ x, x = wr := ⟨wr, rfl⟩
    by_cases hlt : j < l.length
    · have hlt2 : (j : Int) < l.length := by omega
      have hgs : w.heap.size < wo.heap.size := own_lt (unhide hown)
      go_wp2
      go_loopw [8, 37] (fun sv t wr => ∃ (k : Nat) (s : Nat × Nat), k ≤ l.length ∧ t = .int .i64 k ∧ sv = .complex .f64 s.1 s.2 ∧ Hid (Pk l (fS true l.length j) k s) ∧ Hid (Below wo.heap.size wo wr)) (fun _ t _ => l.length - (intOf t).toNat)
      case atStart => exact ⟨0, (0, 0), by omega, rfl, rfl, hide rfl, hide (Below.refl _ _)⟩
      case round =>
        obtain ⟨k, s, hk, rfl, rfl, hpk, hwi⟩ := hrel
        by_cases hkl : k < l.length
        · have hkl2 : (k : Int) < l.length := by omega
          obtain ⟨x, hx⟩ : ∃ x, l[k]? = some x := ⟨l[k], List.getElem?_eq_getElem hkl⟩
          obtain ⟨x1, x2⟩ := x
          obtain ⟨b1, o1, rfl, _, i1, d0, d1, _⟩ := unhide ha' k _ hx
          have hB := hide ((unhide hw).trans ((unhide hwi).mono (unhide hw).size))
          have D0 : wr.cell? ⟨b1, o1 + k * 2, none⟩ = some (.float .f64 x1) := by rw [(bcell (unhide hB)).1 _ _ i1]; exact d0
          have D1 : wr.cell? ⟨b1, o1 + k * 2 + 1, none⟩ = some (.float .f64 x2) := by rw [(bcell (unhide hB)).1 _ _ i1]; exact d1
          have hb1 : b1 < wr.heap.size := Nat.lt_of_lt_of_le i1 (unhide hB).size
          clear d0 d1
          have p0 : (0 : Int) ≤ 8 * (j : Int) * (k : Int) := Int.mul_nonneg (by omega) (by omega)
          have p1 : 8 * (j : Int) * (k : Int) ≤ 512 := Int.le_trans (Int.mul_le_mul (show 8 * (j : Int) ≤ 64 by omega) (show (k : Int) ≤ 8 by omega) (by omega) (by omega)) (by decide)
          obtain ⟨K, hfe, hK, hf8⟩ : ∃ K : Nat, 8 * (j : Int) * (k : Int) * 7 = (K : Int) ∧ K ≤ 1000000 ∧ K % 8 = fS true l.length j k := by
            have e8 : 8 / l.length = 8 := by rw [unhide hl']
            have ec : ((8 * j * k : Nat) : Int) = 8 * (j : Int) * (k : Int) := by rw [Int.natCast_mul, Int.natCast_mul]; rfl
            refine ⟨8 * j * k * 7, ?_, ?_, ?_⟩
            · omega
            · omega
            · unfold fS
              rw [e8]
              simp only [if_true, if_false, Bool.false_eq_true]
              omega
          have hstep : Hid (∀ re im u v, CPr x1 x2 (rt (K % 8)).1 (rt (K % 8)).2 re im → Res .add s.1 re u → Res .add s.2 im v → Pk l (fS true l.length j) (k + 1) (u, v)) := hide fun re im u v h1 h2 h3 => ⟨s, (x1, x2), (re, im), unhide hpk, hx, by rw [hf8] at h1; exact h1, h2, h3⟩
          clear hx hpk hf8
          have hn0 : ¬ (l.length : Int) = 0 := by omega
          have hw0 : IntKind.i64.wrap ((8 : Int).tdiv l.length) = 8 := by rw [show (l.length : Int) = 1 by have := unhide hl'; omega]; rfl
          have hne : ¬ l = [] := by intro h; rw [h] at hn1; simp at hn1
          have hrun : ∀ W, (binOp .quo 3 (.int .i64 8) (.int .i64 (l.length : Int))).run Try.prog W = .ok (.int .i64 8) W := by intro W; rw [show (l.length : Int) = 1 by have := unhide hl'; omega]; rfl
          have hw1 : IntKind.i64.wrap (8 * (j : Int)) = 8 * (j : Int) := by rw [wrap_id (by omega) (by omega)]
          have hw2 : IntKind.i64.wrap (8 * (j : Int) * (k : Int)) = 8 * (j : Int) * (k : Int) := wrap_id (by omega) (by omega)
          have hw3 : IntKind.i64.wrap (8 * (j : Int) * (k : Int) * 7) = (K : Int) := by rw [wrap_id (by omega) (by omega)]; omega
          have hw4 : IntKind.i64.wrap (K : Int) = (K : Int) := wrap_id (by omega) (by omega)
          clear hfe
          have H0 : Hid (Below wr.heap.size wr (wr.alloc (.cells #[.float .f64 x1, .float .f64 x2] 28))) := hide ((Below.refl _ _).alloc (Nat.le_refl _) _)
          go_wp2_with fail
          go_region_with (first | (go_at_call 10; refine (num_any _ _ _).mono ?_; rintro e w1 ⟨rfl, hb⟩; (first | (have y := kp_next y hb) | (have y := kp_first hb)); obtain ⟨y0, y1, y2⟩ := kp_out y) | (go_at_call 11; refine (iroot_any K hK _).mono ?_; rintro e w1 ⟨rfl, hb⟩; (first | (have y := kp_next y hb) | (have y := kp_first hb)); obtain ⟨y0, y1, y2⟩ := kp_out y) | (go_at_call 9; refine (turned_any _ _ (K % 8) _).mono ?_; rintro e w1 ⟨re, im, rfl, hc, hb⟩; have y := kp_next y hb))
          all_goals
            have hH' := hide (unhide y).2.2
            go_wp2
            go_roundw
            case rel =>
              refine ⟨k + 1, (_, _), by omega, by go_num, rfl, hide (unhide hstep _ _ _ _ (unhide hc) (fv_res _ _ _ _) (fv_res _ _ _ _)), hide ((unhide hwi).trans (Below.mono ?_ (unhide hwi).size))⟩
              first | exact unhide hH' | exact below_drewN (unhide hH') _ | exact below_drewN (below_drewN (unhide hH') _) _
            case measure => simp [intOf]; omega
        · have hke : k = l.length := by omega
          have hkl2 : ¬ (k : Int) < l.length := by omega
          have hts' : Hid (TsL true l (j + 1) (L ++ [s])) := hide ((unhide hts).snoc (by have := unhide hpk; rw [hke] at this; exact this))
          have hLj := hide (unhide hts).1
          have hown1 := hide (own_blk (unhide hown) (unhide hwi) hgs)
          have hB := hide ((unhide hw).trans ((unhide hwi).mono (unhide hw).size))
          clear hpk hke hts
          go_wp2_with fail
          refine (shown_any s.1 s.2 _).mono ?_
          rintro e w3 ⟨rfl, hb3⟩
          have own3 := ownsRow_below (unhide hown1) hb3
          have hml : j < (midL L l.length).length := by rw [midL_len (by rw [unhide hLj]; exact hj)]; exact hlt
          obtain ⟨x0, x1, x2, x3⟩ := own_cells hml own3
          have hnew := hide (show _ from by have := own_put (x := s) hml own3; rw [midL_set' (unhide hLj) hlt] at this; exact this)
          have hB3 := hide ((unhide hB).trans (hb3.mono (unhide hB).size))
          generalize (midL L l.length)[j].1 = u0 at *
          generalize (midL L l.length)[j].2 = u1 at *
          clear own3 hb3 hown1 hB hml
          go_wp2
          go_roundw
          case rel => exact ⟨j + 1, L ++ [s], by omega, by go_num, hnew, hts', hide (((unhide hB3).setCell (Nat.le_refl _) _).setCell (Nat.le_refl _) _)⟩
          case measure => simp [intOf]; omega
    · have hje : j = l.length := by omega
      have hlt2 : ¬ (j : Int) < l.length := by omega
      have hfin : Hid (TsL true l l.length L) := hide (by have := unhide hts; rw [hje] at this; exact this)
      have hLn := hide (unhide hfin).1
      clear hts hje
      go_wp2
      go_ret
      refine ⟨L, ?_, ?_, unhide hfin, unhide hw⟩
      · rw [unhide hLn]; rfl
      · have := unhide hown
        unfold midL at this
        rw [unhide hLn] at this ⊢
        simpa using this

end Go.Proofs.Ytmhciigjjamjkaa
