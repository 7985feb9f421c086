/-
  Contract of a block's pixels, moved, to the program; nothing that was there is written.
-/
import Derived.Test.YtdppnjafkbopiaaMo3
namespace Go.Proofs.Ytdppnjafkbopiaa
open Go.RowKit
set_option linter.unusedVariables false
set_option linter.unusedSimpArgs false

set_option maxHeartbeats 6400000 in
theorem iblk_any (W H : Int) (a : Option Addr) (cap : Nat) (l : List Int) (n dx dy : Int) (w : World) (hp : PcOk W H l) (hk : Ins w a l) (n0 : 0 ≤ n) (n1 : n < nBl W H) (hm : InM dx dy) :
    Calls Try.prog 24 #[pcv W H a l.length cap, .int .i64 n, mvv dx dy] w fun e w' => e = .returned (sqv (blk W H l n dx dy)) ∧ Below w.heap.size w w' := by
  obtain ⟨i0, hi, hz0, hz1, hz2⟩ := info_parts infoI
  obtain ⟨cb1, cb2, cb3, cb4, cb5, cb6⟩ := cor_bd hp.1 hp.2.1 n0 n1
  have hat := hide (fun (x y : Nat) (hx : x < 4) => blk_at W H l n dx dy x y hx)
  have sW := side4_bd hp.1
  have sH := side4_bd hp.2.1
  have hn16 : n ≤ 16 := by have := (nBl_eq hp.1 hp.2.1).2.2; omega
  have c64 := hide (fun w' => corner_any W H a l.length cap n w' hp.1 n0 hn16)
  generalize n % (W / 4) * 4 = L0 at *
  generalize n / (W / 4) * 4 = T0 at *
  unfold InM at hm
  obtain ⟨h1, h2, h3, h4⟩ := hm
  have hp' := hide hp
  have L12 : L0 ≤ 12 := by omega
  have T12 : T0 ≤ 12 := by omega
  have hA16 := arr16
  have b1 : Below w.heap.size w (w.alloc (.cells #[.int .i64 W, .int .i64 H, .slice a l.length cap] 26)) := (Below.refl _ _).alloc (Nat.le_refl _) _
  have p1 := P3.new w 26 W H (.slice a l.length cap)
  have z1 := Deep.nblk_alloc w (.cells #[.int .i64 W, .int .i64 H, .slice a l.length cap] 26)
  clear hp n1 cb1 cb2 cb4 cb6 sW sH
  go_enter Try.func24, Try.ntmps24
  go_wp2_with fail
  generalize w.alloc (.cells #[.int .i64 W, .int .i64 H, .slice a l.length cap] 26) = w1 at *
  have b2 := laterB b1 ((Below.refl w1.heap.size w1).alloc (Nat.le_refl _) (.cells #[.int .i64 dx, .int .i64 dy] 41))
  have p2 := p1.later ((Below.refl w1.heap.size w1).alloc (Nat.le_refl _) (.cells #[.int .i64 dx, .int .i64 dy] 41))
  have m2 := P2.new w1 41 dx dy
  have z2 := Deep.nblk_alloc w1 (.cells #[.int .i64 dx, .int .i64 dy] 41)
  generalize w1.alloc (.cells #[.int .i64 dx, .int .i64 dy] 41) = w2 at *
  have b3 := laterB b2 ((Below.refl w2.heap.size w2).alloc (Nat.le_refl _) (.cells #[.int .i64 0, .int .i64 0, .int .i64 0, .int .i64 0, .int .i64 0, .int .i64 0, .int .i64 0, .int .i64 0, .int .i64 0, .int .i64 0, .int .i64 0, .int .i64 0, .int .i64 0, .int .i64 0, .int .i64 0, .int .i64 0] 52))
  have p3 := p2.later ((Below.refl w2.heap.size w2).alloc (Nat.le_refl _) (.cells #[.int .i64 0, .int .i64 0, .int .i64 0, .int .i64 0, .int .i64 0, .int .i64 0, .int .i64 0, .int .i64 0, .int .i64 0, .int .i64 0, .int .i64 0, .int .i64 0, .int .i64 0, .int .i64 0, .int .i64 0, .int .i64 0] 52))
  have m3 := m2.later ((Below.refl w2.heap.size w2).alloc (Nat.le_refl _) (.cells #[.int .i64 0, .int .i64 0, .int .i64 0, .int .i64 0, .int .i64 0, .int .i64 0, .int .i64 0, .int .i64 0, .int .i64 0, .int .i64 0, .int .i64 0, .int .i64 0, .int .i64 0, .int .i64 0, .int .i64 0, .int .i64 0] 52))
  have r3 := Bk.new w2 52 (fun _ => 0)
  have z3 := Deep.nblk_alloc w2 (.cells #[.int .i64 0, .int .i64 0, .int .i64 0, .int .i64 0, .int .i64 0, .int .i64 0, .int .i64 0, .int .i64 0, .int .i64 0, .int .i64 0, .int .i64 0, .int .i64 0, .int .i64 0, .int .i64 0, .int .i64 0, .int .i64 0] 52)
  generalize w2.alloc (.cells #[.int .i64 0, .int .i64 0, .int .i64 0, .int .i64 0, .int .i64 0, .int .i64 0, .int .i64 0, .int .i64 0, .int .i64 0, .int .i64 0, .int .i64 0, .int .i64 0, .int .i64 0, .int .i64 0, .int .i64 0, .int .i64 0] 52) = w3 at *
  rw [z1] at m3
  rw [z2, z1] at r3
  have z4 : w3.heap.size = w.heap.size + 1 + 1 + 1 := by omega
  have hk3 := hide (hk.below b3)
  clear hk b1 p1 z1 b2 p2 m2 z2 z3 w1 w2
  refine (unhide c64 _).mono ?_
  rintro e w4 ⟨rfl, k4⟩
  have P := hide p3
  have M := hide m3
  have R := hide r3
  have Bw := hide b3
  have B4 := hide k4
  have z5 := hide z4
  have y0 : w.heap.size < w3.heap.size := by omega
  have y1 : w.heap.size + 1 < w3.heap.size := by omega
  have y2 : w.heap.size + 1 + 1 < w3.heap.size := by omega
  have s4 := k4.size
  clear p3 m3 r3 b3 k4 z4 c64
  go_wp2_with (refine wpList_make_own _ rfl _ _ 24 rfl w3.heap.size 2 i0 (.int .i64 0) 1 Try.underlying24 hi hz0 hz1 .i64 .i64 _ 16 rfl rfl rfl ?b2 ?b3 s4 ?_)
  case b2 => rw [hz2]; omega
  case b3 => unfold maxLen; omega
  intro w5 hown hg
  have B5 := hide ((unhide B4).grown hg s4 (fun k hk => by cases hk))
  have ho : Hid (OwnI w5 w3.heap.size w4.heap.size 0 16 []) := hide hown
  clear hown hg B4 s4
  generalize w4.heap.size = G4 at *
  go_wp2
  go_loopw [9, 19] (fun s t wr => ∃ (y g c : Nat), y ≤ 4 ∧ t = .int .i64 y ∧ s = .slice (some ⟨g, 0, none⟩) (4 * y) c ∧ Hid (OwnI wr w3.heap.size g (4 * y) c (fl (blk W H l n dx dy) (4 * y))) ∧ Hid (Below w3.heap.size w3 wr)) (fun _ t _ => 4 - (intOf t).toNat)
  case atStart => exact ⟨0, _, _, by omega, rfl, rfl, ho, B5⟩
  case round =>
    clear ho B5
    obtain ⟨y, g, c, hy, rfl, rfl, ho, hb⟩ := hrel
    by_cases hly : y < 4
    · have hly2 : decide ((y : Int) < 4) = true := decide_eq_true (by omega)
      rename World => wa
      go_wp2
      go_loopw [9, 22] (fun s t wr => ∃ (x g c : Nat), x ≤ 4 ∧ t = .int .i64 x ∧ s = .slice (some ⟨g, 0, none⟩) (4 * y + x) c ∧ Hid (OwnI wr w3.heap.size g (4 * y + x) c (fl (blk W H l n dx dy) (4 * y + x))) ∧ Hid (Below w3.heap.size w3 wr)) (fun _ t _ => 4 - (intOf t).toNat)
      case atStart => exact ⟨0, g, c, by omega, rfl, rfl, ho, hb⟩
      case round =>
        clear ho hb
        obtain ⟨x, g, c, hx, rfl, rfl, ho, hb⟩ := hrel
        have hsz := (unhide hb).size
        by_cases hlx : x < 4
        · have hv := hide (unhide hat x y hlx)
          obtain ⟨v, hv2⟩ : ∃ v, pxA W H l (L0 + x + dx) (T0 + y + dy) = v := ⟨_, rfl⟩
          have hfl := hide (show fl (blk W H l n dx dy) (4 * y + x) ++ [v] = fl (blk W H l n dx dy) (4 * y + x + 1) by rw [← fl_snoc, unhide hv, hv2])
          have c65 := hide (show ∀ w', Below w3.heap.size w3 w' → Calls Try.prog 35 #[pcv W H a l.length cap, .int .i64 (L0 + x + dx), .int .i64 (T0 + y + dy)] w' fun e w'' => e = .returned (.int .i64 v) ∧ Below w'.heap.size w' w'' from fun w' hb' => by
            have := inear_any W H a cap l (L0 + x + dx) (T0 + y + dy) w' (unhide hp') ((unhide hk3).below hb') (by omega) (by omega)
            rw [hv2] at this
            exact this)
          obtain ⟨e0, e1, e2⟩ := ((unhide P).below (unhide hb) y0).cells
          obtain ⟨f0, f1⟩ := ((unhide M).below (unhide hb) y1).cells
          clear hv hv2
          go_wp2_with fail
          refine (unhide c65 _ (unhide hb)).mono ?_
          rintro e w6 ⟨rfl, k6⟩
          have ho6 := hide (ownsRow_below (unhide ho) k6)
          have hb6 := hide (laterB (unhide hb) k6)
          have hz6 := (unhide hb6).size
          clear k6 e0 e1 e2 f0 f1 ho hb c65
          go_wp2_with (refine wpList_iA w6 rfl _ _ rfl w3.heap.size g (4 * y + x) c _ v rfl (unhide ho6) rfl (by omega) hz6 ?_)
          intro g' cap' w' h5 h6 h7
          have ho2 := hide (show OwnI w' w3.heap.size g' (4 * y + x + 1) cap' (fl (blk W H l n dx dy) (4 * y + x + 1)) by have := h5; rw [unhide hfl] at this; exact this)
          have hb2 := hide ((unhide hb6).trans h6)
          clear h5 h6 h7 ho6 hb6
          go_wp2
          go_roundw
          case rel => exact ⟨x + 1, g', cap', by omega, by go_num, rfl, ho2, hb2⟩
          case measure => simp [intOf]; omega
        · have hxe : x = 4 := by omega
          subst hxe
          go_wp2
          go_roundw
          case rel => exact ⟨y + 1, g, c, by omega, by go_num, rfl, ho, hb⟩
          case measure => simp [intOf]; omega
    · have hye : y = 4 := by omega
      subst hye
      have hoF : Hid (OwnI wr w3.heap.size g 16 c (fl (blk W H l n dx dy) 16)) := ho
      clear ho
      have gne : w.heap.size + 1 + 1 ≠ g := by have := own_ge (unhide hoF); omega
      have e0 := ownI_at (fl_at (blk W H l n dx dy) (show 0 < 16 by omega)) (unhide hoF)
      have e1 := ownI_at (fl_at (blk W H l n dx dy) (show 1 < 16 by omega)) (unhide hoF)
      have e2 := ownI_at (fl_at (blk W H l n dx dy) (show 2 < 16 by omega)) (unhide hoF)
      have e3 := ownI_at (fl_at (blk W H l n dx dy) (show 3 < 16 by omega)) (unhide hoF)
      have e4 := ownI_at (fl_at (blk W H l n dx dy) (show 4 < 16 by omega)) (unhide hoF)
      have e5 := ownI_at (fl_at (blk W H l n dx dy) (show 5 < 16 by omega)) (unhide hoF)
      have e6 := ownI_at (fl_at (blk W H l n dx dy) (show 6 < 16 by omega)) (unhide hoF)
      have e7 := ownI_at (fl_at (blk W H l n dx dy) (show 7 < 16 by omega)) (unhide hoF)
      have e8 := ownI_at (fl_at (blk W H l n dx dy) (show 8 < 16 by omega)) (unhide hoF)
      have e9 := ownI_at (fl_at (blk W H l n dx dy) (show 9 < 16 by omega)) (unhide hoF)
      have e10 := ownI_at (fl_at (blk W H l n dx dy) (show 10 < 16 by omega)) (unhide hoF)
      have e11 := ownI_at (fl_at (blk W H l n dx dy) (show 11 < 16 by omega)) (unhide hoF)
      have e12 := ownI_at (fl_at (blk W H l n dx dy) (show 12 < 16 by omega)) (unhide hoF)
      have e13 := ownI_at (fl_at (blk W H l n dx dy) (show 13 < 16 by omega)) (unhide hoF)
      have e14 := ownI_at (fl_at (blk W H l n dx dy) (show 14 < 16 by omega)) (unhide hoF)
      have e15 := ownI_at (fl_at (blk W H l n dx dy) (show 15 < 16 by omega)) (unhide hoF)
      have R2 := hide ((unhide R).below (unhide hb) y2)
      obtain ⟨d0, d1, d2, d3, d4, d5, d6, d7, d8, d9, d10, d11, d12, d13, d14, d15⟩ := (unhide R2).cells
      have fz := (unhide R2).fz
      go_wp2
      have P9 := Bk.put16 (unhide R2) (blk W H l n dx dy)
      have Q9 := below_set16 (b := w.heap.size + 1 + 1) (blk W H l n dx dy) ((unhide Bw).trans ((unhide hb).mono (by omega))) (by omega)
      clear d0 e0 d1 e1 d2 e2 d3 e3 d4 e4 d5 e5 d6 e6 d7 e7 d8 e8 d9 e9 d10 e10 d11 e11 d12 e12 d13 e13 d14 e14 d15 e15 fz
      generalize ((((((((((((((((wr.setCell ⟨w.heap.size + 1 + 1, 0, none⟩ (.int .i64 (blk W H l n dx dy 0))).setCell ⟨w.heap.size + 1 + 1, 1, none⟩ (.int .i64 (blk W H l n dx dy 1))).setCell ⟨w.heap.size + 1 + 1, 2, none⟩ (.int .i64 (blk W H l n dx dy 2))).setCell ⟨w.heap.size + 1 + 1, 3, none⟩ (.int .i64 (blk W H l n dx dy 3))).setCell ⟨w.heap.size + 1 + 1, 4, none⟩ (.int .i64 (blk W H l n dx dy 4))).setCell ⟨w.heap.size + 1 + 1, 5, none⟩ (.int .i64 (blk W H l n dx dy 5))).setCell ⟨w.heap.size + 1 + 1, 6, none⟩ (.int .i64 (blk W H l n dx dy 6))).setCell ⟨w.heap.size + 1 + 1, 7, none⟩ (.int .i64 (blk W H l n dx dy 7))).setCell ⟨w.heap.size + 1 + 1, 8, none⟩ (.int .i64 (blk W H l n dx dy 8))).setCell ⟨w.heap.size + 1 + 1, 9, none⟩ (.int .i64 (blk W H l n dx dy 9))).setCell ⟨w.heap.size + 1 + 1, 10, none⟩ (.int .i64 (blk W H l n dx dy 10))).setCell ⟨w.heap.size + 1 + 1, 11, none⟩ (.int .i64 (blk W H l n dx dy 11))).setCell ⟨w.heap.size + 1 + 1, 12, none⟩ (.int .i64 (blk W H l n dx dy 12))).setCell ⟨w.heap.size + 1 + 1, 13, none⟩ (.int .i64 (blk W H l n dx dy 13))).setCell ⟨w.heap.size + 1 + 1, 14, none⟩ (.int .i64 (blk W H l n dx dy 14))).setCell ⟨w.heap.size + 1 + 1, 15, none⟩ (.int .i64 (blk W H l n dx dy 15))) = W9 at *
      obtain ⟨c0, c1, c2, c3, c4, c5, c6, c7, c8, c9, c10, c11, c12, c13, c14, c15⟩ := P9.cells
      exact bodyPost_ret (v := sqv (blk W H l n dx dy)) (by simp [results, Try.results24, go_sem, c0, c1, c2, c3, c4, c5, c6, c7, c8, c9, c10, c11, c12, c13, c14, c15]) rfl ⟨rfl, Q9⟩

end Go.Proofs.Ytdppnjafkbopiaa
