/-
  Contracts of the program's block turned: its rows aslant, and twice so; nothing that was there is written.
-/
import Derived.Test.YtcchgjeopmaemaaRRRBk
namespace Go.Proofs.YtcchgjeopmaemaaRRR
open Go.RowKit
set_option linter.unusedVariables false
set_option linter.unusedSimpArgs false

set_option maxHeartbeats 3200000 in
theorem asl_any (f : Nat → Int) (w : World) (hf : Bdd 100000000 f) :
    Calls Try.prog 53 #[sqv f] w fun e w' => e = .returned (sqv (asl f)) ∧ Below w.heap.size w w' := by
  have hf' := hide hf
  clear hf
  go_enter Try.func53, Try.ntmps53
  go_wp2
  have k0 := Bk.new w 51 f
  have r0 := Bk.new (w.alloc (.cells #[.int .i64 (f 0), .int .i64 (f 1), .int .i64 (f 2), .int .i64 (f 3), .int .i64 (f 4), .int .i64 (f 5), .int .i64 (f 6), .int .i64 (f 7), .int .i64 (f 8), .int .i64 (f 9), .int .i64 (f 10), .int .i64 (f 11), .int .i64 (f 12), .int .i64 (f 13), .int .i64 (f 14), .int .i64 (f 15)] 51)) 51 (fun _ => 0)
  have o0 := Bk.new ((w.alloc (.cells #[.int .i64 (f 0), .int .i64 (f 1), .int .i64 (f 2), .int .i64 (f 3), .int .i64 (f 4), .int .i64 (f 5), .int .i64 (f 6), .int .i64 (f 7), .int .i64 (f 8), .int .i64 (f 9), .int .i64 (f 10), .int .i64 (f 11), .int .i64 (f 12), .int .i64 (f 13), .int .i64 (f 14), .int .i64 (f 15)] 51)).alloc (.cells #[.int .i64 0, .int .i64 0, .int .i64 0, .int .i64 0, .int .i64 0, .int .i64 0, .int .i64 0, .int .i64 0, .int .i64 0, .int .i64 0, .int .i64 0, .int .i64 0, .int .i64 0, .int .i64 0, .int .i64 0, .int .i64 0] 51)) 51 (fun _ => 0)
  have s1 : (w.alloc (.cells #[.int .i64 (f 0), .int .i64 (f 1), .int .i64 (f 2), .int .i64 (f 3), .int .i64 (f 4), .int .i64 (f 5), .int .i64 (f 6), .int .i64 (f 7), .int .i64 (f 8), .int .i64 (f 9), .int .i64 (f 10), .int .i64 (f 11), .int .i64 (f 12), .int .i64 (f 13), .int .i64 (f 14), .int .i64 (f 15)] 51)).heap.size = w.heap.size + 1 := Deep.nblk_alloc _ _
  have s2 : ((w.alloc (.cells #[.int .i64 (f 0), .int .i64 (f 1), .int .i64 (f 2), .int .i64 (f 3), .int .i64 (f 4), .int .i64 (f 5), .int .i64 (f 6), .int .i64 (f 7), .int .i64 (f 8), .int .i64 (f 9), .int .i64 (f 10), .int .i64 (f 11), .int .i64 (f 12), .int .i64 (f 13), .int .i64 (f 14), .int .i64 (f 15)] 51)).alloc (.cells #[.int .i64 0, .int .i64 0, .int .i64 0, .int .i64 0, .int .i64 0, .int .i64 0, .int .i64 0, .int .i64 0, .int .i64 0, .int .i64 0, .int .i64 0, .int .i64 0, .int .i64 0, .int .i64 0, .int .i64 0, .int .i64 0] 51)).heap.size = w.heap.size + 1 + 1 := by rw [Deep.nblk_alloc, s1]
  rw [s1] at r0
  rw [s2] at o0
  have b1 : Below w.heap.size w (w.alloc (.cells #[.int .i64 (f 0), .int .i64 (f 1), .int .i64 (f 2), .int .i64 (f 3), .int .i64 (f 4), .int .i64 (f 5), .int .i64 (f 6), .int .i64 (f 7), .int .i64 (f 8), .int .i64 (f 9), .int .i64 (f 10), .int .i64 (f 11), .int .i64 (f 12), .int .i64 (f 13), .int .i64 (f 14), .int .i64 (f 15)] 51)) := (Below.refl _ _).alloc (Nat.le_refl _) _
  generalize (w.alloc (.cells #[.int .i64 (f 0), .int .i64 (f 1), .int .i64 (f 2), .int .i64 (f 3), .int .i64 (f 4), .int .i64 (f 5), .int .i64 (f 6), .int .i64 (f 7), .int .i64 (f 8), .int .i64 (f 9), .int .i64 (f 10), .int .i64 (f 11), .int .i64 (f 12), .int .i64 (f 13), .int .i64 (f 14), .int .i64 (f 15)] 51)) = w1 at *
  have k1 : Bk (w1.alloc (.cells #[.int .i64 0, .int .i64 0, .int .i64 0, .int .i64 0, .int .i64 0, .int .i64 0, .int .i64 0, .int .i64 0, .int .i64 0, .int .i64 0, .int .i64 0, .int .i64 0, .int .i64 0, .int .i64 0, .int .i64 0, .int .i64 0] 51)) w.heap.size 51 f := k0.later ((Below.refl _ _).alloc (Nat.le_refl _) _)
  have b2 : Below w.heap.size w (w1.alloc (.cells #[.int .i64 0, .int .i64 0, .int .i64 0, .int .i64 0, .int .i64 0, .int .i64 0, .int .i64 0, .int .i64 0, .int .i64 0, .int .i64 0, .int .i64 0, .int .i64 0, .int .i64 0, .int .i64 0, .int .i64 0, .int .i64 0] 51)) := laterB b1 ((Below.refl _ _).alloc (Nat.le_refl _) _)
  generalize (w1.alloc (.cells #[.int .i64 0, .int .i64 0, .int .i64 0, .int .i64 0, .int .i64 0, .int .i64 0, .int .i64 0, .int .i64 0, .int .i64 0, .int .i64 0, .int .i64 0, .int .i64 0, .int .i64 0, .int .i64 0, .int .i64 0, .int .i64 0] 51)) = w2 at *
  have k2 := hide (k1.later ((Below.refl _ _).alloc (Nat.le_refl _) (.cells #[.int .i64 0, .int .i64 0, .int .i64 0, .int .i64 0, .int .i64 0, .int .i64 0, .int .i64 0, .int .i64 0, .int .i64 0, .int .i64 0, .int .i64 0, .int .i64 0, .int .i64 0, .int .i64 0, .int .i64 0, .int .i64 0] 51)))
  have r2 := hide (Bk.later r0 ((Below.refl _ _).alloc (Nat.le_refl _) (.cells #[.int .i64 0, .int .i64 0, .int .i64 0, .int .i64 0, .int .i64 0, .int .i64 0, .int .i64 0, .int .i64 0, .int .i64 0, .int .i64 0, .int .i64 0, .int .i64 0, .int .i64 0, .int .i64 0, .int .i64 0, .int .i64 0] 51)))
  have b3 := hide (laterB b2 ((Below.refl _ _).alloc (Nat.le_refl _) (.cells #[.int .i64 0, .int .i64 0, .int .i64 0, .int .i64 0, .int .i64 0, .int .i64 0, .int .i64 0, .int .i64 0, .int .i64 0, .int .i64 0, .int .i64 0, .int .i64 0, .int .i64 0, .int .i64 0, .int .i64 0, .int .i64 0] 51)))
  have o2 := hide (Bk.eq o0 (h := aslK f 0 0) (fun i hi => by unfold aslK; rw [if_neg (by omega)]))
  clear k0 r0 o0 s1 s2 b1 b2 k1
  generalize (w2.alloc (.cells #[.int .i64 0, .int .i64 0, .int .i64 0, .int .i64 0, .int .i64 0, .int .i64 0, .int .i64 0, .int .i64 0, .int .i64 0, .int .i64 0, .int .i64 0, .int .i64 0, .int .i64 0, .int .i64 0, .int .i64 0, .int .i64 0] 51)) = w3 at *
  clear w1 w2
  generalize hB : w.heap.size + 1 = B1 at *
  generalize hB2 : B1 + 1 = B2 at *
  have q1 : w.heap.size < B1 := by omega
  have q2 : B1 < B2 := by omega
  clear hB hB2
  go_loopw [8] (fun t wr => ∃ y : Nat, y ≤ 4 ∧ t = .int .i64 y ∧ Hid (Bk wr w.heap.size 51 f) ∧ Hid (Bk wr B1 51 (fun _ => 0)) ∧ Hid (Bk wr B2 51 (aslK f y 0)) ∧ Hid (Below w.heap.size w wr)) (fun t _ => 4 - (intOf t).toNat)
  case atStart => exact ⟨0, by omega, rfl, k2, r2, o2, b3⟩
  case round =>
    clear k2 r2 o2 b3
    obtain ⟨y, hy, rfl, hK, hR, hO, hb⟩ := hrel
    by_cases hlt : y < 4
    · obtain ⟨c0, c1, c2, c3, c4, c5, c6, c7, c8, c9, c10, c11, c12, c13, c14, c15⟩ := (unhide hK).cells
      go_wp2_with fail
      refine (row_any f y _ hlt).mono ?_
      rintro e w1 ⟨rfl, h1⟩
      have hK := hide ((unhide hK).later h1)
      have hR := hide ((unhide hR).later h1)
      have hO := hide ((unhide hO).later h1)
      have hb := hide (laterB (unhide hb) h1)
      clear c0 c1 c2 c3 c4 c5 c6 c7 c8 c9 c10 c11 c12 c13 c14 c15 h1
      go_wp2_with fail
      refine (turn4_any _ _ _ _ _ (unhide hf' _ (by omega)) (unhide hf' _ (by omega)) (unhide hf' _ (by omega)) (unhide hf' _ (by omega))).mono ?_
      rintro e w2 ⟨rfl, h2⟩
      have hK := hide ((unhide hK).later h2)
      have hR := hide ((unhide hR).later h2)
      have hO := hide ((unhide hO).later h2)
      have hb := hide (laterB (unhide hb) h2)
      clear h2
      rename World => wo
      go_wp2
      go_loopw [15] (fun t ws => ∃ x : Nat, x ≤ 4 ∧ t = .int .i64 x ∧ Hid (Bk ws w.heap.size 51 f) ∧ Hid (Bk ws B1 51 (fun _ => 0)) ∧ Hid (Bk ws B2 51 (aslK f y x)) ∧ Hid (Below w.heap.size w ws)) (fun t _ => 4 - (intOf t).toNat)
      case atStart => exact ⟨0, by omega, rfl, hK, hR, hO, hb⟩
      case round =>
        clear hK hR hO hb
        obtain ⟨x, hx, rfl, hK, hR, hO, hb⟩ := hrel
        by_cases hlx : x < 4
        · have hi := ix4 (f (4 * y)) (f (4 * y + 1)) (f (4 * y + 2)) (f (4 * y + 3)) x hlx
          have ht : ((x : Int) * 4 + (y : Int)).toNat = x * 4 + y := by omega
          have d0 := (unhide hO).at (x * 4 + y) (by omega)
          have d1 := (unhide hO).fz (x * 4 + y)
          have hO := hide (((unhide hO).set (x * 4 + y) (by omega) (four (f (4 * y)) (f (4 * y + 1)) (f (4 * y + 2)) (f (4 * y + 3)) x)).eq (fun i h => aslK_put f y x hlt hlx i h))
          generalize aslK f y x (x * 4 + y) = d2 at *
          generalize four (f (4 * y)) (f (4 * y + 1)) (f (4 * y + 2)) (f (4 * y + 3)) x = d3 at *
          go_wp2
          go_roundw
          case rel => exact ⟨x + 1, by omega, by go_num, hide ((unhide hK).ne (by omega)), hide ((unhide hR).ne (by omega)), hO, hide (below_set (unhide hb) (by omega))⟩
          case measure => simp [intOf]; omega
        · have hxe : x = 4 := by omega
          subst hxe
          have hO := hide ((unhide hO).eq (fun i h => aslK_row f y i h))
          go_wp2
          go_roundw
          case rel => exact ⟨y + 1, by omega, by go_num, hK, hR, hO, hb⟩
          case measure => simp [intOf]; omega
    · have hye : y = 4 := by omega
      subst hye
      have hO := hide ((unhide hO).eq (fun i h => aslK_end f i h))
      obtain ⟨c0, c1, c2, c3, c4, c5, c6, c7, c8, c9, c10, c11, c12, c13, c14, c15⟩ := (unhide hO).cells
      obtain ⟨d0, d1, d2, d3, d4, d5, d6, d7, d8, d9, d10, d11, d12, d13, d14, d15⟩ := (unhide hR).cells
      have fz := (unhide hR).fz
      go_wp2
      have P := Bk.put16 (unhide hR) (asl f)
      have Q := below_set16 (b := B1) (asl f) (unhide hb) (by omega)
      clear c0 d0 c1 d1 c2 d2 c3 d3 c4 d4 c5 d5 c6 d6 c7 d7 c8 d8 c9 d9 c10 d10 c11 d11 c12 d12 c13 d13 c14 d14 c15 d15 fz
      generalize ((((((((((((((((wr.setCell ⟨B1, 0, none⟩ (.int .i64 (asl f 0))).setCell ⟨B1, 1, none⟩ (.int .i64 (asl f 1))).setCell ⟨B1, 2, none⟩ (.int .i64 (asl f 2))).setCell ⟨B1, 3, none⟩ (.int .i64 (asl f 3))).setCell ⟨B1, 4, none⟩ (.int .i64 (asl f 4))).setCell ⟨B1, 5, none⟩ (.int .i64 (asl f 5))).setCell ⟨B1, 6, none⟩ (.int .i64 (asl f 6))).setCell ⟨B1, 7, none⟩ (.int .i64 (asl f 7))).setCell ⟨B1, 8, none⟩ (.int .i64 (asl f 8))).setCell ⟨B1, 9, none⟩ (.int .i64 (asl f 9))).setCell ⟨B1, 10, none⟩ (.int .i64 (asl f 10))).setCell ⟨B1, 11, none⟩ (.int .i64 (asl f 11))).setCell ⟨B1, 12, none⟩ (.int .i64 (asl f 12))).setCell ⟨B1, 13, none⟩ (.int .i64 (asl f 13))).setCell ⟨B1, 14, none⟩ (.int .i64 (asl f 14))).setCell ⟨B1, 15, none⟩ (.int .i64 (asl f 15))) = W9 at *
      obtain ⟨c0, c1, c2, c3, c4, c5, c6, c7, c8, c9, c10, c11, c12, c13, c14, c15⟩ := P.cells
      exact bodyPost_ret (v := sqv (asl f)) (by simp [results, Try.results53, go_sem, c0, c1, c2, c3, c4, c5, c6, c7, c8, c9, c10, c11, c12, c13, c14, c15]) rfl ⟨rfl, Q⟩

set_option maxHeartbeats 1600000 in
theorem turned_any (f : Nat → Int) (w : World) (hf : Bdd 20000000 f) :
    Calls Try.prog 32 #[sqv f] w fun e w' => e = .returned (sqv (trn f)) ∧ Below w.heap.size w w' := by
  have hf1 := hide (hf.mono (C := 100000000) (by omega))
  have hf2 := hide (hf.asl.mono (C := 100000000) (by omega))
  clear hf
  go_enter Try.func32, Try.ntmps32
  go_wp2_with fail
  have k0 := Bk.new w 51 f
  have r0 := Bk.new (w.alloc (.cells #[.int .i64 (f 0), .int .i64 (f 1), .int .i64 (f 2), .int .i64 (f 3), .int .i64 (f 4), .int .i64 (f 5), .int .i64 (f 6), .int .i64 (f 7), .int .i64 (f 8), .int .i64 (f 9), .int .i64 (f 10), .int .i64 (f 11), .int .i64 (f 12), .int .i64 (f 13), .int .i64 (f 14), .int .i64 (f 15)] 51)) 51 (fun _ => 0)
  have s1 : (w.alloc (.cells #[.int .i64 (f 0), .int .i64 (f 1), .int .i64 (f 2), .int .i64 (f 3), .int .i64 (f 4), .int .i64 (f 5), .int .i64 (f 6), .int .i64 (f 7), .int .i64 (f 8), .int .i64 (f 9), .int .i64 (f 10), .int .i64 (f 11), .int .i64 (f 12), .int .i64 (f 13), .int .i64 (f 14), .int .i64 (f 15)] 51)).heap.size = w.heap.size + 1 := Deep.nblk_alloc _ _
  rw [s1] at r0
  have b1 : Below w.heap.size w (w.alloc (.cells #[.int .i64 (f 0), .int .i64 (f 1), .int .i64 (f 2), .int .i64 (f 3), .int .i64 (f 4), .int .i64 (f 5), .int .i64 (f 6), .int .i64 (f 7), .int .i64 (f 8), .int .i64 (f 9), .int .i64 (f 10), .int .i64 (f 11), .int .i64 (f 12), .int .i64 (f 13), .int .i64 (f 14), .int .i64 (f 15)] 51)) := (Below.refl _ _).alloc (Nat.le_refl _) _
  have b2 : Below w.heap.size w ((w.alloc (.cells #[.int .i64 (f 0), .int .i64 (f 1), .int .i64 (f 2), .int .i64 (f 3), .int .i64 (f 4), .int .i64 (f 5), .int .i64 (f 6), .int .i64 (f 7), .int .i64 (f 8), .int .i64 (f 9), .int .i64 (f 10), .int .i64 (f 11), .int .i64 (f 12), .int .i64 (f 13), .int .i64 (f 14), .int .i64 (f 15)] 51)).alloc (.cells #[.int .i64 0, .int .i64 0, .int .i64 0, .int .i64 0, .int .i64 0, .int .i64 0, .int .i64 0, .int .i64 0, .int .i64 0, .int .i64 0, .int .i64 0, .int .i64 0, .int .i64 0, .int .i64 0, .int .i64 0, .int .i64 0] 51)) := laterB b1 ((Below.refl _ _).alloc (Nat.le_refl _) _)
  clear b1 k0 s1
  generalize (w.alloc (.cells #[.int .i64 (f 0), .int .i64 (f 1), .int .i64 (f 2), .int .i64 (f 3), .int .i64 (f 4), .int .i64 (f 5), .int .i64 (f 6), .int .i64 (f 7), .int .i64 (f 8), .int .i64 (f 9), .int .i64 (f 10), .int .i64 (f 11), .int .i64 (f 12), .int .i64 (f 13), .int .i64 (f 14), .int .i64 (f 15)] 51)).alloc (.cells #[.int .i64 0, .int .i64 0, .int .i64 0, .int .i64 0, .int .i64 0, .int .i64 0, .int .i64 0, .int .i64 0, .int .i64 0, .int .i64 0, .int .i64 0, .int .i64 0, .int .i64 0, .int .i64 0, .int .i64 0, .int .i64 0] 51) = w2 at *
  refine (asl_any f _ (unhide hf1)).mono ?_
  rintro e w3 ⟨rfl, h3⟩
  have r1 := Bk.later r0 h3
  have b3 := laterB b2 h3
  clear r0 b2 h3
  go_wp2_with fail
  refine (asl_any (asl f) _ (unhide hf2)).mono ?_
  rintro e w4 ⟨rfl, h4⟩
  have r2 := hide (Bk.later r1 h4)
  have b4 := hide (laterB b3 h4)
  clear r1 b3 h4
  generalize hB : w.heap.size + 1 = B1 at *
  have q1 : w.heap.size ≤ B1 := by omega
  clear hB
  obtain ⟨d0, d1, d2, d3, d4, d5, d6, d7, d8, d9, d10, d11, d12, d13, d14, d15⟩ := (unhide r2).cells
  have fz := (unhide r2).fz
  go_wp2
  have P := Bk.put16 (unhide r2) (asl (asl f))
  have Q := below_set16 (b := B1) (asl (asl f)) (unhide b4) q1
  clear d0 d1 d2 d3 d4 d5 d6 d7 d8 d9 d10 d11 d12 d13 d14 d15 fz
  generalize ((((((((((((((((w4.setCell ⟨B1, 0, none⟩ (.int .i64 (asl (asl f) 0))).setCell ⟨B1, 1, none⟩ (.int .i64 (asl (asl f) 1))).setCell ⟨B1, 2, none⟩ (.int .i64 (asl (asl f) 2))).setCell ⟨B1, 3, none⟩ (.int .i64 (asl (asl f) 3))).setCell ⟨B1, 4, none⟩ (.int .i64 (asl (asl f) 4))).setCell ⟨B1, 5, none⟩ (.int .i64 (asl (asl f) 5))).setCell ⟨B1, 6, none⟩ (.int .i64 (asl (asl f) 6))).setCell ⟨B1, 7, none⟩ (.int .i64 (asl (asl f) 7))).setCell ⟨B1, 8, none⟩ (.int .i64 (asl (asl f) 8))).setCell ⟨B1, 9, none⟩ (.int .i64 (asl (asl f) 9))).setCell ⟨B1, 10, none⟩ (.int .i64 (asl (asl f) 10))).setCell ⟨B1, 11, none⟩ (.int .i64 (asl (asl f) 11))).setCell ⟨B1, 12, none⟩ (.int .i64 (asl (asl f) 12))).setCell ⟨B1, 13, none⟩ (.int .i64 (asl (asl f) 13))).setCell ⟨B1, 14, none⟩ (.int .i64 (asl (asl f) 14))).setCell ⟨B1, 15, none⟩ (.int .i64 (asl (asl f) 15))) = W9 at *
  obtain ⟨c0, c1, c2, c3, c4, c5, c6, c7, c8, c9, c10, c11, c12, c13, c14, c15⟩ := P.cells
  exact bodyPost_ret (v := sqv (asl (asl f))) (by simp [results, Try.results32, go_sem, c0, c1, c2, c3, c4, c5, c6, c7, c8, c9, c10, c11, c12, c13, c14, c15]) rfl ⟨rfl, Q⟩

end Go.Proofs.YtcchgjeopmaemaaRRR
