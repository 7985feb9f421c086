/-
  Contract of the program's moved picture: its answer is memory of its own; nothing that was there is written.
-/
import Derived.Test.YteabmbggljpmoaaMvI
namespace Go.Proofs.Yteabmbggljpmoaa
open Go.RowKit
set_option linter.unusedVariables false
set_option linter.unusedSimpArgs false

def MvR (w : World) (L : List Kl) (e : Ending) (w' : World) : Prop := ∃ g cap, e = .returned (.slice (some ⟨g, 0, none⟩) L.length cap) ∧ w.heap.size ≤ g ∧ Own w' w.heap.size g L.length cap L ∧ Below w.heap.size w w'
set_option maxHeartbeats 3200000 in
theorem imv_any (W H : Int) (a : Option Addr) (cap : Nat) (l : List Kl) (dx dy : Int) (w : World) (hl : l.length ≤ maxLen) (hk : Kls w a l) :
    Calls Try.prog 32 #[.int .i64 W, .int .i64 H, .slice a l.length cap, .int .i64 dx, .int .i64 dy] w (MvR w (movedOf W H l dx dy)) := by
  have hk' := hide hk
  have hl' := hide hl
  clear hk hl
  have bad : ∀ w1 : World, Below w.heap.size w w1 → movedOf W H l dx dy = [] → MvR w (movedOf W H l dx dy) (.returned (.slice (some ⟨w1.heap.size, 0, none⟩) 0 0)) (w1.alloc (.cells #[] 25)) := by
    intro w1 hb he
    rw [he]
    exact ⟨w1.heap.size, 0, rfl, hb.size, own_lit0 w1 hb.size, hb.alloc hb.size _⟩
  have bad' := hide bad
  clear bad
  by_cases hA : PicOk W H l
  rotate_left
  · have hz := hide (show movedOf W H l dx dy = [] by unfold movedOf; rw [if_neg (fun h => hA h.1)])
    have hA' : Hid (¬ PicOk W H l) := hide hA
    clear hA
    go_enter Try.func32, Try.ntmps32
    go_wp2_with fail
    refine (ipic_any W H a cap l false _ (unhide hl') (unhide hk') ⟨fun h => (by cases h), fun h => absurd h (unhide hA')⟩).mono ?_
    rintro e w1 ⟨rfl, hb⟩
    have h1 := hide hb
    clear hb
    go_wp2
    go_ret
    exact unhide bad' w1 (unhide h1) (unhide hz)
  have hA' : Hid (PicOk W H l) := hide hA
  by_cases hB : ByOk dx
  rotate_left
  · have hz := hide (show movedOf W H l dx dy = [] by unfold movedOf; rw [if_neg (fun h => hB h.2.1)])
    have hB' : Hid ((decide (-10000000 ≤ dx) && decide (dx ≤ 10000000)) = false) := hide (by rw [← by_dec]; simpa using hB)
    clear hA hB
    go_enter Try.func32, Try.ntmps32
    go_wp2_with fail
    refine (ipic_any W H a cap l true _ (unhide hl') (unhide hk') ⟨fun _ => unhide hA', fun _ => rfl⟩).mono ?_
    rintro e w1 ⟨rfl, hb⟩
    have h1 := hide hb
    clear hb
    go_wp2_with fail
    refine (move_any dx _ _ (unhide hB')).mono ?_
    rintro e w2 ⟨rfl, hw2⟩
    have hw3 := hw2.symm
    subst hw3
    go_wp2
    go_ret
    exact unhide bad' w1 (unhide h1) (unhide hz)
  have hB' : Hid ((decide (-10000000 ≤ dx) && decide (dx ≤ 10000000)) = true) := hide (by rw [← by_dec]; simpa using hB)
  by_cases hC : ByOk dy
  rotate_left
  · have hz := hide (show movedOf W H l dx dy = [] by unfold movedOf; rw [if_neg (fun h => hC h.2.2)])
    have hC' : Hid ((decide (-10000000 ≤ dy) && decide (dy ≤ 10000000)) = false) := hide (by rw [← by_dec]; simpa using hC)
    clear hA hB hC
    go_enter Try.func32, Try.ntmps32
    go_wp2_with fail
    refine (ipic_any W H a cap l true _ (unhide hl') (unhide hk') ⟨fun _ => unhide hA', fun _ => rfl⟩).mono ?_
    rintro e w1 ⟨rfl, hb⟩
    have h1 := hide hb
    clear hb
    go_wp2_with fail
    refine (move_any dx _ _ (unhide hB')).mono ?_
    rintro e w2 ⟨rfl, hw2⟩
    have hw3 := hw2.symm
    subst hw3
    go_wp2_with fail
    refine (move_any dy _ _ (unhide hC')).mono ?_
    rintro e w2 ⟨rfl, hw2⟩
    have hw3 := hw2.symm
    subst hw3
    go_wp2
    go_ret
    exact unhide bad' w1 (unhide h1) (unhide hz)
  have hC' : Hid ((decide (-10000000 ≤ dy) && decide (dy ≤ 10000000)) = true) := hide (by rw [← by_dec]; simpa using hC)
  have hz := hide (show movedOf W H l dx dy = mvL W H l dx dy l.length by unfold movedOf; rw [if_pos ⟨hA, hB, hC⟩])
  obtain ⟨wn, rfl⟩ : ∃ wn : Nat, W = wn := ⟨W.toNat, by have := hA.1.1; omega⟩
  obtain ⟨hn, rfl⟩ : ∃ hn : Nat, H = hn := ⟨H.toNat, by have := hA.2.1.1; omega⟩
  have hw1 : 1 ≤ wn ∧ wn ≤ 64 := by have := hA.1; unfold SideOk at this; omega
  have hh1 : 1 ≤ hn ∧ hn ≤ 64 := by have := hA.2.1; unfold SideOk at this; omega
  have hln : l.length = wn * hn := by have := hA.2.2.1; rw [← Int.natCast_mul] at this; omega
  have hln' := hide hln
  have hl4 := pic_len hA
  obtain ⟨dx0, dx1⟩ := hB
  obtain ⟨dy0, dy1⟩ := hC
  obtain ⟨w0, w9⟩ := hw1
  obtain ⟨h0, h9⟩ := hh1
  clear hA hln bad'
  obtain ⟨i0, hi, hz0, hz1, hz2⟩ := info_parts info44
  go_enter Try.func32, Try.ntmps32
  go_wp2_with fail
  refine (ipic_any _ _ a cap l true _ (unhide hl') (unhide hk') ⟨fun _ => unhide hA', fun _ => rfl⟩).mono ?_
  rintro e w1 ⟨rfl, hb⟩
  have H1 := hide hb
  clear hb
  go_wp2_with fail
  refine (move_any dx _ _ (unhide hB')).mono ?_
  rintro e w2 ⟨rfl, hw2⟩
  have hw3 := hw2.symm
  subst hw3
  go_wp2_with fail
  refine (move_any dy _ _ (unhide hC')).mono ?_
  rintro e w2 ⟨rfl, hw2⟩
  have hw3 := hw2.symm
  subst hw3
  go_wp2_with (refine wpList_make_full _ rfl _ _ 32 rfl w1.heap.size 25 i0 _ 4 Try.underlying32 hi hz0 hz1 .i64 .i64 _ _ l.length rfl rfl rfl rfl ?b2 ?b3 (Nat.le_refl _) ?_)
  case b2 => rw [hz2]; omega
  case b3 => unfold maxLen; omega
  intro w2 hown hg
  have H2 : Hid (Below w.heap.size w w2) := hide ((unhide H1).grown hg (unhide H1).size (fun k hk => by cases hk))
  obtain ⟨g, hgg⟩ : ∃ g, w1.heap.size = g := ⟨_, rfl⟩
  have hWg : w.heap.size ≤ g := by rw [← hgg]; exact (unhide H1).size
  have hO : Hid (Own w2 w.heap.size g l.length l.length (mvM wn hn l dx dy l.length 0)) := hide (by
    have e : flK (mvM wn hn l dx dy l.length 0) = (madeCells #[.int .i64 0, .int .i64 0, .int .i64 0, .int .i64 0] (l.length * 4)).toList := by rw [made_flK, mvM_zero]
    show World.ownsRow _ _ _ _ _ _ _
    rw [e, ← hgg]; exact own_mono hown (unhide H1).size)
  rw [hgg]
  clear hown hg hgg H1
  have hnn : l.length = l.length := rfl
  go_wp2
  go_loopw [36] (fun t wr => ∃ y : Nat, y ≤ hn ∧ t = .int .i64 y ∧ Hid (Own wr w.heap.size g l.length l.length (mvM wn hn l dx dy l.length (y * wn))) ∧ Hid (Below w.heap.size w wr)) (fun t _ => hn - (intOf t).toNat)
  case atStart => exact ⟨0, by omega, rfl, by rw [Nat.zero_mul]; exact hO, H2⟩
  case round =>
    clear hO H2
    obtain ⟨y, hy, rfl, hO, hB⟩ := hrel
    by_cases hyl : y < hn
    · have hyw : Hid (y * wn + wn ≤ l.length) := hide (by rw [unhide hln']; exact (place_lt (x := 0) hyl (by omega)).2)
      go_wp2
      go_loopw [40] (fun t wr => ∃ x : Nat, x ≤ wn ∧ t = .int .i64 x ∧ Hid (Own wr w.heap.size g l.length l.length (mvM wn hn l dx dy l.length (y * wn + x))) ∧ Hid (Below w.heap.size w wr)) (fun t _ => wn - (intOf t).toNat)
      case atStart => exact ⟨0, by omega, rfl, hO, hB⟩
      case round =>
        clear hO hB
        obtain ⟨x, hx, rfl, hO, hB⟩ := hrel
        by_cases hxl : x < wn
        · have hyx := at_yx (y := y) hxl
          have hKl : y * wn + x < l.length := by have := unhide hyw; omega
          by_cases hX : 0 ≤ (x : Int) - dx ∧ (x : Int) - dx < wn
          rotate_left
          · have hno : ¬ InAt wn hn dx dy y x := fun h => hX h.1
            have hsame := mvM_same (w := wn) (h := hn) (l := l) (dx := dx) (dy := dy) hKl (by rw [hyx.1, hyx.2]; exact mvAt_out hno)
            have hX' : Hid ((decide (0 ≤ (x : Int) - dx) && decide ((x : Int) - dx < wn)) = false) := hide (by rw [Bool.eq_false_iff]; intro h; simp only [Bool.and_eq_true, decide_eq_true_iff] at h; exact hX h)
            have hnew : Hid (Own wr w.heap.size g l.length l.length (mvM wn hn l dx dy l.length (y * wn + (x + 1)))) := hide (by have := unhide hO; rw [hsame] at this; exact this)
            clear hX hno hsame hyx hKl hO
            go_wp2_with fail
            refine (within_any ((x : Int) - dx) wn _ _ (unhide hX')).mono ?_
            rintro e w3 ⟨rfl, hw4⟩
            have hw5 := hw4.symm
            subst hw5
            go_wp2
            go_roundw
            case rel => exact ⟨x + 1, by omega, by go_num, hnew, hB⟩
            case measure => simp [intOf]; omega
          have hX' : Hid ((decide (0 ≤ (x : Int) - dx) && decide ((x : Int) - dx < wn)) = true) := hide (by simp only [Bool.and_eq_true, decide_eq_true_iff]; exact hX)
          by_cases hY : 0 ≤ (y : Int) - dy ∧ (y : Int) - dy < hn
          rotate_left
          · have hno : ¬ InAt wn hn dx dy y x := fun h => hY h.2
            have hsame := mvM_same (w := wn) (h := hn) (l := l) (dx := dx) (dy := dy) hKl (by rw [hyx.1, hyx.2]; exact mvAt_out hno)
            have hY' : Hid ((decide (0 ≤ (y : Int) - dy) && decide ((y : Int) - dy < hn)) = false) := hide (by rw [Bool.eq_false_iff]; intro h; simp only [Bool.and_eq_true, decide_eq_true_iff] at h; exact hY h)
            have hnew : Hid (Own wr w.heap.size g l.length l.length (mvM wn hn l dx dy l.length (y * wn + (x + 1)))) := hide (by have := unhide hO; rw [hsame] at this; exact this)
            clear hX hY hno hsame hyx hKl hO
            go_wp2_with fail
            refine (within_any ((x : Int) - dx) wn _ _ (unhide hX')).mono ?_
            rintro e w3 ⟨rfl, hw4⟩
            have hw5 := hw4.symm
            subst hw5
            go_wp2_with fail
            refine (within_any ((y : Int) - dy) hn _ _ (unhide hY')).mono ?_
            rintro e w3 ⟨rfl, hw4⟩
            have hw5 := hw4.symm
            subst hw5
            go_wp2
            go_roundw
            case rel => exact ⟨x + 1, by omega, by go_num, hnew, hB⟩
            case measure => simp [intOf]; omega
          have hY' : Hid ((decide (0 ≤ (y : Int) - dy) && decide ((y : Int) - dy < hn)) = true) := hide (by simp only [Bool.and_eq_true, decide_eq_true_iff]; exact hY)
          obtain ⟨J, hJ, hJl, hP0, hP1⟩ := from_in (l := l) (unhide hln') (show InAt wn hn dx dy y x from ⟨hX, hY⟩)
          obtain ⟨b, o, z0, z1, z2, z3, rfl, hzJ, hbl, c0, c1, c2, c3⟩ := kls_at (unhide hk') (unhide hB) hJl
          have hval := mvAt_in (show InAt wn hn dx dy y x from ⟨hX, hY⟩) hJ hzJ
          have hset := mvM_set (w := wn) (h := hn) (l := l) (dx := dx) (dy := dy) hKl
          rw [hyx.1, hyx.2, hval] at hset
          have hml : y * wn + x < (mvM wn hn l dx dy l.length (y * wn + x)).length := by rw [mvM_len (by omega)]; exact hKl
          have hnew := hide (show _ from by have := own_put (x := (z0, z1, z2, z3)) hml (unhide hO); rw [hset] at this; exact this)
          obtain ⟨x0, x1, x2, x3⟩ := own_cells (List.getElem?_eq_getElem hml) (unhide hO)
          have f0 := (unhide hO).frozenAt ((y * wn + x) * 4)
          have f1 := (unhide hO).frozenAt ((y * wn + x) * 4 + 1)
          have f2 := (unhide hO).frozenAt ((y * wn + x) * 4 + 2)
          have f3 := (unhide hO).frozenAt ((y * wn + x) * 4 + 3)
          generalize (mvM wn hn l dx dy l.length (y * wn + x))[y * wn + x].1 = q0 at *
          generalize (mvM wn hn l dx dy l.length (y * wn + x))[y * wn + x].2.1 = q1 at *
          generalize (mvM wn hn l dx dy l.length (y * wn + x))[y * wn + x].2.2.1 = q2 at *
          generalize (mvM wn hn l dx dy l.length (y * wn + x))[y * wn + x].2.2.2 = q3 at *
          obtain ⟨P, hP⟩ : ∃ P, ((y : Int) - dy) * wn = P := ⟨_, rfl⟩
          have hwh : (wn : Int) * hn = l.length := by rw [← Int.natCast_mul, unhide hln']
          have m3 : IntKind.i64.wrap (((y : Int) - dy) * wn) = P := by rw [IntKind.wrap_i64, ← hP]; omega
          have m4 : IntKind.i64.wrap (P + ((x : Int) - dx)) = J := by rw [← hP, hJ, IntKind.wrap_i64]; omega
          obtain ⟨M, hM⟩ : ∃ M, (y : Int) * wn = M := ⟨_, rfl⟩
          have hM2 : M = ((y * wn : Nat) : Int) := by rw [Int.natCast_mul]; exact hM.symm
          have m1 : IntKind.i64.wrap ((y : Int) * wn) = M := by rw [IntKind.wrap_i64, hM, hM2]; omega
          obtain ⟨K, hK⟩ : ∃ K, y * wn + x = K := ⟨_, rfl⟩
          have m2 : IntKind.i64.wrap (M + (x : Int)) = K := by rw [IntKind.wrap_i64, hM2, ← hK]; omega
          have e1 : y * wn + (x + 1) = K + 1 := by omega
          simp only [hK] at hnew x0 x1 x2 x3 f0 f1 f2 f3 hKl
          have e1' := hide e1
          clear hX hY hyx hval hset hml hO hzJ hbl hP hP0 hP1 hM hM2 hK e1 hwh hJ
          go_wp2_with fail
          refine (within_any ((x : Int) - dx) wn _ _ (unhide hX')).mono ?_
          rintro e w3 ⟨rfl, hw4⟩
          have hw5 := hw4.symm
          subst hw5
          go_wp2_with fail
          refine (within_any ((y : Int) - dy) hn _ _ (unhide hY')).mono ?_
          rintro e w3 ⟨rfl, hw4⟩
          have hw5 := hw4.symm
          subst hw5
          go_wp2
          go_roundw
          case rel => exact ⟨x + 1, by omega, by go_num, by rw [unhide e1']; exact hnew, hide (((((unhide hB).setCell hWg _).setCell hWg _).setCell hWg _).setCell hWg _)⟩
          case measure => simp [intOf]; omega
        · have hxe : x = wn := by omega
          have hnew : Hid (Own wr w.heap.size g l.length l.length (mvM wn hn l dx dy l.length ((y + 1) * wn))) := hide (by have := unhide hO; rw [hxe] at this; rw [Nat.add_mul, Nat.one_mul]; exact this)
          clear hO
          go_wp2
          go_roundw
          case rel => exact ⟨y + 1, by omega, by go_num, hnew, hB⟩
          case measure => simp [intOf]; omega
    · have hye : y = hn := by omega
      go_wp2
      go_ret
      rw [unhide hz]
      have hO2 := unhide hO
      rw [hye, Nat.mul_comm, ← unhide hln', mvM_all] at hO2
      refine ⟨g, l.length, ?_, hWg, ?_, unhide hB⟩
      · rw [mvL_len]; rfl
      · rw [mvL_len]; exact hO2

end Go.Proofs.Yteabmbggljpmoaa
