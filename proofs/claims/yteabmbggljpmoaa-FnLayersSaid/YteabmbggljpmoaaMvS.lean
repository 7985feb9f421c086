/-
  Contract of the model's moved picture: its answer is memory of its own; nothing that was there is written.
-/
import Derived.Test.YteabmbggljpmoaaMvJ
namespace Go.Proofs.Yteabmbggljpmoaa
open Go.RowKit
set_option linter.unusedVariables false
set_option linter.unusedSimpArgs false

set_option maxHeartbeats 3200000 in
theorem smv_any (W H : Int) (a : Option Addr) (cap : Nat) (l : List Kl) (dx dy : Int) (w : World) (hl : l.length ≤ maxLen) (hk : Kls w a l) :
    Calls Try.prog 33 #[.int .i64 W, .int .i64 H, .slice a l.length cap, .int .i64 dx, .int .i64 dy] w (MvR w (movedOf W H l dx dy)) := by
  have hk' := hide hk
  have hl' := hide hl
  clear hk
  unfold maxLen at hl
  have bad : ∀ w1 : World, Below (w.alloc (.cells #[] 25)).heap.size (w.alloc (.cells #[] 25)) w1 → movedOf W H l dx dy = [] → MvR w (movedOf W H l dx dy) (.returned (.slice (some ⟨w.heap.size, 0, none⟩) 0 0)) w1 := by
    intro w1 hb he
    rw [he]
    exact ⟨w.heap.size, 0, rfl, Nat.le_refl _, ownsRow_below (own_lit0 w (Nat.le_refl _)) hb, ((Below.refl _ _).alloc (Nat.le_refl _) _).trans (hb.mono (by simp))⟩
  have bad' := hide bad
  clear bad
  by_cases hA : SideOk W
  rotate_left
  · have hz := hide (show movedOf W H l dx dy = [] by unfold movedOf; rw [if_neg (fun h => hA h.1.1)])
    have hA' : Hid ((decide (1 ≤ W) && decide (W ≤ 64)) = false) := hide (by rw [← side_dec]; simpa using hA)
    clear hA
    go_enter Try.func33, Try.ntmps33
    go_wp2_with fail
    refine (in_any _ 1 64 _ _ (unhide hA')).mono ?_
    rintro e w1 ⟨rfl, hw1⟩
    have hw2 := hw1.symm
    subst hw2
    go_wp2
    go_ret
    exact unhide bad' _ (Below.refl _ _) (unhide hz)
  have hA' : Hid ((decide (1 ≤ W) && decide (W ≤ 64)) = true) := hide (by rw [← side_dec]; simpa using hA)
  by_cases hB : SideOk H
  rotate_left
  · have hz := hide (show movedOf W H l dx dy = [] by unfold movedOf; rw [if_neg (fun h => hB h.1.2.1)])
    have hB' : Hid ((decide (1 ≤ H) && decide (H ≤ 64)) = false) := hide (by rw [← side_dec]; simpa using hB)
    clear hA hB
    go_enter Try.func33, Try.ntmps33
    go_wp2_with fail
    refine (in_any _ 1 64 _ _ (unhide hA')).mono ?_
    rintro e w1 ⟨rfl, hw1⟩
    have hw2 := hw1.symm
    subst hw2
    go_wp2_with fail
    refine (in_any _ 1 64 _ _ (unhide hB')).mono ?_
    rintro e w1 ⟨rfl, hw1⟩
    have hw2 := hw1.symm
    subst hw2
    go_wp2
    go_ret
    exact unhide bad' _ (Below.refl _ _) (unhide hz)
  have hB' : Hid ((decide (1 ≤ H) && decide (H ≤ 64)) = true) := hide (by rw [← side_dec]; simpa using hB)
  obtain ⟨M, hM⟩ : ∃ M, W * H = M := ⟨_, rfl⟩
  have hMw : IntKind.i64.wrap (W * H) = M := by
    have := mul_nn (u := W) (v := H) (a := 64) (b := 64) ⟨by have := hA.1; omega, hA.2⟩ ⟨by have := hB.1; omega, hB.2⟩
    rw [IntKind.wrap_i64, ← hM]; omega
  by_cases hC : (l.length : Int) = M
  rotate_left
  · have hC' : ((l.length : Int) != M) = true := by simpa using hC
    have hz := hide (show movedOf W H l dx dy = [] by unfold movedOf; rw [if_neg (fun h => hC (by rw [← hM]; exact h.1.2.2.1))])
    clear hA hB hM hC
    go_enter Try.func33, Try.ntmps33
    go_wp2_with fail
    refine (in_any _ 1 64 _ _ (unhide hA')).mono ?_
    rintro e w1 ⟨rfl, hw1⟩
    have hw2 := hw1.symm
    subst hw2
    go_wp2_with fail
    refine (in_any _ 1 64 _ _ (unhide hB')).mono ?_
    rintro e w1 ⟨rfl, hw1⟩
    have hw2 := hw1.symm
    subst hw2
    go_wp2
    go_ret
    exact unhide bad' _ (Below.refl _ _) (unhide hz)
  have hC' : ((l.length : Int) != M) = false := by simpa using hC
  by_cases hD : ByOk dx
  rotate_left
  · have hz := hide (show movedOf W H l dx dy = [] by unfold movedOf; rw [if_neg (fun h => hD h.2.1)])
    have hD' : Hid ((decide (-10000000 ≤ dx) && decide (dx ≤ 10000000)) = false) := hide (by rw [← by_dec]; simpa using hD)
    clear hA hB hD hM hC
    go_enter Try.func33, Try.ntmps33
    go_wp2_with fail
    refine (in_any _ 1 64 _ _ (unhide hA')).mono ?_
    rintro e w1 ⟨rfl, hw1⟩
    have hw2 := hw1.symm
    subst hw2
    go_wp2_with fail
    refine (in_any _ 1 64 _ _ (unhide hB')).mono ?_
    rintro e w1 ⟨rfl, hw1⟩
    have hw2 := hw1.symm
    subst hw2
    go_wp2_with fail
    refine (by_any _ _ _ (unhide hD')).mono ?_
    rintro e w1 ⟨rfl, hw1⟩
    have hw2 := hw1.symm
    subst hw2
    go_wp2
    go_ret
    exact unhide bad' _ (Below.refl _ _) (unhide hz)
  have hD' : Hid ((decide (-10000000 ≤ dx) && decide (dx ≤ 10000000)) = true) := hide (by rw [← by_dec]; simpa using hD)
  by_cases hE : ByOk dy
  rotate_left
  · have hz := hide (show movedOf W H l dx dy = [] by unfold movedOf; rw [if_neg (fun h => hE h.2.2)])
    have hE' : Hid ((decide (-10000000 ≤ dy) && decide (dy ≤ 10000000)) = false) := hide (by rw [← by_dec]; simpa using hE)
    clear hA hB hD hE hM hC
    go_enter Try.func33, Try.ntmps33
    go_wp2_with fail
    refine (in_any _ 1 64 _ _ (unhide hA')).mono ?_
    rintro e w1 ⟨rfl, hw1⟩
    have hw2 := hw1.symm
    subst hw2
    go_wp2_with fail
    refine (in_any _ 1 64 _ _ (unhide hB')).mono ?_
    rintro e w1 ⟨rfl, hw1⟩
    have hw2 := hw1.symm
    subst hw2
    go_wp2_with fail
    refine (by_any _ _ _ (unhide hD')).mono ?_
    rintro e w1 ⟨rfl, hw1⟩
    have hw2 := hw1.symm
    subst hw2
    go_wp2_with fail
    refine (by_any _ _ _ (unhide hE')).mono ?_
    rintro e w1 ⟨rfl, hw1⟩
    have hw2 := hw1.symm
    subst hw2
    go_wp2
    go_ret
    exact unhide bad' _ (Below.refl _ _) (unhide hz)
  have hE' : Hid ((decide (-10000000 ≤ dy) && decide (dy ≤ 10000000)) = true) := hide (by rw [← by_dec]; simpa using hE)
  have hyes : Hid (CsOk l → movedOf W H l dx dy = mvL W H l dx dy l.length) := hide (fun h => by unfold movedOf; rw [if_pos ⟨⟨hA, hB, by rw [hM]; exact hC, h⟩, hD, hE⟩])
  have hnop : Hid (∀ j c, l[j]? = some c → ¬ Pix c → movedOf W H l dx dy = []) := hide (fun j c hj hc => by unfold movedOf; rw [if_neg (fun h => csno hj hc h.1.2.2.2)])
  obtain ⟨wn, rfl⟩ : ∃ wn : Nat, W = wn := ⟨W.toNat, by have := hA.1; omega⟩
  obtain ⟨hn, rfl⟩ : ∃ hn : Nat, H = hn := ⟨H.toNat, by have := hB.1; omega⟩
  have hw1 : 1 ≤ wn ∧ wn ≤ 64 := by unfold SideOk at hA; omega
  have hh1 : 1 ≤ hn ∧ hn ≤ 64 := by unfold SideOk at hB; omega
  have hln : l.length = wn * hn := by rw [← hM, ← Int.natCast_mul] at hC; omega
  have hl4 : l.length ≤ 4096 := by rw [hln]; exact Nat.mul_le_mul hw1.2 hh1.2
  have hln' := hide hln
  obtain ⟨dx0, dx1⟩ := hD
  obtain ⟨dy0, dy1⟩ := hE
  obtain ⟨w0, w9⟩ := hw1
  obtain ⟨h0, h9⟩ := hh1
  clear hA hB hM hC hln hl
  go_enter Try.func33, Try.ntmps33
  go_wp2_with fail
  refine (in_any _ 1 64 _ _ (unhide hA')).mono ?_
  rintro e w1 ⟨rfl, hw1⟩
  have hw2 := hw1.symm
  subst hw2
  go_wp2_with fail
  refine (in_any _ 1 64 _ _ (unhide hB')).mono ?_
  rintro e w1 ⟨rfl, hw1⟩
  have hw2 := hw1.symm
  subst hw2
  go_wp2_with fail
  refine (by_any _ _ _ (unhide hD')).mono ?_
  rintro e w1 ⟨rfl, hw1⟩
  have hw2 := hw1.symm
  subst hw2
  go_wp2_with fail
  refine (by_any _ _ _ (unhide hE')).mono ?_
  rintro e w1 ⟨rfl, hw1⟩
  have hw2 := hw1.symm
  subst hw2
  go_wp2
  go_loopw [12] (fun t wr => ∃ k : Nat, k ≤ l.length ∧ t = .int .i64 k ∧ Hid (CsPre l k) ∧ Hid (Below (w.alloc (.cells #[] 25)).heap.size (w.alloc (.cells #[] 25)) wr)) (fun t _ => l.length - (intOf t).toNat)
  case atStart => exact ⟨0, by omega, rfl, hide (CsPre.zero l), hide (Below.refl _ _)⟩
  case round =>
    obtain ⟨k, hk, rfl, hA, hw⟩ := hrel
    have hw0 : Hid (Below w.heap.size w wr) := hide (((Below.refl _ _).alloc (Nat.le_refl _) _).trans ((unhide hw).mono (by simp)))
    by_cases hlt : k < l.length
    · obtain ⟨b, o, x, y, z, u, rfl, hx, hbl, c0, c1, c2, c3⟩ := kls_at (unhide hk') (unhide hw0) hlt
      have hx' := hide hx
      clear hx hbl hw0
      by_cases f0 : Pix (x, y, z, u)
      · have hS := hide (decide_eq_true f0)
        have hnew := hide ((unhide hA).step (unhide hx') f0)
        clear f0 hA
        go_wp2_with fail
        refine (spx_any x y z u true _ (unhide hS)).mono ?_
        rintro e w1 ⟨rfl, hb⟩
        have hw1 := hide ((unhide hw).trans (hb.mono (unhide hw).size))
        clear hb hw
        go_wp2
        go_roundw
        case rel => exact ⟨k + 1, by omega, by go_num, hnew, hw1⟩
        case measure => simp [intOf]; omega
      · have hS := hide (decide_eq_false f0)
        have hz := hide (unhide hnop _ _ (unhide hx') f0)
        clear f0 hA
        go_wp2_with fail
        refine (spx_any x y z u false _ (unhide hS)).mono ?_
        rintro e w1 ⟨rfl, hb⟩
        have hw1 := hide ((unhide hw).trans (hb.mono (unhide hw).size))
        clear hb hw
        go_wp2
        go_ret
        exact unhide bad' _ (unhide hw1) (unhide hz)
    · have hke : k = l.length := by omega
      have hz := hide (unhide hyes (CsPre.all (by have := unhide hA; rw [hke] at this; exact this)))
      have hO1 : Hid (Own wr w.heap.size w.heap.size 0 0 (mvL wn hn l dx dy 0)) := hide (ownsRow_below (own_lit0 w (Nat.le_refl _)) (unhide hw))
      have hg0 : w.heap.size < wr.heap.size := by have := (unhide hw).size; simp at this; omega
      clear hA hw hyes hnop hke hk
      go_wp2
      go_loopw [11, 13] (fun s t wr => ∃ (y g cp : Nat), y ≤ hn ∧ t = .int .i64 y ∧ s = .slice (some ⟨g, 0, none⟩) (y * wn) cp ∧ Hid (Own wr w.heap.size g (y * wn) cp (mvL wn hn l dx dy (y * wn))) ∧ w.heap.size ≤ g ∧ g < wr.heap.size ∧ Hid (Below w.heap.size w wr)) (fun _ t _ => hn - (intOf t).toNat)
      case atStart => exact ⟨0, w.heap.size, 0, by omega, rfl, by rw [Nat.zero_mul], by rw [Nat.zero_mul]; exact hO1, Nat.le_refl _, hg0, hw0⟩
      case round =>
        clear hO1 hg0 hw0
        obtain ⟨y, g, cp, hy, rfl, rfl, hO, hWg, hgl, hB⟩ := hrel
        by_cases hyl : y < hn
        · have hyw : Hid (y * wn + wn ≤ l.length) := hide (by rw [unhide hln']; exact (place_lt (x := 0) hyl (by omega)).2)
          go_wp2
          go_loopw [11, 14] (fun s t wr => ∃ (x g cp : Nat), x ≤ wn ∧ t = .int .i64 x ∧ s = .slice (some ⟨g, 0, none⟩) (y * wn + x) cp ∧ Hid (Own wr w.heap.size g (y * wn + x) cp (mvL wn hn l dx dy (y * wn + x))) ∧ w.heap.size ≤ g ∧ g < wr.heap.size ∧ Hid (Below w.heap.size w wr)) (fun _ t _ => wn - (intOf t).toNat)
          case atStart => exact ⟨0, g, cp, by omega, rfl, rfl, hO, hWg, hgl, hB⟩
          case round =>
            clear hO hB hWg hgl
            obtain ⟨x, g, cp, hx, rfl, rfl, hO, hWg, hgl, hB⟩ := hrel
            by_cases hxl : x < wn
            · have hyx := at_yx (y := y) hxl
              have hKl : y * wn + x < l.length := by have := unhide hyw; omega
              by_cases hX : 0 ≤ (x : Int) - dx ∧ (x : Int) - dx < wn
              rotate_left
              · have hval : Hid (mvAt wn hn l dx dy (((y * wn + x : Nat) : Int) / wn) (((y * wn + x : Nat) : Int) % wn) = (0, 0, 0, 0)) := hide (by rw [hyx.1, hyx.2]; exact mvAt_out (fun h => hX h.1))
                have hX' : Hid ((decide (0 ≤ (x : Int) - dx) && decide ((x : Int) - dx ≤ (wn : Int) - 1)) = false) := hide (by rw [Bool.eq_false_iff]; intro h; simp only [Bool.and_eq_true, decide_eq_true_iff] at h; exact hX ⟨h.1, by omega⟩)
                have e1 : y * wn + (x + 1) = y * wn + x + 1 := by omega
                obtain ⟨K, hK⟩ : ∃ K, y * wn + x = K := ⟨_, rfl⟩
                simp only [hK] at hval e1 hO hKl ⊢
                have e1' := hide e1
                clear hX hyx hK e1
                go_wp2_with fail
                refine (in_any ((x : Int) - dx) 0 ((wn : Int) - 1) _ _ (unhide hX')).mono ?_
                rintro e w3 ⟨rfl, hw4⟩
                have hw5 := hw4.symm
                subst hw5
                go_wp2_with (at_builtin; refine wpList_kN Try.underlying32 (B := w.heap.size) (C := wr.heap.size) (wr := wr) (g := g) (n := K) (cap := cp) (L := mvL wn hn l dx dy K) rfl _ _ rfl rfl (unhide hO) (hX := by repeat first | exact Below.refl _ _ | refine Below.setCell ?_ (by simp <;> omega) _ | refine Below.alloc ?_ (by simp <;> omega) _) hgl (wr.heap.size + 1) (by simp) rfl (by omega) (by omega) (by omega) ?_)
                intro g' cp' w' ho hbB hge hlt
                have hO2 : Hid (Own w' w.heap.size g' (K + 1) cp' (mvL wn hn l dx dy (K + 1))) := hide (by rw [mvL_snoc, unhide hval]; exact ho)
                have hB2 : Hid (Below w.heap.size w w') := hide ((unhide hB).trans hbB)
                clear ho hbB
                go_wp2
                go_roundw
                case rel => exact ⟨x + 1, g', cp', by omega, by go_num, by rw [unhide e1'], by rw [unhide e1']; exact hO2, hge, hlt, hB2⟩
                case measure => simp [intOf]; omega
              have hX' : Hid ((decide (0 ≤ (x : Int) - dx) && decide ((x : Int) - dx ≤ (wn : Int) - 1)) = true) := hide (by simp only [Bool.and_eq_true, decide_eq_true_iff]; exact ⟨hX.1, by omega⟩)
              by_cases hY : 0 ≤ (y : Int) - dy ∧ (y : Int) - dy < hn
              rotate_left
              · have hval : Hid (mvAt wn hn l dx dy (((y * wn + x : Nat) : Int) / wn) (((y * wn + x : Nat) : Int) % wn) = (0, 0, 0, 0)) := hide (by rw [hyx.1, hyx.2]; exact mvAt_out (fun h => hY h.2))
                have hY' : Hid ((decide (0 ≤ (y : Int) - dy) && decide ((y : Int) - dy ≤ (hn : Int) - 1)) = false) := hide (by rw [Bool.eq_false_iff]; intro h; simp only [Bool.and_eq_true, decide_eq_true_iff] at h; exact hY ⟨h.1, by omega⟩)
                have e1 : y * wn + (x + 1) = y * wn + x + 1 := by omega
                obtain ⟨K, hK⟩ : ∃ K, y * wn + x = K := ⟨_, rfl⟩
                simp only [hK] at hval e1 hO hKl ⊢
                have e1' := hide e1
                clear hX hY hyx hK e1
                go_wp2_with fail
                refine (in_any ((x : Int) - dx) 0 ((wn : Int) - 1) _ _ (unhide hX')).mono ?_
                rintro e w3 ⟨rfl, hw4⟩
                have hw5 := hw4.symm
                subst hw5
                go_wp2_with fail
                refine (in_any ((y : Int) - dy) 0 ((hn : Int) - 1) _ _ (unhide hY')).mono ?_
                rintro e w3 ⟨rfl, hw4⟩
                have hw5 := hw4.symm
                subst hw5
                go_wp2_with (at_builtin; refine wpList_kN Try.underlying32 (B := w.heap.size) (C := wr.heap.size) (wr := wr) (g := g) (n := K) (cap := cp) (L := mvL wn hn l dx dy K) rfl _ _ rfl rfl (unhide hO) (hX := by repeat first | exact Below.refl _ _ | refine Below.setCell ?_ (by simp <;> omega) _ | refine Below.alloc ?_ (by simp <;> omega) _) hgl (wr.heap.size + 1) (by simp) rfl (by omega) (by omega) (by omega) ?_)
                intro g' cp' w' ho hbB hge hlt
                have hO2 : Hid (Own w' w.heap.size g' (K + 1) cp' (mvL wn hn l dx dy (K + 1))) := hide (by rw [mvL_snoc, unhide hval]; exact ho)
                have hB2 : Hid (Below w.heap.size w w') := hide ((unhide hB).trans hbB)
                clear ho hbB
                go_wp2
                go_roundw
                case rel => exact ⟨x + 1, g', cp', by omega, by go_num, by rw [unhide e1'], by rw [unhide e1']; exact hO2, hge, hlt, hB2⟩
                case measure => simp [intOf]; omega
              have hY' : Hid ((decide (0 ≤ (y : Int) - dy) && decide ((y : Int) - dy ≤ (hn : Int) - 1)) = true) := hide (by simp only [Bool.and_eq_true, decide_eq_true_iff]; exact ⟨hY.1, by omega⟩)
              obtain ⟨J, hJ, hJl, hP0, hP1⟩ := from_in (l := l) (unhide hln') (show InAt wn hn dx dy y x from ⟨hX, hY⟩)
              obtain ⟨b, o, z0, z1, z2, z3, rfl, hzJ, hbl, c0, c1, c2, c3⟩ := kls_at (unhide hk') (unhide hB) hJl
              have hb2 : b < wr.heap.size := Nat.lt_of_lt_of_le hbl (unhide hB).size
              have hval : Hid (mvAt wn hn l dx dy (((y * wn + x : Nat) : Int) / wn) (((y * wn + x : Nat) : Int) % wn) = (z0, z1, z2, z3)) := hide (by rw [hyx.1, hyx.2]; exact mvAt_in (show InAt wn hn dx dy y x from ⟨hX, hY⟩) hJ hzJ)
              obtain ⟨P, hP⟩ : ∃ P, ((y : Int) - dy) * wn = P := ⟨_, rfl⟩
              have hwh : (wn : Int) * hn = l.length := by rw [← Int.natCast_mul, unhide hln']
              have m3 : IntKind.i64.wrap (((y : Int) - dy) * wn) = P := by rw [IntKind.wrap_i64, ← hP]; omega
              obtain ⟨P2, hP2⟩ : ∃ P2, P + (x : Int) = P2 := ⟨_, rfl⟩
              have m4 : IntKind.i64.wrap (P + (x : Int)) = P2 := by rw [IntKind.wrap_i64, hP2, ← hP2, ← hP]; omega
              have m5 : IntKind.i64.wrap (P2 - dx) = J := by rw [IntKind.wrap_i64, ← hP2, ← hP]; omega
              have e1 : y * wn + (x + 1) = y * wn + x + 1 := by omega
              obtain ⟨K, hK⟩ : ∃ K, y * wn + x = K := ⟨_, rfl⟩
              simp only [hK] at hval e1 hO hKl ⊢
              have e1' := hide e1
              clear hX hY hyx hK e1 hP hP0 hP1 hP2 hwh hJ hzJ hbl
              go_wp2_with fail
              refine (in_any ((x : Int) - dx) 0 ((wn : Int) - 1) _ _ (unhide hX')).mono ?_
              rintro e w3 ⟨rfl, hw4⟩
              have hw5 := hw4.symm
              subst hw5
              go_wp2_with fail
              refine (in_any ((y : Int) - dy) 0 ((hn : Int) - 1) _ _ (unhide hY')).mono ?_
              rintro e w3 ⟨rfl, hw4⟩
              have hw5 := hw4.symm
              subst hw5
              go_wp2_with (at_builtin; refine wpList_kN Try.underlying32 (B := w.heap.size) (C := wr.heap.size) (wr := wr) (g := g) (n := K) (cap := cp) (L := mvL wn hn l dx dy K) rfl _ _ rfl rfl (unhide hO) (hX := by repeat first | exact Below.refl _ _ | refine Below.setCell ?_ (by simp <;> omega) _ | refine Below.alloc ?_ (by simp <;> omega) _) hgl (wr.heap.size + 1) (by simp) rfl (by omega) (by omega) (by omega) ?_)
              intro g' cp' w' ho hbB hge hlt
              have hO2 : Hid (Own w' w.heap.size g' (K + 1) cp' (mvL wn hn l dx dy (K + 1))) := hide (by rw [mvL_snoc, unhide hval]; exact ho)
              have hB2 : Hid (Below w.heap.size w w') := hide ((unhide hB).trans hbB)
              clear ho hbB
              go_wp2
              go_roundw
              case rel => exact ⟨x + 1, g', cp', by omega, by go_num, by rw [unhide e1'], by rw [unhide e1']; exact hO2, hge, hlt, hB2⟩
              case measure => simp [intOf]; omega
            · have hxe : x = wn := by omega
              have en : y * wn + x = (y + 1) * wn := by rw [hxe, Nat.add_mul, Nat.one_mul]
              rw [en] at hO ⊢
              clear en
              go_wp2
              go_roundw
              case rel => exact ⟨y + 1, g, cp, by omega, by go_num, rfl, hO, hWg, hgl, hB⟩
              case measure => simp [intOf]; omega
        · have hye : y = hn := by omega
          have en : y * wn = l.length := by rw [hye, unhide hln', Nat.mul_comm]
          rw [en] at hO ⊢
          clear en
          go_wp2
          go_ret
          rw [unhide hz]
          refine ⟨g, cp, ?_, hWg, ?_, unhide hB⟩
          · rw [mvL_len]; rfl
          · rw [mvL_len]; exact unhide hO

end Go.Proofs.Yteabmbggljpmoaa
