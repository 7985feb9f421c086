/-
  The reading of titles by the model; nothing that was there is written.
-/
import Derived.Test.YtcpllfjhhlbmiaaDoorRdK
import Derived.Lib.OwnKind
import Derived.BigQuiet
namespace Go.Proofs.YtcpllfjhhlbmiaaDoor
open Go.RowKit
set_option linter.unusedVariables false
set_option linter.unusedSimpArgs false

theorem ext_v {L v : List UInt8} {A b : Nat} (h : v ++ [10] = (L.take b).drop A) (hb : b ≤ L.length) : (L.take (b - 1)).drop A = v ∧ A < b := by
  have hl := congrArg List.length h
  simp only [List.length_append, List.length_cons, List.length_nil, List.length_drop, List.length_take] at hl
  refine ⟨?_, by omega⟩
  rw [List.drop_take] at h ⊢
  have h2 := congrArg (List.take v.length) h
  rw [List.take_left, List.take_take] at h2
  rw [h2]
  congr 1
  omega
theorem nil_ws {L : List UInt8} {A b : Nat} (h : [] = (L.take b).drop A) (hA : A ≤ b) (hb : b ≤ L.length) : b = A := by
  have hl := congrArg List.length h
  simp only [List.length_nil, List.length_drop, List.length_take] at hl
  omega
theorem more_ws {L ws z r : List UInt8} {A b A3 : Nat} (h : ws = (L.take b).drop A) (hc : cutN (L.drop b) = some (z, r)) (h3 : b + z.length + 1 = A3) (hA : A ≤ b) : ws ++ z ++ [10] = (L.take A3).drop A := by
  have hp := cutN_parts hc
  have hl := cutN_len hc
  rw [List.length_drop] at hl
  have e1 : L.take A3 = L.take b ++ (z ++ [10]) := by
    have : L = L.take b ++ (z ++ 10 :: r) := by rw [← hp, List.take_append_drop]
    have hbl : (L.take b).length = b := by rw [List.length_take]; omega
    conv => lhs; rw [this]
    rw [List.take_append, hbl, List.take_of_length_le (l := L.take b) (by omega), show A3 - b = (z ++ [10]).length by simp; omega]
    congr 1
    rw [show z ++ 10 :: r = (z ++ [10]) ++ r by simp, List.take_left]
  rw [e1, List.drop_append, ← h, show A - (L.take b).length = 0 by rw [List.length_take]; omega, List.append_assoc]
  rfl
theorem Rd.push {w W Y : World} {g c f t g' c' : Nat} {acc P : List Kl} {k n x y : Int} {s : ByteArray} {o : Obj} (h : Rd w g c f t acc k n x y s W) (ho : Own Y (w.heap.size + 1) g' P.length c' P) (hg : (W.alloc o).grownBy Y (some g)) :
    Own Y (w.heap.size + 1) g' P.length c' P ∧ Below w.heap.size w Y ∧ Y.heap[w.heap.size]? = some (.cells #[.int .i64 0, .int .i64 0] 28 (0, 0)) := by
  have hge := own_ge h.rm.own
  have B1 := h.rm.bel.alloc h.rm.bel.size o
  have R1 := blk_below h.rm.res ((Below.refl _ _).alloc (Nat.le_refl _) o)
  refine ⟨ho, B1.grown hg B1.size (fun k hk => by injection hk with hk; omega), ?_⟩
  rw [hg.block w.heap.size (lt_blk R1) (by intro e; injection e with e; omega)]
  exact R1
set_option maxRecDepth 100000 in
set_option maxHeartbeats 6400000 in
theorem srd_any (s : ByteArray) (L : List UInt8) (l : List Kl) (k n : Int) (w : World) (hs : s.size ≤ 1048576) (hL : s.data.toList = L) (hR : rdT L = (l, k, n)) :
    Calls Tryd.prog 12 #[.string s] w fun e w' => ∃ g c, e = .returned (.tuple #[.slice (some ⟨g, 0, none⟩) l.length c, fa k n]) ∧ l.length ≤ 200 ∧ Own w' w.heap.size g l.length c l ∧ Below w.heap.size w w' := by
  have hsz : s.size = L.length := by rw [Lib.size_eq, hL]
  by_cases hb : 40000 < L.length
  · unfold rdT at hR
    rw [if_pos hb] at hR
    simp only [Prod.mk.injEq] at hR
    obtain ⟨rfl, rfl, rfl⟩ := hR
    have g0 : decide ((40000 : Int) < (s.size : Int)) = true := decide_eq_true (by omega)
    have O9 := own_lit0 (w.alloc (.cells #[.int .i64 1, .int .i64 0] 28)) (B := w.heap.size) (by simp)
    rw [show (w.alloc (.cells #[.int .i64 1, .int .i64 0] 28)).heap.size = w.heap.size + 1 by simp] at O9
    have O9 := hide O9
    have B9 := hide (((Below.refl w.heap.size w).alloc (Nat.le_refl _) (.cells #[.int .i64 1, .int .i64 0] 28)).alloc (by simp) (.cells #[] 32))
    clear hsz hL
    go_enter Tryd.func12, Tryd.ntmps12
    go_wp2
    exact bodyPost_ret (v := .tuple #[.slice (some ⟨w.heap.size + 1, 0, none⟩) 0 0, fa 1 0]) (by simp [results, Tryd.results12, go_sem]) rfl ⟨_, _, rfl, by simp, unhide O9, unhide B9⟩
  have hbig := hb
  have g0 : decide ((40000 : Int) < (s.size : Int)) = false := decide_eq_false (by omega)
  have hR := hide hR
  have hL' := hide hL
  have hsz' := hide hsz
  obtain ⟨R, hE⟩ : ∃ R, rdF (L.length + 1) [] 0 L = R := ⟨_, rfl⟩
  have hL0 := hide (hE ▸ l0_begin L : L0 R [] 0 L)
  have hE := hide hE
  have z1 : (w.alloc (.cells #[.int .i64 0, .int .i64 0] 28)).heap.size = w.heap.size + 1 := by simp
  have O0 := own_lit0 (w.alloc (.cells #[.int .i64 0, .int .i64 0] 28)) (B := w.heap.size + 1) (by omega)
  rw [z1] at O0
  have O0 := hide O0
  have B0 := hide (((Below.refl w.heap.size w).alloc (Nat.le_refl _) (.cells #[.int .i64 0, .int .i64 0] 28)).alloc (by omega) (.cells #[] 32))
  have Q0 := hide (blk_below (alloc_new w (.cells #[.int .i64 0, .int .i64 0] 28)) ((Below.refl _ _).alloc (Nat.le_refl _) (.cells #[] 32)))
  clear hb hsz hL z1
  go_enter Tryd.func12, Tryd.ntmps12
  go_wp2
  go_loopw [4, 5] (fun u t wr => ∃ (a g c : Nat) (acc : List Kl), a ≤ s.size ∧ t = .int .i64 a ∧ u = .slice (some ⟨g, 0, none⟩) acc.length c ∧ acc.length ≤ 200 ∧ Hid (L0 R acc (endOf 0 acc) (L.drop a)) ∧ Hid (Own wr (w.heap.size + 1) g acc.length c acc) ∧ Hid (Below w.heap.size w wr) ∧ Hid (wr.heap[w.heap.size]? = some (.cells #[.int .i64 0, .int .i64 0] 28 (0, 0)))) (fun _ t _ => s.size - (intOf t).toNat)
  case atStart => exact ⟨0, _, _, [], by omega, rfl, rfl, by simp, hL0, O0, B0, Q0⟩
  case round =>
    clear O0 B0 Q0 hL0
    obtain ⟨a, g, c, acc, ha, rfl, rfl, hn, hJ, hO, hB, hQ⟩ := hrel
    by_cases hlt : a < s.size
    · have hlt2 : decide ((a : Int) < (s.size : Int)) = true := decide_eq_true (by omega)
      obtain ⟨s1, a1, k1, h1⟩ : ∃ x y z, lnP L a = (x, y, z) := ⟨_, _, _, rfl⟩
      have c1 := hide (fun w => sline_any s s1 L a a1 k1 w hs (unhide hL') ha h1)
      have hne : L.drop a ≠ [] := by
        intro e
        have := congrArg List.length e
        rw [List.length_drop] at this
        have := unhide hsz'
        simp at *
        omega
      have S := hide (Rm.begin (n := acc.length) (unhide hO) (unhide hB) (unhide hQ))
      clear hO hB hQ
      go_wp2_with fail
      refine (unhide c1 _).mono ?_
      rintro e w1 ⟨rfl, rfl⟩
      clear c1
      generalize wr.alloc (.cells #[.int .i64 0, .int .i64 acc.length] 28) = W1 at *
      generalize wr.heap.size = f at *
      cases hc1 : cutN (L.drop a) with
      | none =>
        rw [ln_none hc1] at h1
        simp only [Prod.mk.injEq] at h1
        obtain ⟨rfl, rfl, rfl⟩ := h1
        have hF := hide ((unhide hE).trans (l0_none (unhide hJ) hne hc1))
        obtain ⟨rfl, rfl, rfl⟩ := fault_of hbig (unhide hR) (unhide hF) (by decide)
        obtain ⟨m0, m1⟩ := blk2 (unhide S).flt
        have mf := Lib.frozen_of_heap (unhide S).flt 0
        go_wp2_with fail
        have S := hide ((unhide S).code (k' := 2))
        generalize World.setCell _ ⟨f, 0, none⟩ (.int .i64 2) = W2 at *
        clear m0 m1 mf
        obtain ⟨m0, m1⟩ := blk2 (unhide S).flt
        obtain ⟨r0, r1⟩ := blk2 (unhide S).res
        have rf0 := Lib.frozen_of_heap (unhide S).res 0
        have rf1 := Lib.frozen_of_heap (unhide S).res 1
        have zq := lt_blk (unhide S).res
        have zf := lt_blk (unhide S).flt
        have F := hide (unhide S).done.drew
        clear S
        go_region
        all_goals
          go_wp2
          generalize World.drew _ = W9 at *
          clear m0 m1 r0 r1 rf0 rf1 zq zf
          have d0 := (unhide F).c0
          have d1 := (unhide F).c1
          exact bodyPost_ret (v := .tuple #[.slice (some ⟨_, 0, none⟩) 0 0, fa 2 acc.length]) (by simp [results, Tryd.results12, go_sem, d0, d1]) rfl ⟨_, _, rfl, by simp, (unhide F).own, (unhide F).bel⟩
      | some p =>
        obtain ⟨x, r1⟩ := p
        rw [ln_some hc1] at h1
        simp only [Prod.mk.injEq] at h1
        obtain ⟨hs1, ha1, rfl⟩ := h1
        obtain ⟨hr1, hle1, -⟩ := cut_drop hc1
        obtain ⟨A1, hA1⟩ : ∃ A : Nat, a + x.length + 1 = A := ⟨_, rfl⟩
        rw [hA1] at hr1 hle1
        obtain rfl : a1 = (A1 : Int) := by omega
        obtain ⟨sn, hsn⟩ : ∃ z, (⟨(Pl.dec (acc.length + 1)).toArray⟩ : ByteArray) = z := ⟨_, rfl⟩
        have cN : Hid (∀ w', Calls Tryd.prog 26 #[.int .i64 ((acc.length : Int) + 1)] w' fun e w'' => e = .returned (.string sn) ∧ Below w'.heap.size w' w'') := hide (fun w' => by
          have := sint_any (acc.length + 1) w' (by omega)
          rw [show ((acc.length + 1 : Nat) : Int) = (acc.length : Int) + 1 by omega, hsn] at this; exact this)
        go_wp2_with fail
        refine (unhide cN _).mono ?_
        rintro e w2 ⟨rfl, kb⟩
        have S := hide ((unhide S).later kb)
        clear kb cN
        by_cases hx : x = Pl.dec (acc.length + 1)
        rotate_left
        · have hq : (s1.toList == sn.toList) = false := ne_str hs1 hsn hx
          have hF := hide ((unhide hE).trans (l0_bad (unhide hJ) hne hc1 hx))
          clear hx hc1
          obtain ⟨rfl, rfl, rfl⟩ := fault_of hbig (unhide hR) (unhide hF) (by decide)
          obtain ⟨m0, m1⟩ := blk2 (unhide S).flt
          have mf := Lib.frozen_of_heap (unhide S).flt 0
          go_wp2_with fail
          have S := hide ((unhide S).code (k' := 2))
          generalize World.setCell _ ⟨f, 0, none⟩ (.int .i64 2) = W2 at *
          clear m0 m1 mf
          obtain ⟨m0, m1⟩ := blk2 (unhide S).flt
          obtain ⟨r0, r1⟩ := blk2 (unhide S).res
          have rf0 := Lib.frozen_of_heap (unhide S).res 0
          have rf1 := Lib.frozen_of_heap (unhide S).res 1
          have zq := lt_blk (unhide S).res
          have zf := lt_blk (unhide S).flt
          have F := hide (unhide S).done.drew
          clear S
          go_region
          all_goals
            go_wp2
            generalize World.drew _ = W9 at *
            clear m0 m1 r0 r1 rf0 rf1 zq zf
            have d0 := (unhide F).c0
            have d1 := (unhide F).c1
            exact bodyPost_ret (v := .tuple #[.slice (some ⟨_, 0, none⟩) 0 0, fa 2 acc.length]) (by simp [results, Tryd.results12, go_sem, d0, d1]) rfl ⟨_, _, rfl, by simp, (unhide F).own, (unhide F).bel⟩
        have hq : (s1.toList == sn.toList) = true := by rw [← hs1, ← hsn, hx]; exact str_eq _
        have hJ := hide (l0_ok (unhide hJ) hne hc1 hx)
        rw [hr1] at hJ
        have haA : a < A1 := by omega
        clear hx hc1 hr1 hs1 hsn hA1 ha1 hne
        obtain ⟨s2, a2, k2, h2⟩ : ∃ x y z, lnP L A1 = (x, y, z) := ⟨_, _, _, rfl⟩
        have hA1s : A1 ≤ s.size := by have := unhide hsz'; omega
        have c2 := hide (fun w => sline_any s s2 L A1 a2 k2 w hs (unhide hL') hA1s h2)
        go_wp2_with fail
        refine (unhide c2 _).mono ?_
        rintro e w3 ⟨rfl, rfl⟩
        clear c2 hq
        cases hc2 : cutN (L.drop A1) with
        | none =>
          rw [ln_none hc2] at h2
          simp only [Prod.mk.injEq] at h2
          obtain ⟨rfl, rfl, rfl⟩ := h2
          have hF := hide ((unhide hE).trans (l1_none (unhide hJ) hc2))
          clear hc2
          obtain ⟨rfl, rfl, rfl⟩ := fault_of hbig (unhide hR) (unhide hF) (by decide)
          obtain ⟨m0, m1⟩ := blk2 (unhide S).flt
          have mf := Lib.frozen_of_heap (unhide S).flt 0
          go_wp2_with fail
          have S := hide ((unhide S).code (k' := 3))
          generalize World.setCell _ ⟨f, 0, none⟩ (.int .i64 3) = W2 at *
          clear m0 m1 mf
          obtain ⟨m0, m1⟩ := blk2 (unhide S).flt
          obtain ⟨r0, r1⟩ := blk2 (unhide S).res
          have rf0 := Lib.frozen_of_heap (unhide S).res 0
          have rf1 := Lib.frozen_of_heap (unhide S).res 1
          have zq := lt_blk (unhide S).res
          have zf := lt_blk (unhide S).flt
          have F := hide (unhide S).done.drew
          clear S
          go_region
          all_goals
            go_wp2
            generalize World.drew _ = W9 at *
            clear m0 m1 r0 r1 rf0 rf1 zq zf
            have d0 := (unhide F).c0
            have d1 := (unhide F).c1
            exact bodyPost_ret (v := .tuple #[.slice (some ⟨_, 0, none⟩) 0 0, fa 3 acc.length]) (by simp [results, Tryd.results12, go_sem, d0, d1]) rfl ⟨_, _, rfl, by simp, (unhide F).own, (unhide F).bel⟩
        | some p =>
          obtain ⟨y, r2⟩ := p
          rw [ln_some hc2] at h2
          simp only [Prod.mk.injEq] at h2
          obtain ⟨hs2, ha2, rfl⟩ := h2
          obtain ⟨hr2, hle2, -⟩ := cut_drop hc2
          obtain ⟨A2, hA2⟩ : ∃ A : Nat, A1 + y.length + 1 = A := ⟨_, rfl⟩
          rw [hA2] at hr2 hle2
          obtain rfl : a2 = (A2 : Int) := by omega
          have hz2 : s2.size = y.length := by rw [← hs2]; show y.toArray.size = _; simp
          have hd2 : s2.data.toList = y := by rw [← hs2]
          clear hs2 ha2
          by_cases hy : y.length = 29
          rotate_left
          · have hq : ((s2.size : Int) != 29) = true := by simp; omega
            have hF := hide ((unhide hE).trans (l1_bad (unhide hJ) hc2 (by unfold tms; rw [if_neg (fun h => hy h.1)])))
            clear hc2
            obtain ⟨rfl, rfl, rfl⟩ := fault_of hbig (unhide hR) (unhide hF) (by decide)
            obtain ⟨m0, m1⟩ := blk2 (unhide S).flt
            have mf := Lib.frozen_of_heap (unhide S).flt 0
            go_wp2_with fail
            have S := hide ((unhide S).code (k' := 3))
            generalize World.setCell _ ⟨f, 0, none⟩ (.int .i64 3) = W2 at *
            clear m0 m1 mf
            obtain ⟨m0, m1⟩ := blk2 (unhide S).flt
            obtain ⟨r0, r1⟩ := blk2 (unhide S).res
            have rf0 := Lib.frozen_of_heap (unhide S).res 0
            have rf1 := Lib.frozen_of_heap (unhide S).res 1
            have zq := lt_blk (unhide S).res
            have zf := lt_blk (unhide S).flt
            have F := hide (unhide S).done.drew
            clear S
            go_region
            all_goals
              go_wp2
              generalize World.drew _ = W9 at *
              clear m0 m1 r0 r1 rf0 rf1 zq zf
              have d0 := (unhide F).c0
              have d1 := (unhide F).c1
              exact bodyPost_ret (v := .tuple #[.slice (some ⟨_, 0, none⟩) 0 0, fa 3 acc.length]) (by simp [results, Tryd.results12, go_sem, d0, d1]) rfl ⟨_, _, rfl, by simp, (unhide F).own, (unhide F).bel⟩
          have hz29 : s2.size = 29 := by omega
          have hq : ((s2.size : Int) != 29) = false := by rw [hz29]; rfl
          obtain ⟨se, hse⟩ : ∃ z, s2.extract 12 17 = z := ⟨_, rfl⟩
          have hsd : se.data.toList = (y.drop 12).take 5 := by rw [← hse, ext_list (by omega), hd2, List.drop_take]
          by_cases harw : (y.drop 12).take 5 = arw
          rotate_left
          · have hq2 : (se.toList == [32, 45, 45, 62, 32]) = false := by rw [Lib.toList_data, hsd, beq_eq_false_iff_ne]; exact harw
            have hF := hide ((unhide hE).trans (l1_bad (unhide hJ) hc2 (by unfold tms; rw [if_neg (fun h => harw h.2)])))
            clear hc2
            obtain ⟨rfl, rfl, rfl⟩ := fault_of hbig (unhide hR) (unhide hF) (by decide)
            obtain ⟨m0, m1⟩ := blk2 (unhide S).flt
            have mf := Lib.frozen_of_heap (unhide S).flt 0
            go_wp2_with fail
            have S := hide ((unhide S).code (k' := 3))
            generalize World.setCell _ ⟨f, 0, none⟩ (.int .i64 3) = W2 at *
            clear m0 m1 mf
            obtain ⟨m0, m1⟩ := blk2 (unhide S).flt
            obtain ⟨r0, r1⟩ := blk2 (unhide S).res
            have rf0 := Lib.frozen_of_heap (unhide S).res 0
            have rf1 := Lib.frozen_of_heap (unhide S).res 1
            have zq := lt_blk (unhide S).res
            have zf := lt_blk (unhide S).flt
            have F := hide (unhide S).done.drew
            clear S
            go_region
            all_goals
              go_wp2
              generalize World.drew _ = W9 at *
              clear m0 m1 r0 r1 rf0 rf1 zq zf
              have d0 := (unhide F).c0
              have d1 := (unhide F).c1
              exact bodyPost_ret (v := .tuple #[.slice (some ⟨_, 0, none⟩) 0 0, fa 3 acc.length]) (by simp [results, Tryd.results12, go_sem, d0, d1]) rfl ⟨_, _, rfl, by simp, (unhide F).own, (unhide F).bel⟩
          have hq2 : (se.toList == [32, 45, 45, 62, 32]) = true := by rw [Lib.toList_data, hsd, harw]; rfl
          have htms : tms y = match tm (y.take 12), tm (y.drop 17) with | some a, some b => some (a, b) | _, _ => none := by unfold tms; rw [if_pos ⟨hy, harw⟩]; cases tm (y.take 12) <;> cases tm (y.drop 17) <;> rfl
          obtain ⟨sA, hsA⟩ : ∃ z, s2.extract 0 12 = z := ⟨_, rfl⟩
          obtain ⟨sB, hsB⟩ : ∃ z, s2.extract 17 s2.size = z := ⟨_, rfl⟩
          have hdA : sA.data.toList = y.take 12 := by rw [← hsA, ext_list (by omega), hd2]; rfl
          have hdB : sB.data.toList = y.drop 17 := by rw [← hsB, Lib.extract_to_end, hd2]
          obtain ⟨kA, hkA⟩ : ∃ b, (tm (y.take 12)).isSome = b := ⟨_, rfl⟩
          obtain ⟨kB, hkB⟩ : ∃ b, (tm (y.drop 17)).isSome = b := ⟨_, rfl⟩
          have cA := hide (fun w => sread_any sA (y.take 12) w (by rw [Lib.size_eq, hdA, List.length_take]; omega) hdA)
          have cB := hide (fun w => sread_any sB (y.drop 17) w (by rw [Lib.size_eq, hdB, List.length_drop]; omega) hdB)
          rw [hkA] at cA
          rw [hkB] at cB
          have hJ2 := hide (fun h => l1_bad (unhide hJ) hc2 h)
          have hJ3 := hide (fun a b h hn => l1_turn (a := a) (b := b) (unhide hJ) hc2 h hn)
          have hJ4 := hide (fun a b h hn => l1_ok (a := a) (b := b) (unhide hJ) hc2 h hn)
          rw [hr2] at hJ4
          have haB : A1 < A2 := by omega
          have htms' := hide htms
          have hkA' := hide hkA
          have hkB' := hide hkB
          rw [hz29] at hsB
          clear hJ hc2 hr2 hA2 hz2 hd2 hy hsd harw htms hkA hkB hdA hdB
          obtain ⟨m0, m1⟩ := blk2 (unhide S).flt
          have mf := Lib.frozen_of_heap (unhide S).flt 0
          go_wp2_with fail
          have S := Rd.begin ((unhide S).code (k' := 3))
          rw [show (World.setCell w3 ⟨f, 0, none⟩ (.int .i64 3)).heap.size = w3.heap.size by simp [World.setCell]] at S
          have S := hide S
          generalize (World.alloc (World.setCell w3 ⟨f, 0, none⟩ (.int .i64 3)) (.cells #[.int .i64 0, .int .i64 0, .string ⟨#[]⟩] 32)) = W3 at *
          generalize w3.heap.size = t at *
          clear m0 m1 mf hq hq2
          refine (unhide cA _).mono ?_
          rintro e w4 ⟨mA, rfl, hmA, kb⟩
          have S := hide ((unhide S).later kb)
          have hmA := hide hmA
          clear kb cA
          obtain ⟨t0, t1, t2⟩ := blk3 (unhide S).ttl
          have tf0 := Lib.frozen_of_heap (unhide S).ttl 0
          go_wp2_with fail
          have S := hide ((unhide S).fr (x' := mA))
          generalize World.setCell _ ⟨t, 0, none⟩ (.int .i64 mA) = W4 at *
          clear t0 t1 t2 tf0
          refine (unhide cB _).mono ?_
          rintro e w5 ⟨mB, rfl, hmB, kb⟩
          have S := hide ((unhide S).later kb)
          have hmB := hide hmB
          clear kb cB
          cases kA
          · have hF := hide ((unhide hE).trans (unhide hJ2 (by
              rw [unhide htms']
              cases hh : tm (y.take 12) with
              | none => rfl
              | some m => have := unhide hkA'; rw [hh] at this; cases this)))
            obtain ⟨t0, t1, t2⟩ := blk3 (unhide S).ttl
            have tf1 := Lib.frozen_of_heap (unhide S).ttl 1
            go_wp2_with fail
            have S := hide ((unhide S).to (x' := mB))
            generalize World.setCell _ ⟨t, 1, none⟩ (.int .i64 mB) = W5 at *
            clear t0 t1 t2 tf1
            obtain ⟨rfl, rfl, rfl⟩ := fault_of hbig (unhide hR) (unhide hF) (by decide)
            go_wp2_with fail
            have S := hide (unhide S).rm
            obtain ⟨m0, m1⟩ := blk2 (unhide S).flt
            obtain ⟨r0, r1⟩ := blk2 (unhide S).res
            have rf0 := Lib.frozen_of_heap (unhide S).res 0
            have rf1 := Lib.frozen_of_heap (unhide S).res 1
            have zq := lt_blk (unhide S).res
            have zf := lt_blk (unhide S).flt
            have F := hide (unhide S).done.drew
            clear S
            go_region
            all_goals
              go_wp2
              generalize World.drew _ = W9 at *
              clear m0 m1 r0 r1 rf0 rf1 zq zf
              have d0 := (unhide F).c0
              have d1 := (unhide F).c1
              exact bodyPost_ret (v := .tuple #[.slice (some ⟨_, 0, none⟩) 0 0, fa 3 acc.length]) (by simp [results, Tryd.results12, go_sem, d0, d1]) rfl ⟨_, _, rfl, by simp, (unhide F).own, (unhide F).bel⟩
          cases kB
          · have hF := hide ((unhide hE).trans (unhide hJ2 (by
              rw [unhide htms']
              cases hh : tm (y.drop 17) with
              | none => cases tm (y.take 12) <;> rfl
              | some m => have := unhide hkB'; rw [hh] at this; cases this)))
            obtain ⟨t0, t1, t2⟩ := blk3 (unhide S).ttl
            have tf1 := Lib.frozen_of_heap (unhide S).ttl 1
            go_wp2_with fail
            have S := hide ((unhide S).to (x' := mB))
            generalize World.setCell _ ⟨t, 1, none⟩ (.int .i64 mB) = W5 at *
            clear t0 t1 t2 tf1
            obtain ⟨rfl, rfl, rfl⟩ := fault_of hbig (unhide hR) (unhide hF) (by decide)
            go_wp2_with fail
            have S := hide (unhide S).rm
            obtain ⟨m0, m1⟩ := blk2 (unhide S).flt
            obtain ⟨r0, r1⟩ := blk2 (unhide S).res
            have rf0 := Lib.frozen_of_heap (unhide S).res 0
            have rf1 := Lib.frozen_of_heap (unhide S).res 1
            have zq := lt_blk (unhide S).res
            have zf := lt_blk (unhide S).flt
            have F := hide (unhide S).done.drew
            clear S
            go_region
            all_goals
              go_wp2
              generalize World.drew _ = W9 at *
              clear m0 m1 r0 r1 rf0 rf1 zq zf
              have d0 := (unhide F).c0
              have d1 := (unhide F).c1
              exact bodyPost_ret (v := .tuple #[.slice (some ⟨_, 0, none⟩) 0 0, fa 3 acc.length]) (by simp [results, Tryd.results12, go_sem, d0, d1]) rfl ⟨_, _, rfl, by simp, (unhide F).own, (unhide F).bel⟩
          obtain ⟨ta, hta⟩ : ∃ m, tm (y.take 12) = some m := Option.isSome_iff_exists.1 (unhide hkA')
          obtain ⟨tb, htb⟩ : ∃ m, tm (y.drop 17) = some m := Option.isSome_iff_exists.1 (unhide hkB')
          have htm : tms y = some (ta, tb) := by rw [unhide htms', hta, htb]
          obtain rfl := unhide hmA ta hta
          obtain rfl := unhide hmB tb htb
          have hJ3 := hide (unhide hJ3 ta tb htm)
          have hJ4 := hide (unhide hJ4 ta tb htm)
          clear htms' hkA' hkB' hta htb htm hmA hmB hJ2
          obtain ⟨t0, t1, t2⟩ := blk3 (unhide S).ttl
          have tf1 := Lib.frozen_of_heap (unhide S).ttl 1
          have S5 := hide ((unhide S).to (x' := (tb : Int)))
          obtain ⟨m0, m1⟩ := blk2 (unhide S5).rm.flt
          have mf := Lib.frozen_of_heap (unhide S5).rm.flt 0
          obtain ⟨p0, p1⟩ := blk2 (unhide S).rm.flt
          have pf := Lib.frozen_of_heap (unhide S).rm.flt 0
          have hft := ft_ne (unhide S).rm.flt (unhide S).ttl
          go_wp2_with fail
          have S := hide ((unhide S5).code (k' := 4))
          clear S5
          generalize World.setCell _ ⟨f, 0, none⟩ (.int .i64 4) = W6 at *
          clear m0 m1 mf t0 t1 t2 tf1 p0 p1 pf
          obtain ⟨t0, t1, t2⟩ := blk3 (unhide S).ttl
          obtain ⟨m0, m1⟩ := blk2 (unhide S).rm.flt
          by_cases hab : (ta : Int) < tb
          rotate_left
          · have hF := hide ((unhide hE).trans (unhide hJ3 (fun h => hab h.2)))
            have g4 : decide ((tb : Int) ≤ (ta : Int)) = true := decide_eq_true (by omega)
            have g4n : decide (tb ≤ ta) = true := decide_eq_true (by omega)
            clear hab hJ3 hJ4
            obtain ⟨rfl, rfl, rfl⟩ := fault_of hbig (unhide hR) (unhide hF) (by decide)
            go_quiet (fail)
            generalize hW8 : World.drewN _ _ = W8
            have S := hide (hW8 ▸ (unhide S).later (below_drewN (Below.refl _ _) _))
            clear hW8 t0 t1 t2 m0 m1
            go_wp2_with fail
            have S := hide (unhide S).rm
            obtain ⟨m0, m1⟩ := blk2 (unhide S).flt
            obtain ⟨r0, r1⟩ := blk2 (unhide S).res
            have rf0 := Lib.frozen_of_heap (unhide S).res 0
            have rf1 := Lib.frozen_of_heap (unhide S).res 1
            have zq := lt_blk (unhide S).res
            have zf := lt_blk (unhide S).flt
            have F := hide (unhide S).done.drew
            clear S
            go_region
            all_goals
              go_wp2
              generalize World.drew _ = W9 at *
              clear m0 m1 r0 r1 rf0 rf1 zq zf
              have d0 := (unhide F).c0
              have d1 := (unhide F).c1
              exact bodyPost_ret (v := .tuple #[.slice (some ⟨_, 0, none⟩) 0 0, fa 4 acc.length]) (by simp [results, Tryd.results12, go_sem, d0, d1]) rfl ⟨_, _, rfl, by simp, (unhide F).own, (unhide F).bel⟩
          have g4 : decide ((tb : Int) ≤ (ta : Int)) = false := decide_eq_false (by omega)
          have g4n : decide (tb ≤ ta) = false := decide_eq_false (by omega)
          by_cases hk0 : acc.length = 0
          · have he0 : endOf 0 acc = 0 := by rw [List.eq_nil_of_length_eq_zero hk0]; rfl
            have g6 : decide ((0 : Int) < (acc.length : Int)) = false := decide_eq_false (by omega)
            have g6n : decide (0 < acc.length) = false := decide_eq_false (by omega)
            have hJ5 := hide (unhide hJ4 (by rw [he0]; omega))
            clear hJ3 hJ4 hab he0 hk0
            go_quiet (fail)
            generalize hW6 : World.drewN _ _ = W6
            have S := hide (hW6 ▸ (unhide S).later (below_drewN (Below.refl _ _) _))
            clear hW6
            clear t0 t1 t2 m0 m1
            obtain ⟨m0, m1⟩ := blk2 (unhide S).rm.flt
            have mf := Lib.frozen_of_heap (unhide S).rm.flt 0
            go_wp2_with fail
            have S := hide ((unhide S).code (k' := 5))
            generalize World.setCell _ ⟨f, 0, none⟩ (.int .i64 5) = W7 at *
            clear m0 m1 mf
            go_loop [9] (fun t9 => ∃ (b2 : Nat) (ws : List UInt8), t9 = .int .i64 b2 ∧ A2 ≤ b2 ∧ b2 ≤ s.size ∧ Hid (L2 R acc ta tb ws (L.drop b2)) ∧ Hid (ws = (L.take b2).drop A2) ∧ Hid (ws = [] ∨ ∃ v, ws = v ++ [10])) (fun t9 => s.size - (intOf t9).toNat)
            case atStart => exact ⟨A2, [], rfl, by omega, by have := unhide hsz'; omega, hJ5, hide (by rw [List.drop_of_length_le (by rw [List.length_take]; omega)]), hide (.inl rfl)⟩
            case round =>
              obtain ⟨b2, ws, rfl, hb0, hb2, hK, hws, hnl⟩ := hrel
              obtain ⟨s3, a3, k3, h3⟩ : ∃ x y z, lnP L b2 = (x, y, z) := ⟨_, _, _, rfl⟩
              have c3 := hide (fun w => sline_any s s3 L b2 a3 k3 w hs (unhide hL') hb2 h3)
              go_wp2_with fail
              refine (unhide c3 _).mono ?_
              rintro e w9 ⟨rfl, rfl⟩
              clear c3
              cases hc3 : cutN (L.drop b2) with
              | none =>
                rw [ln_none hc3] at h3
                simp only [Prod.mk.injEq] at h3
                obtain ⟨rfl, rfl, rfl⟩ := h3
                have hF := hide ((unhide hE).trans (l2_none (unhide hK) hc3))
                clear hc3
                obtain ⟨rfl, rfl, rfl⟩ := fault_of hbig (unhide hR) (unhide hF) (by decide)
                go_wp2_with fail
                have S := hide (unhide S).rm
                obtain ⟨m0, m1⟩ := blk2 (unhide S).flt
                obtain ⟨r0, r1⟩ := blk2 (unhide S).res
                have rf0 := Lib.frozen_of_heap (unhide S).res 0
                have rf1 := Lib.frozen_of_heap (unhide S).res 1
                have zq := lt_blk (unhide S).res
                have zf := lt_blk (unhide S).flt
                have F := hide (unhide S).done.drew
                clear S
                go_region
                all_goals
                  go_wp2
                  generalize World.drew _ = W9 at *
                  clear m0 m1 r0 r1 rf0 rf1 zq zf
                  have d0 := (unhide F).c0
                  have d1 := (unhide F).c1
                  exact bodyPost_ret (v := .tuple #[.slice (some ⟨_, 0, none⟩) 0 0, fa 5 acc.length]) (by simp [results, Tryd.results12, go_sem, d0, d1]) rfl ⟨_, _, rfl, by simp, (unhide F).own, (unhide F).bel⟩
              | some p =>
                obtain ⟨z, r3⟩ := p
                rw [ln_some hc3] at h3
                simp only [Prod.mk.injEq] at h3
                obtain ⟨hs3, ha3, rfl⟩ := h3
                obtain ⟨hr3, hle3, hzz⟩ := cut_drop hc3
                have hzz := hide hzz
                obtain ⟨A3, hA3⟩ : ∃ A : Nat, b2 + z.length + 1 = A := ⟨_, rfl⟩
                rw [hA3] at hr3 hle3
                obtain rfl : a3 = (A3 : Int) := by omega
                have hA3s : A3 ≤ s.size := by have := unhide hsz'; omega
                by_cases hz : z = []
                rotate_left
                · have he := empty_str hs3 hz
                  have hK2 := hide (l2_more (unhide hK) hc3 hz)
                  rw [hr3] at hK2
                  have hws2 := hide (show ws ++ z ++ [10] = (L.take A3).drop A2 from more_ws (unhide hws) hc3 hA3 hb0)
                  have hlt3 : b2 < A3 := by omega
                  clear hc3 hr3 hs3 ha3 hzz hA3
                  go_wp2
                  go_round
                  case rel => exact ⟨A3, _, rfl, by omega, hA3s, hK2, hws2, hide (.inr ⟨_, rfl⟩)⟩
                  case measure => simp [intOf]; omega
                have he := full_str hs3 hz
                have hK3 := hide (l2_empty (unhide hK) (by rw [hc3, hz]))
                rw [hr3] at hK3
                have hlt3 : b2 < A3 := by omega
                clear hc3 hr3 hs3 ha3 hzz hA3 hz
                rcases unhide hnl with rfl | ⟨v, rfl⟩
                · have hbe : b2 = A2 := nil_ws (unhide hws) hb0 (by have := unhide hsz'; omega)
                  subst hbe
                  have hF := hide ((unhide hE).trans (l3_text (unhide hK3) trm_none))
                  clear hK hK3 hws hnl
                  obtain ⟨rfl, rfl, rfl⟩ := fault_of hbig (unhide hR) (unhide hF) (by decide)
                  go_wp2_with fail
                  have S := hide (unhide S).rm
                  obtain ⟨m0, m1⟩ := blk2 (unhide S).flt
                  obtain ⟨r0, r1⟩ := blk2 (unhide S).res
                  have rf0 := Lib.frozen_of_heap (unhide S).res 0
                  have rf1 := Lib.frozen_of_heap (unhide S).res 1
                  have zq := lt_blk (unhide S).res
                  have zf := lt_blk (unhide S).flt
                  have F := hide (unhide S).done.drew
                  clear S
                  go_region
                  all_goals
                    go_wp2
                    generalize World.drew _ = W9 at *
                    clear m0 m1 r0 r1 rf0 rf1 zq zf
                    have d0 := (unhide F).c0
                    have d1 := (unhide F).c1
                    exact bodyPost_ret (v := .tuple #[.slice (some ⟨_, 0, none⟩) 0 0, fa 5 acc.length]) (by simp [results, Tryd.results12, go_sem, d0, d1]) rfl ⟨_, _, rfl, by simp, (unhide F).own, (unhide F).bel⟩
                obtain ⟨hv1, hv2⟩ := ext_v (unhide hws) (by have := unhide hsz'; omega)
                have hbn : ((b2 : Int) == (A2 : Int)) = false := by rw [beq_eq_false_iff_ne]; omega
                have hbn2 : ¬ b2 = A2 := by omega
                have hb1 : ((b2 : Int) - 1) = ((b2 - 1 : Nat) : Int) := by omega
                obtain ⟨st, hst⟩ : ∃ z, s.extract A2 (b2 - 1) = z := ⟨_, rfl⟩
                have hsd : st.data.toList = v := by rw [← hst, ext_list (by omega), unhide hL', hv1]
                obtain ⟨tv, htv⟩ : ∃ b, txOk v = b := ⟨_, rfl⟩
                have hvl : v.length ≤ 1048576 := by
                  have := congrArg List.length hv1
                  rw [List.length_drop, List.length_take] at this
                  have := unhide hsz'
                  omega
                have cT := hide (fun w => stext_any st tv w (by rw [Lib.size_eq, hsd]; exact hvl) (by rw [hsd]; exact htv))
                have hsd' := hide (mk_list hsd)
                clear hws hnl hv1 hsd hK
                go_wp2_with fail
                refine (unhide cT _).mono ?_
                rintro e w9 ⟨rfl, rfl⟩
                clear cT
                cases tv
                · have hF := hide ((unhide hE).trans (l3_text (unhide hK3) (by rw [trm_nl]; exact htv)))
                  clear hK3 htv hsd'
                  obtain ⟨rfl, rfl, rfl⟩ := fault_of hbig (unhide hR) (unhide hF) (by decide)
                  go_wp2_with fail
                  have S := hide (unhide S).rm
                  obtain ⟨m0, m1⟩ := blk2 (unhide S).flt
                  obtain ⟨r0, r1⟩ := blk2 (unhide S).res
                  have rf0 := Lib.frozen_of_heap (unhide S).res 0
                  have rf1 := Lib.frozen_of_heap (unhide S).res 1
                  have zq := lt_blk (unhide S).res
                  have zf := lt_blk (unhide S).flt
                  have F := hide (unhide S).done.drew
                  clear S
                  go_region
                  all_goals
                    go_wp2
                    generalize World.drew _ = W9 at *
                    clear m0 m1 r0 r1 rf0 rf1 zq zf
                    have d0 := (unhide F).c0
                    have d1 := (unhide F).c1
                    exact bodyPost_ret (v := .tuple #[.slice (some ⟨_, 0, none⟩) 0 0, fa 5 acc.length]) (by simp [results, Tryd.results12, go_sem, d0, d1]) rfl ⟨_, _, rfl, by simp, (unhide F).own, (unhide F).bel⟩
                obtain ⟨t0, t1, t2⟩ := blk3 (unhide S).ttl
                have tf2 := Lib.frozen_of_heap (unhide S).ttl 2
                have S9 := hide ((unhide S).tx (s' := st))
                by_cases h200 : acc.length = 200
                · have hF := hide ((unhide hE).trans (l3_many (unhide hK3) (by rw [trm_nl]; exact htv) h200))
                  have h2i : (((acc.length : Nat) : Int) == 200) = true := by rw [h200]; rfl
                  clear hK3 htv hsd' h200
                  obtain ⟨rfl, rfl, rfl⟩ := fault_of hbig (unhide hR) (unhide hF) (by decide)
                  obtain ⟨m0, m1⟩ := blk2 (unhide S).rm.flt
                  obtain ⟨n0, n1⟩ := blk2 (unhide S9).rm.flt
                  have mf := Lib.frozen_of_heap (unhide S).rm.flt 0
                  have mf9 := Lib.frozen_of_heap (unhide S9).rm.flt 0
                  go_wp2_with fail
                  have S := hide ((unhide S9).rm.code (k' := 6))
                  clear S9
                  generalize World.setCell _ ⟨f, 0, none⟩ (.int .i64 6) = W2 at *
                  clear m0 m1 mf n0 n1 mf9 t0 t1 t2 tf2
                  obtain ⟨m0, m1⟩ := blk2 (unhide S).flt
                  obtain ⟨r0, r1⟩ := blk2 (unhide S).res
                  have rf0 := Lib.frozen_of_heap (unhide S).res 0
                  have rf1 := Lib.frozen_of_heap (unhide S).res 1
                  have zq := lt_blk (unhide S).res
                  have zf := lt_blk (unhide S).flt
                  have F := hide (unhide S).done.drew
                  clear S
                  go_region
                  all_goals
                    go_wp2
                    generalize World.drew _ = W9 at *
                    clear m0 m1 r0 r1 rf0 rf1 zq zf
                    have d0 := (unhide F).c0
                    have d1 := (unhide F).c1
                    exact bodyPost_ret (v := .tuple #[.slice (some ⟨_, 0, none⟩) 0 0, fa 6 acc.length]) (by simp [results, Tryd.results12, go_sem, d0, d1]) rfl ⟨_, _, rfl, by simp, (unhide F).own, (unhide F).bel⟩
                have h2i : (((acc.length : Nat) : Int) == 200) = false := by rw [beq_eq_false_iff_ne]; omega
                have hK4 := hide (l3_ok (unhide hK3) (by rw [trm_nl]; exact htv) h200)
                rw [trm_nl, unhide hsd'] at hK4
                obtain ⟨P, hP⟩ : ∃ P, acc ++ [((ta : Int), (tb : Int), st)] = P := ⟨_, rfl⟩
                have hPl : P.length = acc.length + 1 := by rw [← hP]; simp
                have hPe := hide (show endOf 0 P = (tb : Int) by rw [← hP, endOf_snoc])
                rw [hP, ← unhide hPe] at hK4
                clear hK3 htv hsd'
                obtain ⟨q0, q1, q2⟩ := blk3 (unhide S9).ttl
                have zq := lt_blk (unhide S).rm.res
                have zB := hide (show w.heap.size + 1 ≤ (World.alloc (World.setCell w9 ⟨t, 2, none⟩ (.string st)) (.cells #[.int .i64 ta, .int .i64 tb, .string st] 32)).heap.size by simp [World.setCell]; omega)
                have eS := alloc_new (World.setCell w9 ⟨t, 2, none⟩ (.string st)) (.cells #[.int .i64 ta, .int .i64 tb, .string st] 32)
                rw [show (World.setCell w9 ⟨t, 2, none⟩ (.string st)).heap.size = w9.heap.size by simp [World.setCell]] at eS
                have eS := hide eS
                have hn2 : P.length ≤ 200 := by omega
                have haA3 : a < A3 := by omega
                go_wp2_with (at_builtin; refine wpList_t _ rfl _ _ rfl (w.heap.size + 1) g acc.length c acc ((ta : Int), (tb : Int), st) rfl ((unhide S9).rm.own.alloc _) w9.heap.size rfl (unhide eS) (by omega) (unhide zB) ?_)
                intro g' c' w4 ho4 hg4 hor hlt4
                obtain ⟨oN, bN, rN⟩ := (unhide S9).push (P := P) (by first | (rw [hPl]; exact ho4) | (rw [hPl, ← hP]; exact ho4)) hg4
                have oN := hide oN
                have bN := hide bN
                have rN := hide rN
                clear ho4 hg4 hor hlt4 S S9 q0 q1 q2 t0 t1 t2 tf2 zB eS
                go_wp2
                go_roundw
                case rel => exact ⟨A3, g', c', P, hA3s, rfl, by rw [hPl], hn2, hK4, oN, bN, rN⟩
                case measure => simp [intOf]; omega
          obtain ⟨p, hp⟩ : ∃ p, acc[acc.length - 1]? = some p := ⟨acc[acc.length - 1]'(by omega), List.getElem?_eq_getElem (by omega)⟩
          obtain ⟨d0, d1, d2⟩ := own_cells hp (unhide S).rm.own
          have hel := end_last hp
          have g6 : decide ((0 : Int) < (acc.length : Int)) = true := decide_eq_true (by omega)
          have g6n : decide (0 < acc.length) = true := decide_eq_true (by omega)
          generalize p.2.1 = zz at *
          have hk1 : ((acc.length : Int) - 1) = ((acc.length - 1 : Nat) : Int) := by omega
          clear hp d0 d2
          by_cases h7 : (ta : Int) < zz
          · have g7 : decide ((ta : Int) < zz) = true := decide_eq_true h7
            have hF := hide ((unhide hE).trans (unhide hJ3 (fun h => by rw [hel] at h; omega)))
            clear hab hJ3 hJ4 hel h7
            obtain ⟨rfl, rfl, rfl⟩ := fault_of hbig (unhide hR) (unhide hF) (by decide)
            go_quiet (fail)
            generalize hW8 : World.drewN _ _ = W8
            have S := hide (hW8 ▸ (unhide S).later (below_drewN (Below.refl _ _) _))
            clear hW8 t0 t1 t2 m0 m1
            go_wp2_with fail
            have S := hide (unhide S).rm
            obtain ⟨m0, m1⟩ := blk2 (unhide S).flt
            obtain ⟨r0, r1⟩ := blk2 (unhide S).res
            have rf0 := Lib.frozen_of_heap (unhide S).res 0
            have rf1 := Lib.frozen_of_heap (unhide S).res 1
            have zq := lt_blk (unhide S).res
            have zf := lt_blk (unhide S).flt
            have F := hide (unhide S).done.drew
            clear S
            go_region
            all_goals
              go_wp2
              generalize World.drew _ = W9 at *
              clear m0 m1 r0 r1 rf0 rf1 zq zf
              have d0 := (unhide F).c0
              have d1 := (unhide F).c1
              exact bodyPost_ret (v := .tuple #[.slice (some ⟨_, 0, none⟩) 0 0, fa 4 acc.length]) (by simp [results, Tryd.results12, go_sem, d0, d1]) rfl ⟨_, _, rfl, by simp, (unhide F).own, (unhide F).bel⟩
          have g7 : decide ((ta : Int) < zz) = false := decide_eq_false h7
          have hJ5 := hide (unhide hJ4 (by rw [hel]; omega))
          clear hJ3 hJ4 hab hel h7
          go_quiet (fail)
          clear d1 hk1 hk0
          generalize hW6 : World.drewN _ _ = W6
          have S := hide (hW6 ▸ (unhide S).later (below_drewN (Below.refl _ _) _))
          clear hW6
          clear t0 t1 t2 m0 m1
          obtain ⟨m0, m1⟩ := blk2 (unhide S).rm.flt
          have mf := Lib.frozen_of_heap (unhide S).rm.flt 0
          go_wp2_with fail
          have S := hide ((unhide S).code (k' := 5))
          generalize World.setCell _ ⟨f, 0, none⟩ (.int .i64 5) = W7 at *
          clear m0 m1 mf
          go_loop [9] (fun t9 => ∃ (b2 : Nat) (ws : List UInt8), t9 = .int .i64 b2 ∧ A2 ≤ b2 ∧ b2 ≤ s.size ∧ Hid (L2 R acc ta tb ws (L.drop b2)) ∧ Hid (ws = (L.take b2).drop A2) ∧ Hid (ws = [] ∨ ∃ v, ws = v ++ [10])) (fun t9 => s.size - (intOf t9).toNat)
          case atStart => exact ⟨A2, [], rfl, by omega, by have := unhide hsz'; omega, hJ5, hide (by rw [List.drop_of_length_le (by rw [List.length_take]; omega)]), hide (.inl rfl)⟩
          case round =>
            obtain ⟨b2, ws, rfl, hb0, hb2, hK, hws, hnl⟩ := hrel
            obtain ⟨s3, a3, k3, h3⟩ : ∃ x y z, lnP L b2 = (x, y, z) := ⟨_, _, _, rfl⟩
            have c3 := hide (fun w => sline_any s s3 L b2 a3 k3 w hs (unhide hL') hb2 h3)
            go_wp2_with fail
            refine (unhide c3 _).mono ?_
            rintro e w9 ⟨rfl, rfl⟩
            clear c3
            cases hc3 : cutN (L.drop b2) with
            | none =>
              rw [ln_none hc3] at h3
              simp only [Prod.mk.injEq] at h3
              obtain ⟨rfl, rfl, rfl⟩ := h3
              have hF := hide ((unhide hE).trans (l2_none (unhide hK) hc3))
              clear hc3
              obtain ⟨rfl, rfl, rfl⟩ := fault_of hbig (unhide hR) (unhide hF) (by decide)
              go_wp2_with fail
              have S := hide (unhide S).rm
              obtain ⟨m0, m1⟩ := blk2 (unhide S).flt
              obtain ⟨r0, r1⟩ := blk2 (unhide S).res
              have rf0 := Lib.frozen_of_heap (unhide S).res 0
              have rf1 := Lib.frozen_of_heap (unhide S).res 1
              have zq := lt_blk (unhide S).res
              have zf := lt_blk (unhide S).flt
              have F := hide (unhide S).done.drew
              clear S
              go_region
              all_goals
                go_wp2
                generalize World.drew _ = W9 at *
                clear m0 m1 r0 r1 rf0 rf1 zq zf
                have d0 := (unhide F).c0
                have d1 := (unhide F).c1
                exact bodyPost_ret (v := .tuple #[.slice (some ⟨_, 0, none⟩) 0 0, fa 5 acc.length]) (by simp [results, Tryd.results12, go_sem, d0, d1]) rfl ⟨_, _, rfl, by simp, (unhide F).own, (unhide F).bel⟩
            | some p =>
              obtain ⟨z, r3⟩ := p
              rw [ln_some hc3] at h3
              simp only [Prod.mk.injEq] at h3
              obtain ⟨hs3, ha3, rfl⟩ := h3
              obtain ⟨hr3, hle3, hzz⟩ := cut_drop hc3
              have hzz := hide hzz
              obtain ⟨A3, hA3⟩ : ∃ A : Nat, b2 + z.length + 1 = A := ⟨_, rfl⟩
              rw [hA3] at hr3 hle3
              obtain rfl : a3 = (A3 : Int) := by omega
              have hA3s : A3 ≤ s.size := by have := unhide hsz'; omega
              by_cases hz : z = []
              rotate_left
              · have he := empty_str hs3 hz
                have hK2 := hide (l2_more (unhide hK) hc3 hz)
                rw [hr3] at hK2
                have hws2 := hide (show ws ++ z ++ [10] = (L.take A3).drop A2 from more_ws (unhide hws) hc3 hA3 hb0)
                have hlt3 : b2 < A3 := by omega
                clear hc3 hr3 hs3 ha3 hzz hA3
                go_wp2
                go_round
                case rel => exact ⟨A3, _, rfl, by omega, hA3s, hK2, hws2, hide (.inr ⟨_, rfl⟩)⟩
                case measure => simp [intOf]; omega
              have he := full_str hs3 hz
              have hK3 := hide (l2_empty (unhide hK) (by rw [hc3, hz]))
              rw [hr3] at hK3
              have hlt3 : b2 < A3 := by omega
              clear hc3 hr3 hs3 ha3 hzz hA3 hz
              rcases unhide hnl with rfl | ⟨v, rfl⟩
              · have hbe : b2 = A2 := nil_ws (unhide hws) hb0 (by have := unhide hsz'; omega)
                subst hbe
                have hF := hide ((unhide hE).trans (l3_text (unhide hK3) trm_none))
                clear hK hK3 hws hnl
                obtain ⟨rfl, rfl, rfl⟩ := fault_of hbig (unhide hR) (unhide hF) (by decide)
                go_wp2_with fail
                have S := hide (unhide S).rm
                obtain ⟨m0, m1⟩ := blk2 (unhide S).flt
                obtain ⟨r0, r1⟩ := blk2 (unhide S).res
                have rf0 := Lib.frozen_of_heap (unhide S).res 0
                have rf1 := Lib.frozen_of_heap (unhide S).res 1
                have zq := lt_blk (unhide S).res
                have zf := lt_blk (unhide S).flt
                have F := hide (unhide S).done.drew
                clear S
                go_region
                all_goals
                  go_wp2
                  generalize World.drew _ = W9 at *
                  clear m0 m1 r0 r1 rf0 rf1 zq zf
                  have d0 := (unhide F).c0
                  have d1 := (unhide F).c1
                  exact bodyPost_ret (v := .tuple #[.slice (some ⟨_, 0, none⟩) 0 0, fa 5 acc.length]) (by simp [results, Tryd.results12, go_sem, d0, d1]) rfl ⟨_, _, rfl, by simp, (unhide F).own, (unhide F).bel⟩
              obtain ⟨hv1, hv2⟩ := ext_v (unhide hws) (by have := unhide hsz'; omega)
              have hbn : ((b2 : Int) == (A2 : Int)) = false := by rw [beq_eq_false_iff_ne]; omega
              have hbn2 : ¬ b2 = A2 := by omega
              have hb1 : ((b2 : Int) - 1) = ((b2 - 1 : Nat) : Int) := by omega
              obtain ⟨st, hst⟩ : ∃ z, s.extract A2 (b2 - 1) = z := ⟨_, rfl⟩
              have hsd : st.data.toList = v := by rw [← hst, ext_list (by omega), unhide hL', hv1]
              obtain ⟨tv, htv⟩ : ∃ b, txOk v = b := ⟨_, rfl⟩
              have hvl : v.length ≤ 1048576 := by
                have := congrArg List.length hv1
                rw [List.length_drop, List.length_take] at this
                have := unhide hsz'
                omega
              have cT := hide (fun w => stext_any st tv w (by rw [Lib.size_eq, hsd]; exact hvl) (by rw [hsd]; exact htv))
              have hsd' := hide (mk_list hsd)
              clear hws hnl hv1 hsd hK
              go_wp2_with fail
              refine (unhide cT _).mono ?_
              rintro e w9 ⟨rfl, rfl⟩
              clear cT
              cases tv
              · have hF := hide ((unhide hE).trans (l3_text (unhide hK3) (by rw [trm_nl]; exact htv)))
                clear hK3 htv hsd'
                obtain ⟨rfl, rfl, rfl⟩ := fault_of hbig (unhide hR) (unhide hF) (by decide)
                go_wp2_with fail
                have S := hide (unhide S).rm
                obtain ⟨m0, m1⟩ := blk2 (unhide S).flt
                obtain ⟨r0, r1⟩ := blk2 (unhide S).res
                have rf0 := Lib.frozen_of_heap (unhide S).res 0
                have rf1 := Lib.frozen_of_heap (unhide S).res 1
                have zq := lt_blk (unhide S).res
                have zf := lt_blk (unhide S).flt
                have F := hide (unhide S).done.drew
                clear S
                go_region
                all_goals
                  go_wp2
                  generalize World.drew _ = W9 at *
                  clear m0 m1 r0 r1 rf0 rf1 zq zf
                  have d0 := (unhide F).c0
                  have d1 := (unhide F).c1
                  exact bodyPost_ret (v := .tuple #[.slice (some ⟨_, 0, none⟩) 0 0, fa 5 acc.length]) (by simp [results, Tryd.results12, go_sem, d0, d1]) rfl ⟨_, _, rfl, by simp, (unhide F).own, (unhide F).bel⟩
              obtain ⟨t0, t1, t2⟩ := blk3 (unhide S).ttl
              have tf2 := Lib.frozen_of_heap (unhide S).ttl 2
              have S9 := hide ((unhide S).tx (s' := st))
              by_cases h200 : acc.length = 200
              · have hF := hide ((unhide hE).trans (l3_many (unhide hK3) (by rw [trm_nl]; exact htv) h200))
                have h2i : (((acc.length : Nat) : Int) == 200) = true := by rw [h200]; rfl
                clear hK3 htv hsd' h200
                obtain ⟨rfl, rfl, rfl⟩ := fault_of hbig (unhide hR) (unhide hF) (by decide)
                obtain ⟨m0, m1⟩ := blk2 (unhide S).rm.flt
                obtain ⟨n0, n1⟩ := blk2 (unhide S9).rm.flt
                have mf := Lib.frozen_of_heap (unhide S).rm.flt 0
                have mf9 := Lib.frozen_of_heap (unhide S9).rm.flt 0
                go_wp2_with fail
                have S := hide ((unhide S9).rm.code (k' := 6))
                clear S9
                generalize World.setCell _ ⟨f, 0, none⟩ (.int .i64 6) = W2 at *
                clear m0 m1 mf n0 n1 mf9 t0 t1 t2 tf2
                obtain ⟨m0, m1⟩ := blk2 (unhide S).flt
                obtain ⟨r0, r1⟩ := blk2 (unhide S).res
                have rf0 := Lib.frozen_of_heap (unhide S).res 0
                have rf1 := Lib.frozen_of_heap (unhide S).res 1
                have zq := lt_blk (unhide S).res
                have zf := lt_blk (unhide S).flt
                have F := hide (unhide S).done.drew
                clear S
                go_region
                all_goals
                  go_wp2
                  generalize World.drew _ = W9 at *
                  clear m0 m1 r0 r1 rf0 rf1 zq zf
                  have d0 := (unhide F).c0
                  have d1 := (unhide F).c1
                  exact bodyPost_ret (v := .tuple #[.slice (some ⟨_, 0, none⟩) 0 0, fa 6 acc.length]) (by simp [results, Tryd.results12, go_sem, d0, d1]) rfl ⟨_, _, rfl, by simp, (unhide F).own, (unhide F).bel⟩
              have h2i : (((acc.length : Nat) : Int) == 200) = false := by rw [beq_eq_false_iff_ne]; omega
              have hK4 := hide (l3_ok (unhide hK3) (by rw [trm_nl]; exact htv) h200)
              rw [trm_nl, unhide hsd'] at hK4
              obtain ⟨P, hP⟩ : ∃ P, acc ++ [((ta : Int), (tb : Int), st)] = P := ⟨_, rfl⟩
              have hPl : P.length = acc.length + 1 := by rw [← hP]; simp
              have hPe := hide (show endOf 0 P = (tb : Int) by rw [← hP, endOf_snoc])
              rw [hP, ← unhide hPe] at hK4
              clear hK3 htv hsd'
              obtain ⟨q0, q1, q2⟩ := blk3 (unhide S9).ttl
              have zq := lt_blk (unhide S).rm.res
              have zB := hide (show w.heap.size + 1 ≤ (World.alloc (World.setCell w9 ⟨t, 2, none⟩ (.string st)) (.cells #[.int .i64 ta, .int .i64 tb, .string st] 32)).heap.size by simp [World.setCell]; omega)
              have eS := alloc_new (World.setCell w9 ⟨t, 2, none⟩ (.string st)) (.cells #[.int .i64 ta, .int .i64 tb, .string st] 32)
              rw [show (World.setCell w9 ⟨t, 2, none⟩ (.string st)).heap.size = w9.heap.size by simp [World.setCell]] at eS
              have eS := hide eS
              have hn2 : P.length ≤ 200 := by omega
              have haA3 : a < A3 := by omega
              go_wp2_with (at_builtin; refine wpList_t _ rfl _ _ rfl (w.heap.size + 1) g acc.length c acc ((ta : Int), (tb : Int), st) rfl ((unhide S9).rm.own.alloc _) w9.heap.size rfl (unhide eS) (by omega) (unhide zB) ?_)
              intro g' c' w4 ho4 hg4 hor hlt4
              obtain ⟨oN, bN, rN⟩ := (unhide S9).push (P := P) (by first | (rw [hPl]; exact ho4) | (rw [hPl, ← hP]; exact ho4)) hg4
              have oN := hide oN
              have bN := hide bN
              have rN := hide rN
              clear ho4 hg4 hor hlt4 S S9 q0 q1 q2 t0 t1 t2 tf2 zB eS
              go_wp2
              go_roundw
              case rel => exact ⟨A3, g', c', P, hA3s, rfl, by rw [hPl], hn2, hK4, oN, bN, rN⟩
              case measure => simp [intOf]; omega
    · have hlt2 : decide ((a : Int) < (s.size : Int)) = false := decide_eq_false (by omega)
      have hd : L.drop a = [] := List.drop_of_length_le (by have := unhide hsz'; omega)
      have hJ0 := unhide hJ
      rw [hd] at hJ0
      obtain ⟨h1, rfl, rfl⟩ := done_of hbig (unhide hR) ((unhide hE).trans (l0_nil hJ0))
      have h1 := hide h1
      obtain ⟨r0, r1⟩ := blk2 (unhide hQ)
      have rf0 := Lib.frozen_of_heap (unhide hQ) 0
      have rf1 := Lib.frozen_of_heap (unhide hQ) 1
      have P9 := hide (put2 (v0 := .int .i64 0) (v1 := .int .i64 0) (unhide hQ))
      have B9 := hide (set2 (v0 := .int .i64 0) (v1 := .int .i64 0) (unhide hB) (Nat.le_refl w.heap.size))
      have O9 := hide (own2 (v0 := .int .i64 0) (v1 := .int .i64 0) (q := w.heap.size) (own_mono (unhide hO) (B' := w.heap.size) (by omega)) (by have := own_ge (unhide hO); omega))
      clear hJ0 hd hJ hO hB hQ
      go_wp2
      generalize ((wr.setCell ⟨w.heap.size, 0, none⟩ (.int .i64 0)).setCell ⟨w.heap.size, 1, none⟩ (.int .i64 0)) = W9 at *
      clear r0 r1 rf0 rf1
      obtain ⟨c0, c1⟩ := blk2 (unhide P9)
      have h2 := unhide h1
      exact bodyPost_ret (v := .tuple #[.slice (some ⟨g, 0, none⟩) acc.length c, fa 0 0]) (by simp [results, Tryd.results12, go_sem, c0, c1]) rfl ⟨g, c, by rw [h2], by rw [h2]; exact hn, by rw [h2]; exact unhide O9, unhide B9⟩

end Go.Proofs.YtcpllfjhhlbmiaaDoor
