/-
  Contracts of the model's range and of what it puts between two parts of a track; new memory, nothing that was there is written.
  Contracts of the model's insert, extract, lift and overwrite; answers are new memory, nothing that was there is written.
-/
import Derived.Test.YtfcjdempigoiiaaSEd
namespace Go.Proofs.Ytfcjdempigoiiaa
open Go.RowKit
set_option linter.unusedVariables false
set_option linter.unusedSimpArgs false

set_option maxHeartbeats 1600000 in
theorem sput_any (a : Option Addr) (cap : Nat) (l : List Kl) (t f : Int) (b2 o2 c2 : Nat) (L2 : List Kl) (w : World) (hT : TOk l) (ht : 0 ≤ t ∧ t ≤ 30000000) (hf : 0 ≤ f ∧ f ≤ 30000000) (hl2 : L2.length ≤ 10) (hk : Kls w a l) (hk2 : Kls w (some ⟨b2, o2, none⟩) L2) :
    Calls Try.prog 65 #[.slice a l.length cap, .int .i64 t, .slice (some ⟨b2, o2, none⟩) L2.length c2, .int .i64 f] w fun e w' => EdR w w' (putS l t L2 f) e := by
  have hk' := hide hk
  have hk2' := hide hk2
  have hT' := hide hT
  have hp1 := part_len l 0 t
  have hp2 := part_len l f 10000000
  have hlT := hT.1
  clear hk hk2 hT
  go_enter Try.func65, Try.ntmps65
  go_wp2_with fail
  refine (spart_any a cap l 0 t _ (unhide hT') ⟨by omega, by omega⟩ ⟨ht.1, by omega⟩ (unhide hk')).mono ?_
  rintro e w1 ⟨g1, c1, rfl, q1, n1, k1⟩
  have o1 := hide n1
  have H1 := hide k1
  clear n1 k1
  go_wp2_with (at_builtin; refine wpList_apps Try.underlying24 _ rfl _ _ rfl w.heap.size (.slice (some ⟨g1, 0, none⟩) (part l 0 t).length c1) (part l 0 t) L2 (some ⟨b2, o2, none⟩) c2 rfl (ownV_of (unhide o1)) rfl ((unhide hk2').below (unhide H1)) (fun h => by cases h) (by omega) (by omega) (unhide H1).size ?_)
  intro v2 w2 n2 k2 _
  obtain ⟨L, hL⟩ : ∃ L, L = part l 0 t ++ L2 := ⟨_, rfl⟩
  rw [← hL] at n2
  have hLl : L.length ≤ 400 := by rw [hL, List.length_append]; omega
  have hL' := hide hL
  clear hL
  obtain ⟨a3, c3, rfl, hkl, hn3⟩ := ownV_kls n2
  have o2' := hide n2
  have H2 := hide ((unhide H1).trans k2)
  clear n2 k2 o1 H1 hkl hn3
  go_wp2_with fail
  refine (spart_any a cap l f 10000000 _ (unhide hT') ⟨hf.1, by omega⟩ ⟨by omega, by omega⟩ ((unhide hk').below (unhide H2))).mono ?_
  rintro e w3 ⟨g3, c3', rfl, q3, n3, k3⟩
  have o3 := hide n3
  have o2'' := hide (ownsRow_below (unhide o2') k3)
  have H3 := hide (laterB (unhide H2) k3)
  clear n3 k3 o2' H2
  go_wp2_with (at_builtin; refine wpList_apps Try.underlying24 _ rfl _ _ rfl w.heap.size _ L (part l f 10000000) (some ⟨g3, 0, none⟩) c3' rfl (unhide o2'') rfl (kls_own (unhide o3)) (fun h => by cases h) (by omega) (by omega) (unhide H3).size ?_)
  intro v4 w4 n4 k4 _
  obtain ⟨M, hM⟩ : ∃ M, M = L ++ part l f 10000000 := ⟨_, rfl⟩
  rw [← hM] at n4
  have hMl : M.length ≤ 1000 := by rw [hM, List.length_append]; omega
  have hM' := hide hM
  clear hM
  obtain ⟨a5, c5, rfl, hkl, hn5⟩ := ownV_kls n4
  have hkl' := hide hkl
  have H4 := hide ((unhide H3).trans k4)
  clear n4 k4 hkl hn5 o3 o2'' H3
  go_wp2_with fail
  refine (sedit_any a5 c5 M _ (by omega) (unhide hkl')).mono ?_
  rintro e w5 hE
  obtain ⟨g, c, rfl, E⟩ := edR_from hE (unhide H4)
  have hr := hide (show putS l t L2 f = edit M by unfold putS; rw [unhide hM', unhide hL'])
  go_wp2
  refine bodyPost_ret (v := .tuple #[.slice (some ⟨g, 0, none⟩) (outL (edit M)).length c, .bool (edit M).isSome]) (by simp [results, Try.results65, go_sem]) rfl ?_
  rw [unhide hr]
  exact ⟨g, c, rfl, E⟩

set_option maxHeartbeats 1600000 in
theorem srange_any (a : Option Addr) (cap : Nat) (l : List Kl) (t n : Int) (v : Bool) (w : World) (hl : l.length ≤ maxLen) (hk : Kls w a l) (hv : decide (Rng l t n) = v) :
    Calls Try.prog 66 #[.slice a l.length cap, .int .i64 t, .int .i64 n] w fun e w' => e = .returned (.bool v) ∧ Below w.heap.size w w' := by
  subst hv
  have hk' := hide hk
  clear hk
  by_cases hT : TOk l
  · have hT' := hide hT
    have hd := hide (decide_eq_true hT)
    have L0 := clen_nonneg hT.2.1
    have L1 := hT.2.2
    by_cases ht : 0 ≤ t ∧ t ≤ clen l
    · obtain ⟨t0, t1⟩ := ht
      obtain ⟨v, hv⟩ : ∃ v, (decide (1 ≤ n) && decide (n ≤ clen l - t)) = v := ⟨_, rfl⟩
      have hres : decide (Rng l t n) = v := by
        rw [← hv, Bool.eq_iff_iff, decide_eq_true_iff]
        simp [Rng, InR, hT, t0, t1]
      rw [hres]
      have hv' := hide hv
      clear hv hres hT
      go_enter Try.func66, Try.ntmps66
      go_wp2_with fail
      refine (strack_any a cap l true _ hl (unhide hk') (unhide hd)).mono ?_
      rintro e w1 ⟨rfl, hb⟩
      go_wp2_with fail
      refine (slen_any a cap l _ (by have := (unhide hT').1; omega) (unhide hT').2.1 ((unhide hk').below hb)).mono ?_
      rintro e w2 ⟨rfl, rfl⟩
      go_wp2_with fail
      refine (in_any t 0 (clen l) true _ (by simp; omega)).mono ?_
      rintro e w2 ⟨rfl, rfl⟩
      go_wp2_with fail
      refine (in_any n 1 (clen l - t) v _ (unhide hv')).mono ?_
      rintro e w2 ⟨rfl, rfl⟩
      go_wp2
      go_ret
      exact ⟨ret_bool (by simp), hb⟩
    · have hres : decide (Rng l t n) = false := decide_eq_false (fun h => ht h.2.1)
      have ht' : (decide (0 ≤ t) && decide (t ≤ clen l)) = false := by simp; omega
      rw [hres]
      clear hres hT ht
      go_enter Try.func66, Try.ntmps66
      go_wp2_with fail
      refine (strack_any a cap l true _ hl (unhide hk') (unhide hd)).mono ?_
      rintro e w1 ⟨rfl, hb⟩
      go_wp2_with fail
      refine (slen_any a cap l _ (by have := (unhide hT').1; omega) (unhide hT').2.1 ((unhide hk').below hb)).mono ?_
      rintro e w2 ⟨rfl, rfl⟩
      go_wp2_with fail
      refine (in_any t 0 (clen l) false _ ht').mono ?_
      rintro e w2 ⟨rfl, rfl⟩
      go_wp2
      go_ret
      exact ⟨rfl, hb⟩
  · have hres : decide (Rng l t n) = false := decide_eq_false (fun h => hT h.1)
    have hd := hide (decide_eq_false hT)
    rw [hres]
    clear hres hT
    go_enter Try.func66, Try.ntmps66
    go_wp2_with fail
    refine (strack_any a cap l false _ hl (unhide hk') (unhide hd)).mono ?_
    rintro e w1 ⟨rfl, hb⟩
    go_wp2
    go_ret
    exact ⟨rfl, hb⟩

end Go.Proofs.Ytfcjdempigoiiaa

namespace Go.Proofs.Ytfcjdempigoiiaa
open Go.RowKit
set_option linter.unusedVariables false
set_option linter.unusedSimpArgs false

theorem kls_lit {w : World} {c1 c2 c3 : Int} : Kls (w.alloc (.cells #[.int .i64 c1, .int .i64 c2, .int .i64 c3] 63)) (some ⟨w.heap.size, 0, none⟩) [(c1, c2, c3)] := by
  intro j x hx
  cases j with
  | zero =>
    simp at hx
    subst hx
    exact ⟨w.heap.size, 0, rfl, by simp, by simp [go_sem], by simp [go_sem], by simp [go_sem]⟩
  | succ j => simp at hx
theorem below_lit {w wx : World} {o : Obj} (h : Below w.heap.size w wx) : Below w.heap.size w (wx.alloc o) := h.alloc h.size _

set_option maxHeartbeats 1600000 in
theorem sextract_any (a : Option Addr) (cap : Nat) (l : List Kl) (t n : Int) (w : World) (hl : l.length ≤ maxLen) (hk : Kls w a l) :
    Calls Try.prog 49 #[.slice a l.length cap, .int .i64 t, .int .i64 n] w fun e w' => EdR w w' (extractS l t n) e := by
  have hk' := hide hk
  clear hk
  by_cases hR : Rng l t n
  · have hd := hide (decide_eq_true hR)
    have hS := hide (show extractS l t n = putS l t [] (t + n) from if_pos hR)
    obtain ⟨hT, ⟨t0, t1⟩, n0, n1⟩ := hR
    have hT' := hide hT
    have hL := hT.2.2
    clear hT
    go_enter Try.func49, Try.ntmps49
    go_wp2_with fail
    refine (srange_any a cap l t n true _ hl (unhide hk') (unhide hd)).mono ?_
    rintro e w1 ⟨rfl, hb⟩
    have H1 := hide (below_lit hb (o := .cells #[] 63))
    have K1 := hide ((unhide hk').below (unhide H1))
    have K2 := hide (show Kls (w1.alloc (.cells #[] 63)) (some ⟨w1.heap.size, 0, none⟩) [] from Kls.nil)
    clear hb
    go_wp2_with fail
    refine (sput_any a cap l t (t + n) w1.heap.size 0 _ [] _ (unhide hT') ⟨t0, by omega⟩ ⟨by omega, by omega⟩ (by simp) (unhide K1) (unhide K2)).mono ?_
    rintro e w2 hE
    obtain ⟨g, c, rfl, E⟩ := edR_from hE (unhide H1)
    rw [← unhide hS] at E ⊢
    go_wp2
    exact bodyPost_ret (v := .tuple #[.slice (some ⟨g, 0, none⟩) (outL (extractS l t n)).length c, .bool (extractS l t n).isSome]) (by simp [results, Try.results49, go_sem]) rfl ⟨g, c, rfl, E⟩
  · have hd := hide (decide_eq_false hR)
    have hS := hide (show extractS l t n = none from if_neg hR)
    clear hR
    go_enter Try.func49, Try.ntmps49
    go_wp2_with fail
    refine (srange_any a cap l t n false _ hl (unhide hk') (unhide hd)).mono ?_
    rintro e w1 ⟨rfl, hb⟩
    go_wp2
    exact bodyPost_ret (v := .tuple #[.slice (some ⟨w1.heap.size, 0, none⟩) 0 0, .bool false]) (by simp [results, Try.results49, go_sem]) rfl (edR_none (unhide hS) hb)

set_option maxHeartbeats 3200000 in
theorem sinsert_any (a : Option Addr) (cap : Nat) (l : List Kl) (t c1 c2 c3 : Int) (w : World) (hl : l.length ≤ maxLen) (hk : Kls w a l) :
    Calls Try.prog 48 #[.slice a l.length cap, .int .i64 t, .agg #[.int .i64 c1, .int .i64 c2, .int .i64 c3]] w fun e w' => EdR w w' (insertS l t (c1, c2, c3)) e := by
  have hW : Below w.heap.size w (w.alloc (.cells #[.int .i64 c1, .int .i64 c2, .int .i64 c3] 63)) := (Below.refl _ _).alloc (Nat.le_refl _) _
  have hk' := hide (hk.below hW)
  have hW' := hide hW
  have d0 : (w.alloc (.cells #[.int .i64 c1, .int .i64 c2, .int .i64 c3] 63)).cell? ⟨w.heap.size, 0, none⟩ = some (.int .i64 c1) := by simp [go_sem]
  have d1 : (w.alloc (.cells #[.int .i64 c1, .int .i64 c2, .int .i64 c3] 63)).cell? ⟨w.heap.size, 1, none⟩ = some (.int .i64 c2) := by simp [go_sem]
  have d2 : (w.alloc (.cells #[.int .i64 c1, .int .i64 c2, .int .i64 c3] 63)).cell? ⟨w.heap.size, 2, none⟩ = some (.int .i64 c3) := by simp [go_sem]
  clear hk hW
  by_cases hT : TOk l
  · have hd := hide (decide_eq_true hT)
    have hT' := hide hT
    have hL := hT.2.2
    by_cases hc : COk (c1, c2, c3)
    · have hcd := hide (decide_eq_true hc)
      have n0 := hc.1
      have n1 := hc.2.1
      simp only at n0 n1
      by_cases ht : InR t 0 (clen l)
      · have hS := hide (show insertS l t (c1, c2, c3) = putS l t [(c1, c2, c3)] (t) from if_pos ⟨hT, hc, ht⟩)
        obtain ⟨t0, t1⟩ := ht
        clear hT hc
        go_enter Try.func48, Try.ntmps48
        go_wp2_with fail
        refine (strack_any a cap l true _ hl (unhide hk') (unhide hd)).mono ?_
        rintro e w1 ⟨rfl, hb⟩
        have e0 := cell_later hb d0
        have e1 := cell_later hb d1
        have e2 := cell_later hb d2
        have K1 := hide ((unhide hk').below hb)
        have B1 := hide (laterB (unhide hW') hb)
        clear hb d0 d1 d2 hk'
        go_wp2_with fail
        refine (sclip_any c1 c2 c3 true _ (unhide hcd)).mono ?_
        rintro e w2 ⟨rfl, hb⟩
        have f0 := cell_later hb e0
        have f1 := cell_later hb e1
        have f2 := cell_later hb e2
        have K2 := hide ((unhide K1).below hb)
        have B2 := hide (laterB (unhide B1) hb)
        clear hb e0 e1 e2 K1 B1
        go_wp2_with fail
        refine (slen_any a cap l _ (by have := (unhide hT').1; omega) (unhide hT').2.1 (unhide K2)).mono ?_
        rintro e w3 ⟨rfl, rfl⟩
        go_wp2_with fail
        refine (in_any t 0 (clen l) true _ (by simp; omega)).mono ?_
        rintro e w4 ⟨rfl, rfl⟩
        have hz := World.block_lt_of_cell? _ _ f2
        simp only at hz
        have H1 := hide (below_lit (unhide B2) (o := .cells #[.int .i64 c1, .int .i64 c2, .int .i64 c3] 63))
        have hA := (Below.refl w4.heap.size w4).alloc (Nat.le_refl _) (.cells #[.int .i64 c1, .int .i64 c2, .int .i64 c3] 63)
        have K3 := hide ((unhide K2).below hA)
        have K4 := hide (kls_lit (w := w4) (c1 := c1) (c2 := c2) (c3 := c3))
        clear hA K2 B2
        go_wp2_with fail
        refine (sput_any a cap l t (t) w4.heap.size 0 _ [(c1, c2, c3)] _ (unhide hT') ⟨t0, by omega⟩ ⟨t0, by omega⟩ (by simp) (unhide K3) (unhide K4)).mono ?_
        rintro e w5 hE
        obtain ⟨g, c, rfl, E⟩ := edR_from hE (unhide H1)
        have hS2 := hide (show putS l t [(c1, c2, c3)] (t) = insertS l t (c1, c2, c3) from (unhide hS).symm)
        rw [unhide hS2] at E ⊢
        go_wp2
        exact bodyPost_ret (v := .tuple #[.slice (some ⟨g, 0, none⟩) (outL (insertS l t (c1, c2, c3))).length c, .bool (insertS l t (c1, c2, c3)).isSome]) (by simp [results, Try.results48, go_sem]) rfl ⟨g, c, rfl, E⟩
      · have hS := hide (show insertS l t (c1, c2, c3) = none from if_neg (fun h => ht h.2.2))
        have ht' : (decide (0 ≤ t) && decide (t ≤ clen l)) = false := by
          have : ¬ (0 ≤ t ∧ t ≤ clen l) := ht
          simp; omega
        clear hT hc ht
        go_enter Try.func48, Try.ntmps48
        go_wp2_with fail
        refine (strack_any a cap l true _ hl (unhide hk') (unhide hd)).mono ?_
        rintro e w1 ⟨rfl, hb⟩
        have e0 := cell_later hb d0
        have e1 := cell_later hb d1
        have e2 := cell_later hb d2
        have K1 := hide ((unhide hk').below hb)
        have B1 := hide (laterB (unhide hW') hb)
        clear hb d0 d1 d2 hk'
        go_wp2_with fail
        refine (sclip_any c1 c2 c3 true _ (unhide hcd)).mono ?_
        rintro e w2 ⟨rfl, hb⟩
        have K2 := hide ((unhide K1).below hb)
        have B2 := hide (laterB (unhide B1) hb)
        clear hb e0 e1 e2 K1 B1
        go_wp2_with fail
        refine (slen_any a cap l _ (by have := (unhide hT').1; omega) (unhide hT').2.1 (unhide K2)).mono ?_
        rintro e w3 ⟨rfl, rfl⟩
        go_wp2_with fail
        refine (in_any t 0 (clen l) false _ ht').mono ?_
        rintro e w4 ⟨rfl, rfl⟩
        go_wp2
        exact bodyPost_ret (v := .tuple #[.slice (some ⟨w4.heap.size, 0, none⟩) 0 0, .bool false]) (by simp [results, Try.results48, go_sem]) rfl (edR_none (unhide hS) (unhide B2))
    · have hcd := hide (decide_eq_false hc)
      have hS := hide (show insertS l t (c1, c2, c3) = none from if_neg (fun h => hc h.2.1))
      clear hT hc
      go_enter Try.func48, Try.ntmps48
      go_wp2_with fail
      refine (strack_any a cap l true _ hl (unhide hk') (unhide hd)).mono ?_
      rintro e w1 ⟨rfl, hb⟩
      have e0 := cell_later hb d0
      have e1 := cell_later hb d1
      have e2 := cell_later hb d2
      have B1 := hide (laterB (unhide hW') hb)
      clear hb d0 d1 d2 hk'
      go_wp2_with fail
      refine (sclip_any c1 c2 c3 false _ (unhide hcd)).mono ?_
      rintro e w2 ⟨rfl, hb⟩
      have B2 := hide (laterB (unhide B1) hb)
      clear hb
      go_wp2
      exact bodyPost_ret (v := .tuple #[.slice (some ⟨w2.heap.size, 0, none⟩) 0 0, .bool false]) (by simp [results, Try.results48, go_sem]) rfl (edR_none (unhide hS) (unhide B2))
  · have hd := hide (decide_eq_false hT)
    have hS := hide (show insertS l t (c1, c2, c3) = none from if_neg (fun h => hT h.1))
    clear hT
    go_enter Try.func48, Try.ntmps48
    go_wp2_with fail
    refine (strack_any a cap l false _ hl (unhide hk') (unhide hd)).mono ?_
    rintro e w1 ⟨rfl, hb⟩
    have B1 := hide (laterB (unhide hW') hb)
    clear hb
    go_wp2
    exact bodyPost_ret (v := .tuple #[.slice (some ⟨w1.heap.size, 0, none⟩) 0 0, .bool false]) (by simp [results, Try.results48, go_sem]) rfl (edR_none (unhide hS) (unhide B1))

set_option maxHeartbeats 3200000 in
theorem sover_any (a : Option Addr) (cap : Nat) (l : List Kl) (t c1 c2 c3 : Int) (w : World) (hl : l.length ≤ maxLen) (hk : Kls w a l) :
    Calls Try.prog 50 #[.slice a l.length cap, .int .i64 t, .agg #[.int .i64 c1, .int .i64 c2, .int .i64 c3]] w fun e w' => EdR w w' (overS l t (c1, c2, c3)) e := by
  have hW : Below w.heap.size w (w.alloc (.cells #[.int .i64 c1, .int .i64 c2, .int .i64 c3] 63)) := (Below.refl _ _).alloc (Nat.le_refl _) _
  have hk' := hide (hk.below hW)
  have hW' := hide hW
  have d0 : (w.alloc (.cells #[.int .i64 c1, .int .i64 c2, .int .i64 c3] 63)).cell? ⟨w.heap.size, 0, none⟩ = some (.int .i64 c1) := by simp [go_sem]
  have d1 : (w.alloc (.cells #[.int .i64 c1, .int .i64 c2, .int .i64 c3] 63)).cell? ⟨w.heap.size, 1, none⟩ = some (.int .i64 c2) := by simp [go_sem]
  have d2 : (w.alloc (.cells #[.int .i64 c1, .int .i64 c2, .int .i64 c3] 63)).cell? ⟨w.heap.size, 2, none⟩ = some (.int .i64 c3) := by simp [go_sem]
  clear hk hW
  by_cases hT : TOk l
  · have hd := hide (decide_eq_true hT)
    have hT' := hide hT
    have hL := hT.2.2
    by_cases hc : COk (c1, c2, c3)
    · have hcd := hide (decide_eq_true hc)
      have n0 := hc.1
      have n1 := hc.2.1
      simp only at n0 n1
      by_cases ht : InR t 0 (clen l)
      · have hS := hide (show overS l t (c1, c2, c3) = putS l t [(c1, c2, c3)] (t + (c1, c2, c3).2.2) from if_pos ⟨hT, hc, ht⟩)
        obtain ⟨t0, t1⟩ := ht
        clear hT hc
        go_enter Try.func50, Try.ntmps50
        go_wp2_with fail
        refine (strack_any a cap l true _ hl (unhide hk') (unhide hd)).mono ?_
        rintro e w1 ⟨rfl, hb⟩
        have e0 := cell_later hb d0
        have e1 := cell_later hb d1
        have e2 := cell_later hb d2
        have K1 := hide ((unhide hk').below hb)
        have B1 := hide (laterB (unhide hW') hb)
        clear hb d0 d1 d2 hk'
        go_wp2_with fail
        refine (sclip_any c1 c2 c3 true _ (unhide hcd)).mono ?_
        rintro e w2 ⟨rfl, hb⟩
        have f0 := cell_later hb e0
        have f1 := cell_later hb e1
        have f2 := cell_later hb e2
        have K2 := hide ((unhide K1).below hb)
        have B2 := hide (laterB (unhide B1) hb)
        clear hb e0 e1 e2 K1 B1
        go_wp2_with fail
        refine (slen_any a cap l _ (by have := (unhide hT').1; omega) (unhide hT').2.1 (unhide K2)).mono ?_
        rintro e w3 ⟨rfl, rfl⟩
        go_wp2_with fail
        refine (in_any t 0 (clen l) true _ (by simp; omega)).mono ?_
        rintro e w4 ⟨rfl, rfl⟩
        have hz := World.block_lt_of_cell? _ _ f2
        simp only at hz
        have H1 := hide (below_lit (unhide B2) (o := .cells #[.int .i64 c1, .int .i64 c2, .int .i64 c3] 63))
        have hA := (Below.refl w4.heap.size w4).alloc (Nat.le_refl _) (.cells #[.int .i64 c1, .int .i64 c2, .int .i64 c3] 63)
        have K3 := hide ((unhide K2).below hA)
        have K4 := hide (kls_lit (w := w4) (c1 := c1) (c2 := c2) (c3 := c3))
        clear hA K2 B2
        go_wp2_with fail
        refine (sput_any a cap l t (t + c3) w4.heap.size 0 _ [(c1, c2, c3)] _ (unhide hT') ⟨t0, by omega⟩ ⟨by omega, by omega⟩ (by simp) (unhide K3) (unhide K4)).mono ?_
        rintro e w5 hE
        obtain ⟨g, c, rfl, E⟩ := edR_from hE (unhide H1)
        have hS2 := hide (show putS l t [(c1, c2, c3)] (t + c3) = overS l t (c1, c2, c3) from (unhide hS).symm)
        rw [unhide hS2] at E ⊢
        go_wp2
        exact bodyPost_ret (v := .tuple #[.slice (some ⟨g, 0, none⟩) (outL (overS l t (c1, c2, c3))).length c, .bool (overS l t (c1, c2, c3)).isSome]) (by simp [results, Try.results50, go_sem]) rfl ⟨g, c, rfl, E⟩
      · have hS := hide (show overS l t (c1, c2, c3) = none from if_neg (fun h => ht h.2.2))
        have ht' : (decide (0 ≤ t) && decide (t ≤ clen l)) = false := by
          have : ¬ (0 ≤ t ∧ t ≤ clen l) := ht
          simp; omega
        clear hT hc ht
        go_enter Try.func50, Try.ntmps50
        go_wp2_with fail
        refine (strack_any a cap l true _ hl (unhide hk') (unhide hd)).mono ?_
        rintro e w1 ⟨rfl, hb⟩
        have e0 := cell_later hb d0
        have e1 := cell_later hb d1
        have e2 := cell_later hb d2
        have K1 := hide ((unhide hk').below hb)
        have B1 := hide (laterB (unhide hW') hb)
        clear hb d0 d1 d2 hk'
        go_wp2_with fail
        refine (sclip_any c1 c2 c3 true _ (unhide hcd)).mono ?_
        rintro e w2 ⟨rfl, hb⟩
        have K2 := hide ((unhide K1).below hb)
        have B2 := hide (laterB (unhide B1) hb)
        clear hb e0 e1 e2 K1 B1
        go_wp2_with fail
        refine (slen_any a cap l _ (by have := (unhide hT').1; omega) (unhide hT').2.1 (unhide K2)).mono ?_
        rintro e w3 ⟨rfl, rfl⟩
        go_wp2_with fail
        refine (in_any t 0 (clen l) false _ ht').mono ?_
        rintro e w4 ⟨rfl, rfl⟩
        go_wp2
        exact bodyPost_ret (v := .tuple #[.slice (some ⟨w4.heap.size, 0, none⟩) 0 0, .bool false]) (by simp [results, Try.results50, go_sem]) rfl (edR_none (unhide hS) (unhide B2))
    · have hcd := hide (decide_eq_false hc)
      have hS := hide (show overS l t (c1, c2, c3) = none from if_neg (fun h => hc h.2.1))
      clear hT hc
      go_enter Try.func50, Try.ntmps50
      go_wp2_with fail
      refine (strack_any a cap l true _ hl (unhide hk') (unhide hd)).mono ?_
      rintro e w1 ⟨rfl, hb⟩
      have e0 := cell_later hb d0
      have e1 := cell_later hb d1
      have e2 := cell_later hb d2
      have B1 := hide (laterB (unhide hW') hb)
      clear hb d0 d1 d2 hk'
      go_wp2_with fail
      refine (sclip_any c1 c2 c3 false _ (unhide hcd)).mono ?_
      rintro e w2 ⟨rfl, hb⟩
      have B2 := hide (laterB (unhide B1) hb)
      clear hb
      go_wp2
      exact bodyPost_ret (v := .tuple #[.slice (some ⟨w2.heap.size, 0, none⟩) 0 0, .bool false]) (by simp [results, Try.results50, go_sem]) rfl (edR_none (unhide hS) (unhide B2))
  · have hd := hide (decide_eq_false hT)
    have hS := hide (show overS l t (c1, c2, c3) = none from if_neg (fun h => hT h.1))
    clear hT
    go_enter Try.func50, Try.ntmps50
    go_wp2_with fail
    refine (strack_any a cap l false _ hl (unhide hk') (unhide hd)).mono ?_
    rintro e w1 ⟨rfl, hb⟩
    have B1 := hide (laterB (unhide hW') hb)
    clear hb
    go_wp2
    exact bodyPost_ret (v := .tuple #[.slice (some ⟨w1.heap.size, 0, none⟩) 0 0, .bool false]) (by simp [results, Try.results50, go_sem]) rfl (edR_none (unhide hS) (unhide B1))

end Go.Proofs.Ytfcjdempigoiiaa
