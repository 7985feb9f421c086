/-
  Contracts of the model's range and of what it puts between two parts of a track; new memory, nothing that was there is written.
-/
import Derived.Test.YtfcjdempigoiiaaSEd
import Derived.Test.YtfcjdempigoiiaaApp
namespace Go.Proofs.Ytfcjdempigoiiaa
open Go.RowKit
set_option linter.unusedVariables false
set_option linter.unusedSimpArgs false

set_option maxHeartbeats 1600000 in
theorem sput_any (a : Option Addr) (cap : Nat) (l : List Kl) (t f : Int) (b2 o2 c2 : Nat) (L2 : List Kl) (w : World) (hT : TOk l) (ht : 0 ≤ t ∧ t ≤ 30000000) (hf : 0 ≤ f ∧ f ≤ 30000000) (hl2 : L2.length ≤ 10) (hk : Kls w a l) (hk2 : Kls w (some ⟨b2, o2, none⟩) L2) :
    Calls Try.prog 65 #[.slice a l.length cap, .int .i64 t, .slice (some ⟨b2, o2, none⟩) L2.length c2, .int .i64 f] w fun e w' => EdR w w' (putS l t L2 f) e := by
  have hk' := hide hk
  have hk2' := hide hk2
  have hT' := hide hT
  have hp1 := part_len l 0 t
  have hp2 := part_len l f 10000000
  have hlT := hT.1
  clear hk hk2 hT
  go_enter Try.func65, Try.ntmps65
  go_wp2_with fail
  refine (spart_any a cap l 0 t _ (unhide hT') ⟨by omega, by omega⟩ ⟨ht.1, by omega⟩ (unhide hk')).mono ?_
  rintro e w1 ⟨g1, c1, rfl, q1, n1, k1⟩
  have o1 := hide n1
  have H1 := hide k1
  clear n1 k1
  go_wp2_with (at_builtin; refine wpList_apps Try.underlying24 _ rfl _ _ rfl w.heap.size (.slice (some ⟨g1, 0, none⟩) (part l 0 t).length c1) (part l 0 t) L2 (some ⟨b2, o2, none⟩) c2 rfl (ownV_of (unhide o1)) rfl ((unhide hk2').below (unhide H1)) (fun h => by cases h) (by omega) (by omega) (unhide H1).size ?_)
  intro v2 w2 n2 k2 _
  obtain ⟨L, hL⟩ : ∃ L, L = part l 0 t ++ L2 := ⟨_, rfl⟩
  rw [← hL] at n2
  have hLl : L.length ≤ 400 := by rw [hL, List.length_append]; omega
  have hL' := hide hL
  clear hL
  obtain ⟨a3, c3, rfl, hkl, hn3⟩ := ownV_kls n2
  have o2' := hide n2
  have H2 := hide ((unhide H1).trans k2)
  clear n2 k2 o1 H1 hkl hn3
  go_wp2_with fail
  refine (spart_any a cap l f 10000000 _ (unhide hT') ⟨hf.1, by omega⟩ ⟨by omega, by omega⟩ ((unhide hk').below (unhide H2))).mono ?_
  rintro e w3 ⟨g3, c3', rfl, q3, n3, k3⟩
  have o3 := hide n3
  have o2'' := hide (ownsRow_below (unhide o2') k3)
  have H3 := hide (laterB (unhide H2) k3)
  clear n3 k3 o2' H2
  go_wp2_with (at_builtin; refine wpList_apps Try.underlying24 _ rfl _ _ rfl w.heap.size _ L (part l f 10000000) (some ⟨g3, 0, none⟩) c3' rfl (unhide o2'') rfl (kls_own (unhide o3)) (fun h => by cases h) (by omega) (by omega) (unhide H3).size ?_)
  intro v4 w4 n4 k4 _
  obtain ⟨M, hM⟩ : ∃ M, M = L ++ part l f 10000000 := ⟨_, rfl⟩
  rw [← hM] at n4
  have hMl : M.length ≤ 1000 := by rw [hM, List.length_append]; omega
  have hM' := hide hM
  clear hM
  obtain ⟨a5, c5, rfl, hkl, hn5⟩ := ownV_kls n4
  have hkl' := hide hkl
  have H4 := hide ((unhide H3).trans k4)
  clear n4 k4 hkl hn5 o3 o2'' H3
  go_wp2_with fail
  refine (sedit_any a5 c5 M _ (by omega) (unhide hkl')).mono ?_
  rintro e w5 hE
  obtain ⟨g, c, rfl, E⟩ := edR_from hE (unhide H4)
  have hr := hide (show putS l t L2 f = edit M by unfold putS; rw [unhide hM', unhide hL'])
  go_wp2
  refine bodyPost_ret (v := .tuple #[.slice (some ⟨g, 0, none⟩) (outL (edit M)).length c, .bool (edit M).isSome]) (by simp [results, Try.results65, go_sem]) rfl ?_
  rw [unhide hr]
  exact ⟨g, c, rfl, E⟩

set_option maxHeartbeats 1600000 in
theorem srange_any (a : Option Addr) (cap : Nat) (l : List Kl) (t n : Int) (v : Bool) (w : World) (hl : l.length ≤ maxLen) (hk : Kls w a l) (hv : decide (Rng l t n) = v) :
    Calls Try.prog 66 #[.slice a l.length cap, .int .i64 t, .int .i64 n] w fun e w' => e = .returned (.bool v) ∧ Below w.heap.size w w' := by
  subst hv
  have hk' := hide hk
  clear hk
  by_cases hT : TOk l
  · have hT' := hide hT
    have hd := hide (decide_eq_true hT)
    have L0 := clen_nonneg hT.2.1
    have L1 := hT.2.2
    by_cases ht : 0 ≤ t ∧ t ≤ clen l
    · obtain ⟨t0, t1⟩ := ht
      obtain ⟨v, hv⟩ : ∃ v, (decide (1 ≤ n) && decide (n ≤ clen l - t)) = v := ⟨_, rfl⟩
      have hres : decide (Rng l t n) = v := by
        rw [← hv, Bool.eq_iff_iff, decide_eq_true_iff]
        simp [Rng, InR, hT, t0, t1]
      rw [hres]
      have hv' := hide hv
      clear hv hres hT
      go_enter Try.func66, Try.ntmps66
      go_wp2_with fail
      refine (strack_any a cap l true _ hl (unhide hk') (unhide hd)).mono ?_
      rintro e w1 ⟨rfl, hb⟩
      go_wp2_with fail
      refine (slen_any a cap l _ (by have := (unhide hT').1; omega) (unhide hT').2.1 ((unhide hk').below hb)).mono ?_
      rintro e w2 ⟨rfl, rfl⟩
      go_wp2_with fail
      refine (in_any t 0 (clen l) true _ (by simp; omega)).mono ?_
      rintro e w2 ⟨rfl, rfl⟩
      go_wp2_with fail
      refine (in_any n 1 (clen l - t) v _ (unhide hv')).mono ?_
      rintro e w2 ⟨rfl, rfl⟩
      go_wp2
      go_ret
      exact ⟨ret_bool (by simp), hb⟩
    · have hres : decide (Rng l t n) = false := decide_eq_false (fun h => ht h.2.1)
      have ht' : (decide (0 ≤ t) && decide (t ≤ clen l)) = false := by simp; omega
      rw [hres]
      clear hres hT ht
      go_enter Try.func66, Try.ntmps66
      go_wp2_with fail
      refine (strack_any a cap l true _ hl (unhide hk') (unhide hd)).mono ?_
      rintro e w1 ⟨rfl, hb⟩
      go_wp2_with fail
      refine (slen_any a cap l _ (by have := (unhide hT').1; omega) (unhide hT').2.1 ((unhide hk').below hb)).mono ?_
      rintro e w2 ⟨rfl, rfl⟩
      go_wp2_with fail
      refine (in_any t 0 (clen l) false _ ht').mono ?_
      rintro e w2 ⟨rfl, rfl⟩
      go_wp2
      go_ret
      exact ⟨rfl, hb⟩
  · have hres : decide (Rng l t n) = false := decide_eq_false (fun h => hT h.1)
    have hd := hide (decide_eq_false hT)
    rw [hres]
    clear hres hT
    go_enter Try.func66, Try.ntmps66
    go_wp2_with fail
    refine (strack_any a cap l false _ hl (unhide hk') (unhide hd)).mono ?_
    rintro e w1 ⟨rfl, hb⟩
    go_wp2
    go_ret
    exact ⟨rfl, hb⟩

end Go.Proofs.Ytfcjdempigoiiaa
