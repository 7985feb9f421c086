/-
  Contracts of the model's Retime and Reverse; answers are new memory, nothing that was there is written.
-/
import Derived.Test.YtbmkbhondlecaaaSEd
import Derived.Test.YtbmkbhondlecaaaSpS
namespace Go.Proofs.Ytbmkbhondlecaaa.Y
open Go.RowKit
open Go.Proofs.Ytbmkbhondlecaaa
set_option linter.unusedVariables false
set_option linter.unusedSimpArgs false

set_option maxHeartbeats 3200000 in
theorem sret_any (a : Option Addr) (cap : Nat) (l : List Ky) (s n : Int) (R : Option (List Kl)) (w : World) (hl : l.length ≤ maxLen) (hk : Kys w a l) (hR : retOf l s n = R) :
    Calls Try.prog 17 #[.slice a l.length cap, .int .i64 s, .int .i64 n] w fun e w' => EdR w w' R e := by
  have hk' := hide hk
  have hl' := hide hl
  have hR' := hide hR
  clear hk hl hR
  by_cases hK : KsOk l
  · have hK' := hide hK
    clear hK
    by_cases hS : InR s 1 500
    · have hd : Hid ((decide (1 ≤ s) && decide (s ≤ 500)) = true) := hide (by have h1 := hS.1; have h2 := hS.2; simp; omega)
      have hS' := hide hS
      clear hS
      by_cases hn : InR n 1 2000
      · obtain ⟨m, rfl⟩ : ∃ m : Nat, n = m := ⟨n.toNat, by have := hn.1; omega⟩
        have hd2 : Hid ((decide (1 ≤ (m : Int)) && decide ((m : Int) ≤ 2000)) = true) := hide (by have h1 := hn.1; have h2 := hn.2; simp; omega)
        have hm2 : m ≤ 2000 := by have := hn.2; omega
        have hr : edit (retL l s m) = R := by rw [← unhide hR', ret_yes ⟨unhide hK', unhide hS', hn⟩, Int.toNat_natCast]
        have hr' := hide hr
        clear hn hr
        go_enter Try.func17, Try.ntmps17
        go_wp2_with fail
        refine (sks_any a cap l true _ (unhide hl') (unhide hk') ⟨fun _ => unhide hK', fun _ => rfl⟩).mono ?_
        rintro e w1 ⟨rfl, hb1⟩
        have H1 := hide hb1
        clear hb1
        go_wp2_with fail
        refine (src_any s true _ (unhide hd)).mono ?_
        rintro e w2 ⟨rfl, hw0⟩
        have hw1 := hw0.symm
        subst hw1
        go_wp2_with fail
        refine (in_any (m : Int) 1 2000 true _ (unhide hd2)).mono ?_
        rintro e w2 ⟨rfl, hw0⟩
        have hw1 := hw0.symm
        subst hw1
        have hws := (unhide H1).size
        have h0 : Hid (Go.Proofs.Ytbmkbhondlecaaa.Own (w1.alloc (.cells #[] 69)) w.heap.size w1.heap.size 0 0 (retL l s 0)) := hide (Go.Proofs.Ytbmkbhondlecaaa.own_lit0 w1 hws)
        have hb0 := hide ((unhide H1).alloc hws (.cells #[] 69))
        go_wp2
        go_loopw [8, 9] (fun z y wr => ∃ k g c : Nat, k ≤ m ∧ y = .int .i64 (k : Nat) ∧ z = .slice (some ⟨g, 0, none⟩) k c ∧ w.heap.size ≤ g ∧ Hid (Go.Proofs.Ytbmkbhondlecaaa.Own wr w.heap.size g k c (retL l s k)) ∧ Hid (Below w.heap.size w wr)) (fun _ y _ => m - (intOf y).toNat)
        case atStart => exact ⟨0, w1.heap.size, 0, by omega, rfl, rfl, hws, h0, hb0⟩
        case round =>
          clear h0 hb0 H1 hws
          obtain ⟨k, g, c, hk, rfl, rfl, hg, ho, hw⟩ := hrel
          by_cases hlt : k < m
          · have hltI : decide ((k : Int) < (m : Int)) = true := by simp; omega
            have hsa := hide (sat_any a cap l (k : Int) wr (unhide hK') ⟨by omega, by omega⟩ ((unhide hk').below (unhide hw)))
            obtain ⟨C, hC⟩ : ∃ C, spAt l (k : Int) = C := ⟨_, rfl⟩
            rw [hC] at hsa
            obtain ⟨f, r, d⟩ := C
            have hsn := hide (show retL l s (k + 1) = retL l s k ++ [(s, f, 1)] by rw [retL_succ]; unfold retK; rw [hC])
            clear hC
            have hws := (unhide hw).size
            go_wp2_with fail
            refine (unhide hsa).mono ?_
            rintro e w3 ⟨rfl, hb⟩
            have hb1 := hide hb
            have ho1 := hide (ownsRow_below (unhide ho) hb)
            have hg1 := own_lt (unhide ho1)
            have hs1 := hb.size
            clear hb hsa
            go_wp2_with (at_builtin; refine Go.Proofs.Ytbmkbhondlecaaa.wpList_kN Try.underlying34 (B := w.heap.size) (g := g) (n := k) (cap := c) (L := retL l s k) rfl _ _ rfl rfl (unhide ho1) (hX := by first | exact Below.refl w3.heap.size w3 | exact below_drewN (Below.refl w3.heap.size w3) _) hg1 w3.heap.size (by first | rfl | simp) rfl (by omega) (by omega) (by omega) ?_)
            intro g' cap' w' hown' hbel' hg' hlt'
            have hnew := hide (show Go.Proofs.Ytbmkbhondlecaaa.Own w' w.heap.size g' (k + 1) cap' (retL l s (k + 1)) by rw [unhide hsn]; exact hown')
            have hwn := hide ((laterB (unhide hw) (unhide hb1)).trans hbel')
            clear hown' hbel' ho1 hb1 hw ho
            go_wp2
            go_roundw
            case rel => exact ⟨k + 1, g', cap', by omega, by go_num, by rfl, hg', hnew, hwn⟩
            case measure => simp [intOf]; omega
          · have hke : k = m := by omega
            have hltI : decide ((k : Int) < (m : Int)) = false := by simp; omega
            subst hke
            have hi := sedit_any (some ⟨g, 0, none⟩) c (retL l s k) wr (by rw [retL_len]; omega) (kls_own (unhide ho))
            rw [retL_len, unhide hr'] at hi
            have hi' := hide hi
            clear hi
            go_wp2_with fail
            refine (unhide hi').mono ?_
            rintro e w5 ⟨g1, c1, rfl, hg1, ho1, hb1⟩
            have hfin := hide (edR_from ⟨g1, c1, rfl, hg1, ho1, hb1⟩ (unhide hw) : EdR w w5 R (.returned (.tuple #[.slice (some ⟨g1, 0, none⟩) (outL R).length c1, .bool R.isSome])))
            clear ho1 hb1 hi' ho
            go_wp2
            exact bodyPost_ret (v := .tuple #[.slice (some ⟨g1, 0, none⟩) (outL R).length c1, .bool R.isSome]) (by simp [results, Try.results17, go_sem]) rfl (unhide hfin)
      · have hd2 : Hid ((decide (1 ≤ n) && decide (n ≤ 2000)) = false) := hide (by simp; unfold InR at hn; omega)
        have hr : R = none := by rw [← unhide hR']; exact ret_no (fun h => hn h.2.2)
        clear hn
        go_enter Try.func17, Try.ntmps17
        go_wp2_with fail
        refine (sks_any a cap l true _ (unhide hl') (unhide hk') ⟨fun _ => unhide hK', fun _ => rfl⟩).mono ?_
        rintro e w1 ⟨rfl, hb1⟩
        have H1 := hide hb1
        clear hb1
        go_wp2_with fail
        refine (src_any s true _ (unhide hd)).mono ?_
        rintro e w2 ⟨rfl, hw0⟩
        have hw1 := hw0.symm
        subst hw1
        go_wp2_with fail
        refine (in_any n 1 2000 false _ (unhide hd2)).mono ?_
        rintro e w2 ⟨rfl, hw0⟩
        have hw1 := hw0.symm
        subst hw1
        go_wp2
        exact bodyPost_ret (v := .tuple #[.slice (some ⟨w1.heap.size, 0, none⟩) 0 0, .bool false]) (by simp [results, Try.results17, go_sem]) rfl (edR_none hr (unhide H1))
    · have hd : Hid ((decide (1 ≤ s) && decide (s ≤ 500)) = false) := hide (by simp; unfold InR at hS; omega)
      have hr : R = none := by rw [← unhide hR']; exact ret_no (fun h => hS h.2.1)
      clear hS
      go_enter Try.func17, Try.ntmps17
      go_wp2_with fail
      refine (sks_any a cap l true _ (unhide hl') (unhide hk') ⟨fun _ => unhide hK', fun _ => rfl⟩).mono ?_
      rintro e w1 ⟨rfl, hb1⟩
      have H1 := hide hb1
      clear hb1
      go_wp2_with fail
      refine (src_any s false _ (unhide hd)).mono ?_
      rintro e w2 ⟨rfl, hw0⟩
      have hw1 := hw0.symm
      subst hw1
      go_wp2
      exact bodyPost_ret (v := .tuple #[.slice (some ⟨w1.heap.size, 0, none⟩) 0 0, .bool false]) (by simp [results, Try.results17, go_sem]) rfl (edR_none hr (unhide H1))
  · have hr : R = none := by rw [← unhide hR']; exact ret_no (fun h => hK h.1)
    have hK' := hide hK
    clear hK
    go_enter Try.func17, Try.ntmps17
    go_wp2_with fail
    refine (sks_any a cap l false _ (unhide hl') (unhide hk') ⟨(fun h => by cases h), fun h => absurd h (unhide hK')⟩).mono ?_
    rintro e w1 ⟨rfl, hb1⟩
    have H1 := hide hb1
    clear hb1
    go_wp2
    exact bodyPost_ret (v := .tuple #[.slice (some ⟨w1.heap.size, 0, none⟩) 0 0, .bool false]) (by simp [results, Try.results17, go_sem]) rfl (edR_none hr (unhide H1))
end Go.Proofs.Ytbmkbhondlecaaa.Y
