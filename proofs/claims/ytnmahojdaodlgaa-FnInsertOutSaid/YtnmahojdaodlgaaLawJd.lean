/-
  For every list of bytes: the track that is drawn of them shows the same when it is joined, and joined again it is itself; no conditions.
-/
import Derived.Test.YtnmahojdaodlgaaSmC
import Derived.Test.YtnmahojdaodlgaaFrB
import Derived.Test.YtnmahojdaodlgaaJoP
namespace Go.Proofs.Ytnmahojdaodlgaa
open Go.RowKit
set_option linter.unusedVariables false
set_option linter.unusedSimpArgs false

/-- a drawn list in memory of its own -/
def DrR (w w' : World) (G c : Nat) (L : List Kl) : Prop := L.length ≤ 1000 ∧ Own w' w.heap.size G L.length c L ∧ Below w.heap.size w w'

set_option maxHeartbeats 1600000 in
theorem dto_any (a : Option Addr) (len cap : Nat) (w : World) (hl : len ≤ 4096) (hr : RdB w w.heap.size a len) :
    Calls Try.prog 61 #[.slice a len cap] w fun e w' => ∃ G c L, e = .returned (.slice (some ⟨G, 0, none⟩) L.length c) ∧ DrR w w' G c L := by
  have hl' : len ≤ 9223372036854775807 := by omega
  have hr' := hide hr
  clear hr
  go_enter Try.func61, Try.ntmps61
  go_wp2_with fail
  refine (new_any a len cap _ hl' (by omega) (unhide hr')).mono ?_
  rintro e w1 ⟨g, rfl, hg0, hcur, hb1⟩
  have r1 : RdB w1 w.heap.size a len := by
    intro j hj
    obtain ⟨b, o, z, e, hb, hc, h0, h1⟩ := unhide hr' j hj
    exact ⟨b, o, z, e, hb, ((bcell hb1).1 _ _ hb).trans hc, h0, h1⟩
  have D1 := hide (show DS w1 w.heap.size g a len cap w1 from ⟨hcur, r1, World.grownBy.refl _ _⟩)
  have H1 := hide hb1
  clear hcur r1 hb1
  go_wp2_with fail
  refine (dtrack_any w.heap.size g a len cap _ hg0 hl' (unhide D1).cur (unhide D1).rd).mono ?_
  rintro e w2 ⟨G, c, L, rfl, hLl, T⟩
  have hF := hide (show DrR w w2 G c L from ⟨hLl, own_mono T.ow (unhide H1).size, below_grown (unhide H1) T.ds.gr hg0⟩)
  clear T D1 H1
  go_wp2
  go_ret
  exact ⟨G, c, L, rfl, unhide hF⟩

set_option maxHeartbeats 800000 in
theorem djoined_any (a : Option Addr) (len cap : Nat) (w : World) (hl : len ≤ 4096) (hr : RdB w w.heap.size a len) :
    Calls Try.prog 30 #[.slice a len cap] w fun e w' => ∃ G c L, e = .returned (.slice (some ⟨G, 0, none⟩) L.length c) ∧ DrR w w' G c L := by
  have hr' := hide hr
  clear hr
  go_enter Try.func30, Try.ntmps30
  go_wp2_with fail
  refine (dto_any a len cap _ hl (unhide hr')).mono ?_
  rintro e w1 ⟨G, c, L, rfl, h⟩
  have hF := hide h
  clear h
  go_wp2
  go_ret
  exact ⟨G, c, L, rfl, unhide hF⟩

theorem joinOf_yes {l : List Kl} (h : TOk l) : joinOf l = join l := if_pos h
theorem joinOf_no {l : List Kl} (h : ¬ TOk l) : joinOf l = [] := if_neg h
theorem join_frames {l : List Kl} (h : TOk l) (i : Int) : frameAt (join l) i = frameAt l i := by
  by_cases hi : 0 ≤ i
  · rw [frameAt_yes (join_tok h) hi, frameAt_yes h hi, seen_join h.2.1.nn hi]
  · rw [frameAt_neg hi, frameAt_neg hi]

set_option maxHeartbeats 3200000 in
theorem lawJd {W : World} (a : Option Addr) (len cap : Nat) (hr : RdB W W.heap.size a len) :
    Calls Try.prog 6 #[.slice a len cap] W fun e w' => e = .returned (.bool true) ∧ Below W.heap.size W w' := by
  have hr' := hide hr
  clear hr
  by_cases hbig : (4096 : Int) < len
  · have hb' := hide (decide_eq_true hbig)
    clear hbig
    go_enter Try.func6, Try.ntmps6
    go_wp2_with fail
    refine (big_any a len cap true _ (unhide hb')).mono ?_
    rintro e w0 ⟨rfl, hw0⟩
    have hw1 := hw0.symm
    subst hw1
    go_wp2
    go_ret
    exact ⟨rfl, Below.refl _ _⟩
  have hb' := hide (decide_eq_false hbig)
  have hl : len ≤ 4096 := by omega
  clear hbig
  go_enter Try.func6, Try.ntmps6
  go_wp2_with fail
  refine (big_any a len cap false _ (unhide hb')).mono ?_
  rintro e w0 ⟨rfl, hw0⟩
  have hw1 := hw0.symm
  subst hw1
  clear hb'
  go_wp2_with fail
  refine (djoined_any a len cap _ hl (unhide hr')).mono ?_
  rintro e w1 ⟨G, c, L, rfl, hL, ho, hb⟩
  have oL := hide (own_mono ho (Nat.zero_le _))
  have H1 := hide hb
  have hmx : L.length ≤ maxLen := by unfold maxLen; omega
  clear ho hb hr'
  obtain ⟨J, hJ⟩ : ∃ J, J = joinOf L := ⟨_, rfl⟩
  have hJl : J.length ≤ 300 := by rw [hJ]; exact joinOf_len L
  have hmj : J.length ≤ maxLen := by unfold maxLen; omega
  have hJ' := hide hJ
  clear hJ
  go_wp2_with fail
  refine (ijoined_any (some ⟨G, 0, none⟩) c L _ hmx (kls_own (unhide oL))).mono ?_
  rintro e w2 hE
  rw [← unhide hJ'] at hE
  obtain ⟨g2, c2, rfl, q2, n2, k2⟩ := hE
  have oJ := hide (own_mono n2 (Nat.zero_le _))
  have oL := hide (ownsRow_below (unhide oL) k2)
  have H2 := hide (laterB (unhide H1) k2)
  clear n2 k2 q2 H1
  go_wp2_with fail
  refine (sjoined_any (some ⟨G, 0, none⟩) c L _ hmx (kls_own (unhide oL))).mono ?_
  rintro e w3 hE
  rw [← unhide hJ'] at hE
  obtain ⟨g3, c3, rfl, q3, n3, k3⟩ := hE
  have oK := hide (own_mono n3 (Nat.zero_le _))
  have oJ := hide (ownsRow_below (unhide oJ) k3)
  have oL := hide (ownsRow_below (unhide oL) k3)
  have H3 := hide (laterB (unhide H2) k3)
  clear n3 k3 q3 H2
  go_wp2_with fail
  refine (sames_any _ _ _ _ J _ (by omega) (kls_own (unhide oJ)) (kls_own (unhide oK))).mono ?_
  rintro e w4 ⟨rfl, k4⟩
  have oJ := hide (ownsRow_below (unhide oJ) k4)
  have oL := hide (ownsRow_below (unhide oL) k4)
  have H4 := hide (laterB (unhide H3) k4)
  clear k4 oK H3
  by_cases hT : TOk L
  · have hd := hide (decide_eq_true hT)
    have hT' := hide hT
    have hJJ : J = join L := (unhide hJ').trans (joinOf_yes hT)
    have hTJ : TOk J := by rw [hJJ]; exact join_tok hT
    have hself := hide (show joinOf J = J by rw [joinOf_yes hTJ, hJJ, join_join])
    have hlJ := hide (show lenOf J = clen L by unfold lenOf; rw [if_pos hTJ, hJJ, clen_join])
    have hlL := hide (show lenOf L = clen L from if_pos hT)
    have hlen : J.length ≤ L.length := by rw [hJJ]; exact len_join L
    have hfr := hide (show ∀ i, frameAt J i = frameAt L i from fun i => by rw [hJJ]; exact join_frames hT i)
    have L0 := clen_nonneg hT.2.1
    have L1 := hT.2.2
    obtain ⟨N, hN⟩ : ∃ N, N = clen L := ⟨_, rfl⟩
    rw [← hN] at hlJ hlL L0 L1
    have hNN : (N != N) = false := by simp
    have hgt : decide ((L.length : Int) < (J.length : Int)) = false := by simp; omega
    clear hT hJJ hTJ hN
    go_wp2_with fail
    refine (strack_any (some ⟨G, 0, none⟩) c L true _ hmx (kls_own (unhide oL)) (unhide hd)).mono ?_
    rintro e w5 ⟨rfl, k5⟩
    have oJ := hide (ownsRow_below (unhide oJ) k5)
    have oL := hide (ownsRow_below (unhide oL) k5)
    have H5 := hide (laterB (unhide H4) k5)
    clear k5 H4
    go_wp2_with fail
    refine (ijoined_any (some ⟨g2, 0, none⟩) c2 J _ hmj (kls_own (unhide oJ))).mono ?_
    rintro e w6 hE
    rw [unhide hself] at hE
    obtain ⟨g6, c6, rfl, q6, n6, k6⟩ := hE
    have oK := hide (own_mono n6 (Nat.zero_le _))
    have oJ := hide (ownsRow_below (unhide oJ) k6)
    have oL := hide (ownsRow_below (unhide oL) k6)
    have H6 := hide (laterB (unhide H5) k6)
    clear n6 k6 q6 H5
    go_wp2_with fail
    refine (sames_any _ _ _ _ J _ (by omega) (kls_own (unhide oK)) (kls_own (unhide oJ))).mono ?_
    rintro e w7 ⟨rfl, k7⟩
    have oJ := hide (ownsRow_below (unhide oJ) k7)
    have oL := hide (ownsRow_below (unhide oL) k7)
    have H7 := hide (laterB (unhide H6) k7)
    clear k7 oK H6
    go_wp2_with fail
    refine (ilength_any (some ⟨g2, 0, none⟩) c2 J _ hmj (kls_own (unhide oJ))).mono ?_
    rintro e w8 ⟨rfl, k8⟩
    rw [unhide hlJ]
    have oJ := hide (ownsRow_below (unhide oJ) k8)
    have oL := hide (ownsRow_below (unhide oL) k8)
    have H8 := hide (laterB (unhide H7) k8)
    clear k8 H7
    go_wp2_with fail
    refine (ilength_any (some ⟨G, 0, none⟩) c L _ hmx (kls_own (unhide oL))).mono ?_
    rintro e w9 ⟨rfl, k9⟩
    rw [unhide hlL]
    have oJ := hide (ownsRow_below (unhide oJ) k9)
    have oL := hide (ownsRow_below (unhide oL) k9)
    have H9 := hide (laterB (unhide H8) k9)
    clear k9 H8
    go_wp2_with fail
    refine (ilength_any (some ⟨G, 0, none⟩) c L _ hmx (kls_own (unhide oL))).mono ?_
    rintro e w10 ⟨rfl, k10⟩
    rw [unhide hlL]
    have oJ := hide (ownsRow_below (unhide oJ) k10)
    have oL := hide (ownsRow_below (unhide oL) k10)
    have H10 := hide (laterB (unhide H9) k10)
    clear k10 H9
    go_wp2
    go_loopw [6] (fun s wr => ∃ i : Int, -1 ≤ i ∧ i ≤ 60 ∧ s = .int .i64 i ∧ Hid (Own wr 0 g2 J.length c2 J) ∧ Hid (Own wr 0 G L.length c L) ∧ Hid (Below W.heap.size W wr)) (fun s _ => (60 - intOf s).toNat)
    case atStart => exact ⟨-1, by omega, by omega, rfl, oJ, oL, H10⟩
    case round =>
      clear oJ oL H10
      obtain ⟨i, i0, i1, rfl, oJ, oL, hw⟩ := hrel
      by_cases h1 : i ≤ N
      · by_cases h2 : i < 60
        · obtain ⟨x, hx⟩ : ∃ x, x = (frameAt L i).1 := ⟨_, rfl⟩
          obtain ⟨y, hy⟩ : ∃ y, y = (frameAt L i).2 := ⟨_, rfl⟩
          have hx' := hide hx
          have hy' := hide hy
          have hxx : (x != x) = false := by simp
          have hyy : (y != y) = false := by simp
          have hfi := hide (unhide hfr i)
          clear hx hy
          go_wp2_with fail
          refine (iframe_any (some ⟨G, 0, none⟩) c L i _ hmx (kls_own (unhide oL))).mono ?_
          rintro e w11 ⟨rfl, k11⟩
          rw [← unhide hx', ← unhide hy']
          have oJ := hide (ownsRow_below (unhide oJ) k11)
          have oL := hide (ownsRow_below (unhide oL) k11)
          have H11 := hide (laterB (unhide hw) k11)
          clear k11 hw
          go_wp2_with fail
          refine (iframe_any (some ⟨g2, 0, none⟩) c2 J i _ hmj (kls_own (unhide oJ))).mono ?_
          rintro e w12 ⟨rfl, k12⟩
          rw [unhide hfi, ← unhide hx', ← unhide hy']
          have oJ := hide (ownsRow_below (unhide oJ) k12)
          have oL := hide (ownsRow_below (unhide oL) k12)
          have H12 := hide (laterB (unhide H11) k12)
          clear k12 H11
          go_wp2
          go_roundw
          case rel => exact ⟨i + 1, by omega, by omega, rfl, oJ, oL, H12⟩
          case measure => simp [intOf]; omega
        · have h2' : decide (i < 60) = false := by simpa using h2
          go_wp2
          go_ret
          exact ⟨rfl, unhide hw⟩
      · have h1' : decide (i ≤ N) = false := by simpa using h1
        go_wp2
        go_ret
        exact ⟨rfl, unhide hw⟩
  · have hd := hide (decide_eq_false hT)
    have hJ0 : J = [] := (unhide hJ').trans (joinOf_no hT)
    have hlL := hide (show lenOf L = -1 from if_neg hT)
    subst hJ0
    clear hT
    go_wp2_with fail
    refine (strack_any (some ⟨G, 0, none⟩) c L false _ hmx (kls_own (unhide oL)) (unhide hd)).mono ?_
    rintro e w5 ⟨rfl, k5⟩
    have oL := hide (ownsRow_below (unhide oL) k5)
    have H5 := hide (laterB (unhide H4) k5)
    clear k5 H4
    go_wp2_with fail
    refine (ilength_any (some ⟨G, 0, none⟩) c L _ hmx (kls_own (unhide oL))).mono ?_
    rintro e w6 ⟨rfl, k6⟩
    rw [unhide hlL]
    have H6 := hide (laterB (unhide H5) k6)
    clear k6 H5
    go_wp2
    go_ret
    exact ⟨rfl, unhide H6⟩

end Go.Proofs.Ytnmahojdaodlgaa
