/-
  For every list of titles and every style Unread of the program answers as its model does, its answer is memory of its own; where the library's variable lies there.
-/
import Derived.Test.YtapdjgkoekjngaaDoorUnS
import Derived.Test.YtapdjgkoekjngaaDoorUnI
import Derived.Test.YtapdjgkoekjngaaDoorMrk
import Derived.Test.YtapdjgkoekjngaaDoorSzl
namespace Go.Proofs.YtapdjgkoekjngaaDoor
open Go.RowKit
set_option linter.unusedVariables false
set_option linter.unusedSimpArgs false

theorem keep5 {Z w0 w1 : World} {p0 p1 p2 p3 p4 : Addr} {v0 v1 v2 v3 v4 : Value} (h : w0.cell? p0 = some v0 ∧ w0.cell? p1 = some v1 ∧ w0.cell? p2 = some v2 ∧ w0.cell? p3 = some v3 ∧ w0.cell? p4 = some v4 ∧ Below Z.heap.size Z w0) (hb : Below w0.heap.size w0 w1) : w1.cell? p0 = some v0 ∧ w1.cell? p1 = some v1 ∧ w1.cell? p2 = some v2 ∧ w1.cell? p3 = some v3 ∧ w1.cell? p4 = some v4 ∧ Below Z.heap.size Z w1 := by
  obtain ⟨h0, h1, h2, h3, h4, hB⟩ := h
  exact ⟨cell_later hb h0, cell_later hb h1, cell_later hb h2, cell_later hb h3, cell_later hb h4, hB.trans (hb.mono hB.size)⟩
theorem keep5d {Z w0 : World} {p0 p1 p2 p3 p4 : Addr} {v0 v1 v2 v3 v4 : Value} (h : w0.cell? p0 = some v0 ∧ w0.cell? p1 = some v1 ∧ w0.cell? p2 = some v2 ∧ w0.cell? p3 = some v3 ∧ w0.cell? p4 = some v4 ∧ Below Z.heap.size Z w0) : w0.drew.cell? p0 = some v0 ∧ w0.drew.cell? p1 = some v1 ∧ w0.drew.cell? p2 = some v2 ∧ w0.drew.cell? p3 = some v3 ∧ w0.drew.cell? p4 = some v4 ∧ Below Z.heap.size Z w0.drew := by
  obtain ⟨h0, h1, h2, h3, h4, hB⟩ := h
  exact ⟨h0, h1, h2, h3, h4, hB.drew⟩

set_option maxRecDepth 100000 in
set_option maxHeartbeats 6400000 in
theorem lawUn {W : World} (a : Option Addr) (cap : Nat) (l : List Kl) (hl : l.length ≤ maxLen) (hr : Kls W a l) (hsz : ∀ x ∈ l, x.2.2.size ≤ maxLen) (a1 a2 a3 a4 a5 : Int) (hM : MaxL W) :
    Calls Tryd.prog 4 #[.slice a l.length cap, ag5 (a1, a2, a3, a4, a5)] W fun e w' => e = .returned (.bool true) ∧ Below W.heap.size W w' := by
  have kW : Below W.heap.size W (W.alloc (.cells #[.int .i64 a1, .int .i64 a2, .int .i64 a3, .int .i64 a4, .int .i64 a5] 30)) := (Below.refl _ _).alloc (Nat.le_refl _) _
  have hr' := hide hr
  have hM' := hide hM
  obtain ⟨R, hR⟩ : ∃ R, unr (a1, a2, a3, a4, a5) l = R := ⟨_, rfl⟩
  have hRl : R.length ≤ 1200 := by rw [← hR]; exact unr_len _ _
  have hR' := hide hR
  have cz := hide (szk_any a cap l (W.alloc (.cells #[.int .i64 a1, .int .i64 a2, .int .i64 a3, .int .i64 a4, .int .i64 a5] 30)) hl (hr.below kW) hsz)
  have kW' := hide kW
  have yW := hide (alloc_new W (.cells #[.int .i64 a1, .int .i64 a2, .int .i64 a3, .int .i64 a4, .int .i64 a5] 30))
  clear hr hsz hM hR kW
  go_enter Tryd.func4, Tryd.ntmps4
  go_wp2_with fail
  refine (unhide cz).mono ?_
  rintro e w1 ⟨r, rfl, h1, k1⟩
  rcases h1 with rfl | ⟨p0, p1, p2⟩
  · go_wp2
    go_ret
    exact ⟨rfl, laterB (unhide kW') k1⟩
  have gr : decide (r < 0) = false := decide_eq_false (by omega)
  have hs' := hide p2
  have H0 := hide (laterB (unhide kW') k1)
  have Y0 := hide (blk_below (unhide yW) k1)
  clear p2 k1 cz kW' yW
  have hall := hide (show w1.cell? ⟨W.heap.size, 0, none⟩ = some (.int .i64 a1) ∧ w1.cell? ⟨W.heap.size, 1, none⟩ = some (.int .i64 a2) ∧ w1.cell? ⟨W.heap.size, 2, none⟩ = some (.int .i64 a3) ∧ w1.cell? ⟨W.heap.size, 3, none⟩ = some (.int .i64 a4) ∧ w1.cell? ⟨W.heap.size, 4, none⟩ = some (.int .i64 a5) ∧ Below w1.heap.size w1 w1 from by
    obtain ⟨q0, q1, q2, q3, q4⟩ := blk5 (unhide Y0)
    exact ⟨q0, q1, q2, q3, q4, Below.refl _ _⟩)
  go_upto_region 5 with fail
  go_cut [6] from 13 (fun s wx => ∃ g c, s = .slice (some ⟨g, 0, none⟩) R.length c ∧ w1.heap.size ≤ g ∧ Hid (V.Own wx 0 g R.length c R) ∧ Hid (Below w1.heap.size w1 wx))
  case first =>
    have cT := hide (fun w' (h : w'.cell? ⟨W.heap.size, 0, none⟩ = some (.int .i64 a1) ∧ w'.cell? ⟨W.heap.size, 1, none⟩ = some (.int .i64 a2) ∧ w'.cell? ⟨W.heap.size, 2, none⟩ = some (.int .i64 a3) ∧ w'.cell? ⟨W.heap.size, 3, none⟩ = some (.int .i64 a4) ∧ w'.cell? ⟨W.heap.size, 4, none⟩ = some (.int .i64 a5) ∧ Below w1.heap.size w1 w') => tok_any a cap l w' p1 ((unhide hr').below (laterB (unhide H0) h.2.2.2.2.2)))
    have cU : Hid (∀ w', (w'.cell? ⟨W.heap.size, 0, none⟩ = some (.int .i64 a1) ∧ w'.cell? ⟨W.heap.size, 1, none⟩ = some (.int .i64 a2) ∧ w'.cell? ⟨W.heap.size, 2, none⟩ = some (.int .i64 a3) ∧ w'.cell? ⟨W.heap.size, 3, none⟩ = some (.int .i64 a4) ∧ w'.cell? ⟨W.heap.size, 4, none⟩ = some (.int .i64 a5) ∧ Below w1.heap.size w1 w') → ∀ B, Own w' 0 B l.length l.length l → Calls Tryd.prog 13 #[.slice (some ⟨B, 0, none⟩) l.length l.length, ag5 (a1, a2, a3, a4, a5)] w' fun e w'' => ∃ g c, e = .returned (.slice (some ⟨g, 0, none⟩) R.length c) ∧ w1.heap.size ≤ g ∧ V.Own w'' 0 g R.length c R ∧ Below w'.heap.size w' w'') := hide (fun w' h B ho => ((sunr_any (some ⟨B, 0, none⟩) l.length l (a1, a2, a3, a4, a5) R w' p1 (kls_own ho) (unhide hs') (unhide hR')).mono (fun e w'' ⟨g, c, e1, q, n, hb⟩ => ⟨g, c, e1, Nat.le_trans h.2.2.2.2.2.size q, own_mono n (Nat.zero_le _), hb⟩)))
    go_region_held3 (fun w' => w'.cell? ⟨W.heap.size, 0, none⟩ = some (.int .i64 a1) ∧ w'.cell? ⟨W.heap.size, 1, none⟩ = some (.int .i64 a2) ∧ w'.cell? ⟨W.heap.size, 2, none⟩ = some (.int .i64 a3) ∧ w'.cell? ⟨W.heap.size, 3, none⟩ = some (.int .i64 a4) ∧ w'.cell? ⟨W.heap.size, 4, none⟩ = some (.int .i64 a5) ∧ Below w1.heap.size w1 w')
      (first | (refine keep5 ?_ hb; assumption) | (refine keep5d ?_; assumption) | (exact keep5d (unhide hall)))
      (first
        | (go_at_call 10; refine (unhide cT _ (by assumption)).mono ?_; rintro e w4 ⟨B4, rfl, q4, n4, hb⟩; have oa := hide (own_mono n4 (Nat.zero_le _)); clear n4)
        | (go_at_call 14; refine (tosty_any (a1, a2, a3, a4, a5) _).mono ?_; rintro e w5 ⟨rfl, hb⟩; (first | (have ob := hide (ownsRow_below (unhide oa) hb); clear oa; have oa := ob; clear ob) | skip))
        | (go_at_call 13; refine (unhide cU _ (by assumption) _ (unhide oa)).mono ?_; rintro e w6 ⟨g6, c6, rfl, q6, n6, hb⟩; have ow6 := hide n6; clear n6))
    all_goals
      rename_i hH
      go_wp2_with fail
      go_meet
      exact ⟨g6, c6, rfl, q6, ow6, hide hH.2.2.2.2.2⟩
  case rest =>
    obtain ⟨gw, cw, rfl, qw, ow, hZ⟩ := hcut
    have k1 := unhide hZ
    have zw := (unhide H0).size
    have lyw := lt_blk (unhide Y0)
    have Y0 := hide (blk_below (unhide Y0) k1)
    have H1 := hide (laterB (unhide H0) k1)
    have z1 := (unhide H0).size
    have z1b := k1.size
    clear k1 hZ H0 hall
    go_wp2_with fail
    refine (tok_any a cap l _ p1 ((unhide hr').below (unhide H1))).mono ?_
    rintro e w2 ⟨B2, rfl, q2, n2, k2⟩
    have l2ow := own_lt (unhide ow)
    have ow := hide (ownsRow_below (unhide ow) k2)
    have Y0 := hide (blk_below (unhide Y0) k2)
    have ox := hide (own_mono n2 (Nat.zero_le _))
    clear n2
    have z2 := (unhide H1).size
    have H2 := hide (laterB (unhide H1) k2)
    clear k2 H1
    obtain ⟨y0, y1, y2, y3, y4⟩ := blk5 (unhide Y0)
    go_wp2_with fail
    refine (tosty_any (a1, a2, a3, a4, a5) _).mono ?_
    rintro e w3 ⟨rfl, k3⟩
    have l3ow := own_lt (unhide ow)
    have ow := hide (ownsRow_below (unhide ow) k3)
    have l3ox := own_lt (unhide ox)
    have ox := hide (ownsRow_below (unhide ox) k3)
    have Y0 := hide (blk_below (unhide Y0) k3)
    have z3 := (unhide H2).size
    have H3 := hide (laterB (unhide H2) k3)
    clear k3 H2
    clear y0 y1 y2 y3 y4
    go_wp2_with fail
    refine (iunr_any _ _ l (a1, a2, a3, a4, a5) R _ p1 (kls_own (unhide ox)) (unhide hs') ((unhide hM').below (unhide H3)) (unhide hR')).mono ?_
    rintro e w4 ⟨g4, c4, rfl, q4, n4, k4⟩
    have l4ow := own_lt (unhide ow)
    have ow := hide (ownsRow_below (unhide ow) k4)
    have l4ox := own_lt (unhide ox)
    have ox := hide (ownsRow_below (unhide ox) k4)
    have Y0 := hide (blk_below (unhide Y0) k4)
    have og := hide (own_mono n4 (Nat.zero_le _))
    clear n4
    have z4 := (unhide H3).size
    have H4 := hide (laterB (unhide H3) k4)
    clear k4 H3
    go_wp2_with fail
    refine (V.eqks_any _ _ _ _ R _ (by omega) (V.kls_own (unhide og)) (V.kls_own (unhide ow))).mono ?_
    rintro e w5 ⟨rfl, k5⟩
    have l5ow := own_lt (unhide ow)
    have ow := hide (ownsRow_below (unhide ow) k5)
    have l5ox := own_lt (unhide ox)
    have ox := hide (ownsRow_below (unhide ox) k5)
    have l5og := own_lt (unhide og)
    have og := hide (ownsRow_below (unhide og) k5)
    have Y0 := hide (blk_below (unhide Y0) k5)
    have z5 := (unhide H4).size
    have H5 := hide (laterB (unhide H4) k5)
    clear k5 H4
    go_wp2_with fail
    refine (tok_any a cap l _ p1 ((unhide hr').below (unhide H5))).mono ?_
    rintro e w6 ⟨B6, rfl, q6, n6, k6⟩
    have l6ow := own_lt (unhide ow)
    have ow := hide (ownsRow_below (unhide ow) k6)
    have l6ox := own_lt (unhide ox)
    have ox := hide (ownsRow_below (unhide ox) k6)
    have l6og := own_lt (unhide og)
    have og := hide (ownsRow_below (unhide og) k6)
    have Y0 := hide (blk_below (unhide Y0) k6)
    have o8 := hide (own_mono n6 (Nat.zero_le _))
    clear n6
    have z6 := (unhide H5).size
    have H6 := hide (laterB (unhide H5) k6)
    clear k6 H5
    go_wp2_with fail
    refine (eqks_any _ _ _ _ l _ p1 (kls_own (unhide ox)) (kls_own (unhide o8))).mono ?_
    rintro e w7 ⟨rfl, k7⟩
    have l7ow := own_lt (unhide ow)
    have ow := hide (ownsRow_below (unhide ow) k7)
    have l7ox := own_lt (unhide ox)
    have ox := hide (ownsRow_below (unhide ox) k7)
    have l7og := own_lt (unhide og)
    have og := hide (ownsRow_below (unhide og) k7)
    have l7o8 := own_lt (unhide o8)
    have o8 := hide (ownsRow_below (unhide o8) k7)
    have Y0 := hide (blk_below (unhide Y0) k7)
    have z7 := (unhide H6).size
    have H7 := hide (laterB (unhide H6) k7)
    clear k7 H6
    clear o8
    have d1 : B2 ≠ g4 := by omega
    have d2 : B2 ≠ gw := by omega
    have d3 : g4 ≠ gw := by omega
    have d4 : W.heap.size < B2 := by omega
    have d5 : W.heap.size < g4 := by omega
    go_wp2_with fail
    refine (markk_any 0 B2 l.length l.length 1 _ _ (by omega) (by omega) (by omega) (unhide ox)).mono ?_
    rintro e w8 ⟨rfl, _, k8⟩
    have Y0 := hide (blk_grown k8 (unhide Y0) (by omega))
    have ow := hide (own_kept (unhide ow) k8 (by omega))
    have og := hide (own_kept (unhide og) k8 (by omega))
    have z8 := (unhide H7).size
    have H8 := hide (below_grown (unhide H7) k8 (by omega))
    clear k8 H7
    clear ox
    have t1 : decide ((1 : Int) + (l.length : Int) * 3 < 0) = false := by simp; omega
    go_wp2_with fail
    refine (V.eqks_any _ _ _ _ R _ (by omega) (V.kls_own (unhide og)) (V.kls_own (unhide ow))).mono ?_
    rintro e w9 ⟨rfl, k9⟩
    have l9ow := own_lt (unhide ow)
    have ow := hide (ownsRow_below (unhide ow) k9)
    have l9og := own_lt (unhide og)
    have og := hide (ownsRow_below (unhide og) k9)
    have Y0 := hide (blk_below (unhide Y0) k9)
    have z9 := (unhide H8).size
    have H9 := hide (laterB (unhide H8) k9)
    clear k9 H8
    go_wp2_with fail
    refine (V.markk_any 0 g4 R.length c4 1 _ _ (by omega) (by omega) (by omega) (unhide og)).mono ?_
    rintro e w10 ⟨rfl, ⟨ys, hy, hmk⟩, k10⟩
    have Y0 := hide (blk_grown k10 (unhide Y0) (by omega))
    have ow := hide (own_kept (unhide ow) k10 (by omega))
    have z10 := (unhide H9).size
    have H10 := hide (below_grown (unhide H9) k10 (by omega))
    clear k10 H9
    clear og
    have og := hide hy
    have hm' := hide hmk
    clear hy hmk
    go_wp2_with fail
    refine (V.heldk_any 0 g4 R.length c4 1 ys _ (by omega) (by omega) (by omega) (unhide og) (unhide hm')).mono ?_
    rintro e wq ⟨rfl, rfl⟩
    have t2 : decide ((1 : Int) + (R.length : Int) * 2 < 0) = false := by simp; omega
    have t3 : ((1 : Int) + (R.length : Int) * 2 != 1 + (R.length : Int) * 2) = false := by simp
    have hall := hide (show wq.cell? ⟨W.heap.size, 0, none⟩ = some (.int .i64 a1) ∧ wq.cell? ⟨W.heap.size, 1, none⟩ = some (.int .i64 a2) ∧ wq.cell? ⟨W.heap.size, 2, none⟩ = some (.int .i64 a3) ∧ wq.cell? ⟨W.heap.size, 3, none⟩ = some (.int .i64 a4) ∧ wq.cell? ⟨W.heap.size, 4, none⟩ = some (.int .i64 a5) ∧ Below wq.heap.size wq wq from by
      obtain ⟨q0, q1, q2, q3, q4⟩ := blk5 (unhide Y0)
      exact ⟨q0, q1, q2, q3, q4, Below.refl _ _⟩)
    go_upto_region 24 with fail
    go_cut [12] from 13 (fun s wx => ∃ g c, s = .slice (some ⟨g, 0, none⟩) R.length c ∧ wq.heap.size ≤ g ∧ Hid (V.Own wx 0 g R.length c R) ∧ Hid (Below wq.heap.size wq wx))
    case first =>
      have cT := hide (fun w' (h : w'.cell? ⟨W.heap.size, 0, none⟩ = some (.int .i64 a1) ∧ w'.cell? ⟨W.heap.size, 1, none⟩ = some (.int .i64 a2) ∧ w'.cell? ⟨W.heap.size, 2, none⟩ = some (.int .i64 a3) ∧ w'.cell? ⟨W.heap.size, 3, none⟩ = some (.int .i64 a4) ∧ w'.cell? ⟨W.heap.size, 4, none⟩ = some (.int .i64 a5) ∧ Below wq.heap.size wq w') => tok_any a cap l w' p1 ((unhide hr').below (laterB (unhide H10) h.2.2.2.2.2)))
      have cU : Hid (∀ w', (w'.cell? ⟨W.heap.size, 0, none⟩ = some (.int .i64 a1) ∧ w'.cell? ⟨W.heap.size, 1, none⟩ = some (.int .i64 a2) ∧ w'.cell? ⟨W.heap.size, 2, none⟩ = some (.int .i64 a3) ∧ w'.cell? ⟨W.heap.size, 3, none⟩ = some (.int .i64 a4) ∧ w'.cell? ⟨W.heap.size, 4, none⟩ = some (.int .i64 a5) ∧ Below wq.heap.size wq w') → ∀ B, Own w' 0 B l.length l.length l → Calls Tryd.prog 15 #[.slice (some ⟨B, 0, none⟩) l.length l.length, ag5 (a1, a2, a3, a4, a5)] w' fun e w'' => ∃ g c, e = .returned (.slice (some ⟨g, 0, none⟩) R.length c) ∧ wq.heap.size ≤ g ∧ V.Own w'' 0 g R.length c R ∧ Below w'.heap.size w' w'') := hide (fun w' h B ho => ((iunr_any (some ⟨B, 0, none⟩) l.length l (a1, a2, a3, a4, a5) R w' p1 (kls_own ho) (unhide hs') ((unhide hM').below (laterB (unhide H10) h.2.2.2.2.2)) (unhide hR')).mono (fun e w'' ⟨g, c, e1, q, n, hb⟩ => ⟨g, c, e1, Nat.le_trans h.2.2.2.2.2.size q, own_mono n (Nat.zero_le _), hb⟩)))
      go_region_held3 (fun w' => w'.cell? ⟨W.heap.size, 0, none⟩ = some (.int .i64 a1) ∧ w'.cell? ⟨W.heap.size, 1, none⟩ = some (.int .i64 a2) ∧ w'.cell? ⟨W.heap.size, 2, none⟩ = some (.int .i64 a3) ∧ w'.cell? ⟨W.heap.size, 3, none⟩ = some (.int .i64 a4) ∧ w'.cell? ⟨W.heap.size, 4, none⟩ = some (.int .i64 a5) ∧ Below wq.heap.size wq w')
        (first | (refine keep5 ?_ hb; assumption) | (refine keep5d ?_; assumption) | (exact keep5d (unhide hall)))
        (first
          | (go_at_call 10; refine (unhide cT _ (by assumption)).mono ?_; rintro e w4 ⟨B4, rfl, q4, n4, hb⟩; have oa := hide (own_mono n4 (Nat.zero_le _)); clear n4)
          | (go_at_call 14; refine (tosty_any (a1, a2, a3, a4, a5) _).mono ?_; rintro e w5 ⟨rfl, hb⟩; (first | (have ob := hide (ownsRow_below (unhide oa) hb); clear oa; have oa := ob; clear ob) | skip))
          | (go_at_call 15; refine (unhide cU _ (by assumption) _ (unhide oa)).mono ?_; rintro e w6 ⟨g6, c6, rfl, q6, n6, hb⟩; have ow6 := hide n6; clear n6))
      all_goals
        rename_i hH
        go_wp2_with fail
        go_meet
        exact ⟨g6, c6, rfl, q6, ow6, hide hH.2.2.2.2.2⟩
    case rest =>
      obtain ⟨gh, ch, rfl, qh, oh, hZ⟩ := hcut
      have k11 := unhide hZ
      clear hZ hall
      have l11ow := own_lt (unhide ow)
      have ow := hide (ownsRow_below (unhide ow) k11)
      have l11og := own_lt (unhide og)
      have og := hide (ownsRow_below (unhide og) k11)
      have Y0 := hide (blk_below (unhide Y0) k11)
      have z11 := (unhide H10).size
      have H11 := hide (laterB (unhide H10) k11)
      clear k11 H10
      go_wp2_with fail
      refine (V.eqks_any _ _ _ _ R _ (by omega) (V.kls_own (unhide oh)) (V.kls_own (unhide ow))).mono ?_
      rintro e w12 ⟨rfl, k12⟩
      have l12ow := own_lt (unhide ow)
      have ow := hide (ownsRow_below (unhide ow) k12)
      have l12og := own_lt (unhide og)
      have og := hide (ownsRow_below (unhide og) k12)
      have l12oh := own_lt (unhide oh)
      have oh := hide (ownsRow_below (unhide oh) k12)
      have Y0 := hide (blk_below (unhide Y0) k12)
      have z12 := (unhide H11).size
      have H12 := hide (laterB (unhide H11) k12)
      clear k12 H11
      clear oh ow
      go_wp2_with fail
      refine (V.heldk_any 0 g4 R.length c4 1 ys _ (by omega) (by omega) (by omega) (unhide og) (unhide hm')).mono ?_
      rintro e wz ⟨rfl, rfl⟩
      go_wp2
      go_ret
      exact ⟨rfl, unhide H12⟩

end Go.Proofs.YtapdjgkoekjngaaDoor
