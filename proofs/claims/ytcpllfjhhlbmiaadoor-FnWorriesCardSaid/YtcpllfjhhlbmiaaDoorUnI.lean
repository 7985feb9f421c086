/-
  What can't be read of titles: the contract of the program; nothing that was there is written.
-/
import Derived.Test.YtcpllfjhhlbmiaaDoorUnW
namespace Go.Proofs.YtcpllfjhhlbmiaaDoor
open Go.RowKit
set_option linter.unusedVariables false
set_option linter.unusedSimpArgs false

theorem ix6a (b0 b1 b2 b3 b4 b5 : Bool) : (∀ w, (Instr.index 71 (.agg #[.bool b0, .bool b1, .bool b2, .bool b3, .bool b4, .bool b5]) (.int .i64 0)).run Tryd.prog w = .ok (.bool b0) w) ∧ (∀ w, (Instr.index 71 (.agg #[.bool b0, .bool b1, .bool b2, .bool b3, .bool b4, .bool b5]) (.int .i64 1)).run Tryd.prog w = .ok (.bool b1) w) ∧ (∀ w, (Instr.index 71 (.agg #[.bool b0, .bool b1, .bool b2, .bool b3, .bool b4, .bool b5]) (.int .i64 2)).run Tryd.prog w = .ok (.bool b2) w) ∧ (∀ w, (Instr.index 71 (.agg #[.bool b0, .bool b1, .bool b2, .bool b3, .bool b4, .bool b5]) (.int .i64 3)).run Tryd.prog w = .ok (.bool b3) w) ∧ (∀ w, (Instr.index 71 (.agg #[.bool b0, .bool b1, .bool b2, .bool b3, .bool b4, .bool b5]) (.int .i64 4)).run Tryd.prog w = .ok (.bool b4) w) ∧ (∀ w, (Instr.index 71 (.agg #[.bool b0, .bool b1, .bool b2, .bool b3, .bool b4, .bool b5]) (.int .i64 5)).run Tryd.prog w = .ok (.bool b5) w) :=
  ⟨fun _ => by kernel_rfl, fun _ => by kernel_rfl, fun _ => by kernel_rfl, fun _ => by kernel_rfl, fun _ => by kernel_rfl, fun _ => by kernel_rfl⟩
theorem ix6 {F : Nat → Bool} {j : Nat} (h : j < 6) (w : World) : (Instr.index 71 (.agg #[.bool (F 0), .bool (F 1), .bool (F 2), .bool (F 3), .bool (F 4), .bool (F 5)]) (.int .i64 (j : Int))).run Tryd.prog w = .ok (.bool (F j)) w := by
  obtain ⟨i0, i1, i2, i3, i4, i5⟩ := ix6a (F 0) (F 1) (F 2) (F 3) (F 4) (F 5)
  rcases j with _ | _ | _ | _ | _ | _ | j
  · exact i0 w
  · exact i1 w
  · exact i2 w
  · exact i3 w
  · exact i4 w
  · exact i5 w
  · omega
theorem keep8 {X w0 w1 : World} {p0 p1 p2 p3 p4 p5 p6 p7 : Addr} {v0 v1 v2 v3 v4 v5 v6 v7 : Value} (h : w0.cell? p0 = some v0 ∧ w0.cell? p1 = some v1 ∧ w0.cell? p2 = some v2 ∧ w0.cell? p3 = some v3 ∧ w0.cell? p4 = some v4 ∧ w0.cell? p5 = some v5 ∧ w0.cell? p6 = some v6 ∧ w0.cell? p7 = some v7 ∧ Below X.heap.size X w0) (hb : Below w0.heap.size w0 w1) : w1.cell? p0 = some v0 ∧ w1.cell? p1 = some v1 ∧ w1.cell? p2 = some v2 ∧ w1.cell? p3 = some v3 ∧ w1.cell? p4 = some v4 ∧ w1.cell? p5 = some v5 ∧ w1.cell? p6 = some v6 ∧ w1.cell? p7 = some v7 ∧ Below X.heap.size X w1 := by
  obtain ⟨h0, h1, h2, h3, h4, h5, h6, h7, hB⟩ := h
  exact ⟨cell_later hb h0, cell_later hb h1, cell_later hb h2, cell_later hb h3, cell_later hb h4, cell_later hb h5, cell_later hb h6, cell_later hb h7, hB.trans (hb.mono hB.size)⟩
theorem keep8d {X w0 : World} {p0 p1 p2 p3 p4 p5 p6 p7 : Addr} {v0 v1 v2 v3 v4 v5 v6 v7 : Value} (h : w0.cell? p0 = some v0 ∧ w0.cell? p1 = some v1 ∧ w0.cell? p2 = some v2 ∧ w0.cell? p3 = some v3 ∧ w0.cell? p4 = some v4 ∧ w0.cell? p5 = some v5 ∧ w0.cell? p6 = some v6 ∧ w0.cell? p7 = some v7 ∧ Below X.heap.size X w0) : w0.drew.cell? p0 = some v0 ∧ w0.drew.cell? p1 = some v1 ∧ w0.drew.cell? p2 = some v2 ∧ w0.drew.cell? p3 = some v3 ∧ w0.drew.cell? p4 = some v4 ∧ w0.drew.cell? p5 = some v5 ∧ w0.drew.cell? p6 = some v6 ∧ w0.drew.cell? p7 = some v7 ∧ Below X.heap.size X w0.drew := by
  obtain ⟨h0, h1, h2, h3, h4, h5, h6, h7, hB⟩ := h
  exact ⟨h0, h1, h2, h3, h4, h5, h6, h7, hB.drew⟩
theorem UW.later {w X Y : World} {a1 a2 a3 a4 a5 x y : Int} {q g n c : Nat} {s : ByteArray} {P : List V.Kl} (h : UW w a1 a2 a3 a4 a5 q x y s g n c P X) (hb : Below X.heap.size X Y) : UW w a1 a2 a3 a4 a5 q x y s g n c P Y :=
  ⟨ownsRow_below h.own hb, laterB h.bel hb, blk_below h.sty hb, blk_below h.ttl hb, h.ne⟩

set_option maxRecDepth 100000 in
set_option maxHeartbeats 6400000 in
theorem iunr_any (a : Option Addr) (cap : Nat) (l : List Kl) (s : Sy) (R : List V.Kl) (w : World) (hl : l.length ≤ 1048576) (hr : Kls w a l) (hsz : ∀ x ∈ l, x.2.2.size ≤ 1048576) (hM : MaxL w) (hR : unr s l = R) :
    Calls Tryd.prog 15 #[.slice a l.length cap, ag5 s] w fun e w' => ∃ g c, e = .returned (.slice (some ⟨g, 0, none⟩) R.length c) ∧ w.heap.size ≤ g ∧ V.Own w' w.heap.size g R.length c R ∧ Below w.heap.size w w' := by
  obtain ⟨a1, a2, a3, a4, a5⟩ := s
  have kA : Below w.heap.size w ((w.alloc (.cells #[.int .i64 a1, .int .i64 a2, .int .i64 a3, .int .i64 a4, .int .i64 a5] 36)).alloc (.cells #[] 42)) := ((Below.refl _ _).alloc (Nat.le_refl _) _).alloc (by simp) _
  have oA : V.Own ((w.alloc (.cells #[.int .i64 a1, .int .i64 a2, .int .i64 a3, .int .i64 a4, .int .i64 a5] 36)).alloc (.cells #[] 42)) (w.heap.size + 1) (w.heap.size + 1) 0 0 [] := by
    have := V.own_lit0 (w.alloc (.cells #[.int .i64 a1, .int .i64 a2, .int .i64 a3, .int .i64 a4, .int .i64 a5] 36)) (Nat.le_refl _)
    rw [sz_alloc] at this; exact this
  have yA : ((w.alloc (.cells #[.int .i64 a1, .int .i64 a2, .int .i64 a3, .int .i64 a4, .int .i64 a5] 36)).alloc (.cells #[] 42)).heap[w.heap.size]? = some (.cells #[.int .i64 a1, .int .i64 a2, .int .i64 a3, .int .i64 a4, .int .i64 a5] 36 (0, 0)) := blk_below (alloc_new w _) ((Below.refl _ _).alloc (Nat.le_refl _) _)
  have hr' := hide hr
  have hsz' := hide hsz
  have hM' := hide hM
  obtain ⟨v, hv⟩ : ∃ v, tOk l = v := ⟨_, rfl⟩
  have cT := hide (iok_any a cap l v _ hl (hr.below kA) hsz (hM.below kA) hv)
  have kA' := hide kA
  have oA' := hide oA
  have yA' := hide yA
  clear hr hsz kA oA yA hM
  cases v
  · have hR2 : R = [] := by unfold unr at hR; rw [hv] at hR; simpa using hR.symm
    subst hR2
    clear hR hv
    go_enter Tryd.func15, Tryd.ntmps15
    go_wp2_with fail
    refine (unhide cT).mono ?_
    rintro e w1 ⟨rfl, k1⟩
    have o1 := hide (own_mono (ownsRow_below (unhide oA') k1) (show w.heap.size ≤ w.heap.size + 1 by omega))
    have b1 := hide (laterB (unhide kA') k1)
    clear k1 cT
    go_wp2
    go_ret
    exact ⟨_, _, rfl, by omega, unhide o1, unhide b1⟩
  obtain ⟨u, hu⟩ : ∃ u, syOk (a1, a2, a3, a4, a5) = u := ⟨_, rfl⟩
  have cY := hide (fun w => right_any (a1, a2, a3, a4, a5) u w hu)
  cases u
  · have hR2 : R = [] := by unfold unr at hR; rw [hv, if_pos rfl, hu] at hR; simpa using hR.symm
    subst hR2
    clear hR hv hu
    go_enter Tryd.func15, Tryd.ntmps15
    go_wp2_with fail
    refine (unhide cT).mono ?_
    rintro e w1 ⟨rfl, k1⟩
    have o1 := hide (ownsRow_below (unhide oA') k1)
    have b1 := hide (laterB (unhide kA') k1)
    obtain ⟨c0, c1, c2, c3, c4⟩ := blk5 (blk_below (unhide yA') k1)
    clear k1 cT oA' kA'
    go_wp2_with fail
    refine (unhide cY _).mono ?_
    rintro e w2 ⟨rfl, k2⟩
    have o2 := hide (own_mono (ownsRow_below (unhide o1) k2) (show w.heap.size ≤ w.heap.size + 1 by omega))
    have b2 := hide (laterB (unhide b1) k2)
    clear k2 cY o1 b1
    go_wp2
    go_ret
    exact ⟨_, _, rfl, by omega, unhide o2, unhide b2⟩
  have hR' := hide (show unl (a1, a2, a3, a4, a5) l l.length = R by unfold unr at hR; rw [hv, if_pos rfl, hu, if_pos rfl] at hR; exact hR)
  obtain ⟨hl2, hbd⟩ := t_bd hv
  have hbd' := hide hbd
  have hyb := sy_bd hu
  have hu' := hide hu
  clear hR hv hu hbd
  go_enter Tryd.func15, Tryd.ntmps15
  go_wp2_with fail
  refine (unhide cT).mono ?_
  rintro e w1 ⟨rfl, k1⟩
  have o1 := hide (ownsRow_below (unhide oA') k1)
  have b1 := hide (laterB (unhide kA') k1)
  have y1 := hide (blk_below (unhide yA') k1)
  obtain ⟨c0, c1, c2, c3, c4⟩ := blk5 (unhide y1)
  clear k1 cT oA' kA' yA'
  go_wp2_with fail
  refine (unhide cY _).mono ?_
  rintro e w2 ⟨rfl, k2⟩
  have o2 := hide (ownsRow_below (unhide o1) k2)
  have b2 := hide (laterB (unhide b1) k2)
  have y2 := hide (blk_below (unhide y1) k2)
  clear k2 cY o1 b1 y1 c0 c1 c2 c3 c4
  go_wp2
  go_loopw [5, 22] (fun o t wr => ∃ (k g n c : Nat), k ≤ l.length ∧ t = .int .i64 k ∧ o = .slice (some ⟨g, 0, none⟩) n c ∧ n ≤ 6 * k ∧ Hid (V.Own wr (w.heap.size + 1) g n c (unl (a1, a2, a3, a4, a5) l k)) ∧ Hid (Below w.heap.size w wr) ∧ Hid (wr.heap[w.heap.size]? = some (.cells #[.int .i64 a1, .int .i64 a2, .int .i64 a3, .int .i64 a4, .int .i64 a5] 36 (0, 0)))) (fun _ t _ => l.length - (intOf t).toNat)
  case atStart => exact ⟨0, _, 0, _, by omega, rfl, rfl, by omega, o2, b2, y2⟩
  case round =>
    clear o2 b2 y2
    obtain ⟨k, g, n, c, hk, rfl, rfl, hn6, ho, hb, hy⟩ := hrel
    have hs0 := (unhide hb).size
    have hgl := own_lt (unhide ho)
    have hyl := lt_blk (unhide hy)
    by_cases hlt : k < l.length
    · have hlt2 : decide ((k : Int) < (l.length : Int)) = true := decide_eq_true (by omega)
      obtain ⟨x, hx⟩ : ∃ x, l[k]? = some x := ⟨l[k], List.getElem?_eq_getElem hlt⟩
      have hab := ((unhide hr').below (unhide hb)) k x hx
      obtain ⟨x0, x1, x2⟩ := unhide hbd' x (List.mem_of_getElem? hx)
      have hxs := unhide hsz' x (List.mem_of_getElem? hx)
      have hstep := hide (unl_step (s := (a1, a2, a3, a4, a5)) hx)
      obtain ⟨G, hG⟩ : ∃ G, gapOf l k x.1 = G := ⟨_, rfl⟩
      obtain ⟨F, hF⟩ : ∃ F, tf (a1, a2, a3, a4, a5) k (pTo l k) x = F := ⟨_, rfl⟩
      have cG := hide (fun w' (h : Below w.heap.size w w') => gap_any a cap l k x G w' hl ((unhide hr').below h) hx (unhide hbd') hG)
      have f0 : false = F 0 := by rw [← hF]; rfl
      have f2 : decide (G < a2) = F 2 := by
        have : (decide (0 < k) && decide (x.1 - pTo l k < a2)) = F 2 := by rw [← hF]; rfl
        rw [← this, ← hG]
        unfold gapOf
        by_cases h0 : k = 0
        · rw [if_pos h0, decide_eq_false (p := (359999999 : Int) < a2) (by omega), decide_eq_false (p := 0 < k) (by omega)]; rfl
        · rw [if_neg h0, decide_eq_true (p := 0 < k) (by omega)]; rfl
      obtain ⟨x, y, s⟩ := x
      obtain ⟨b, o, rfl, i1, c0, c1, c2⟩ := hab
      simp only at c0 c1 c2 x0 x1 x2 hxs
      have f1 : decide (y - x < a1) = F 1 := by rw [← hF]; rfl
      have f3 : decide (a3 * (y - x) < (sms (linesL s.data.toList) : Int) * 1000) = F 3 := by rw [← hF]; rfl
      have f4 : decide (a4 < ((linesL s.data.toList).length : Int)) = F 4 := by rw [← hF]; rfl
      have f5 : decide (a5 < (mxs (linesL s.data.toList) : Int)) = F 5 := by rw [← hF]; rfl
      rw [hF] at hstep
      have cW := hide (fun w' (h : Below w.heap.size w w') => wrongs_any (a1, a2, a3, a4, a5) x y G s k (F 1) (F 2) (F 3) (F 4) (F 5) w' hxs ((unhide hM').below h) (unhide hu') x0 x1 x2 f1 f2 f3 f4 f5)
      rw [f0] at cW
      have hf0 := hide f0.symm
      clear hx hF f0 f1 f2 f3 f4 f5 hG
      generalize hPk : unl (a1, a2, a3, a4, a5) l k = P at *
      clear hPk
      have U0 : Hid (UW w a1 a2 a3 a4 a5 wr.heap.size x y s g n c (P ++ wup k F 0) (wr.alloc (.cells #[.int .i64 x, .int .i64 y, .string s] 32))) := hide (by
        rw [wup, List.append_nil]
        exact ⟨(unhide ho).alloc _, (unhide hb).alloc hs0 _, blk_below (unhide hy) ((Below.refl _ _).alloc (Nat.le_refl _) _), alloc_new _ _, by omega⟩)
      clear ho hb hy
      go_wp2_with fail
      generalize wr.alloc (.cells #[.int .i64 x, .int .i64 y, .string s] 32) = X at *
      generalize wr.heap.size = q at *
      clear c0 c1 c2
      have hall := hide (show X.cell? ⟨w.heap.size, 0, none⟩ = some (.int .i64 a1) ∧ X.cell? ⟨w.heap.size, 1, none⟩ = some (.int .i64 a2) ∧ X.cell? ⟨w.heap.size, 2, none⟩ = some (.int .i64 a3) ∧ X.cell? ⟨w.heap.size, 3, none⟩ = some (.int .i64 a4) ∧ X.cell? ⟨w.heap.size, 4, none⟩ = some (.int .i64 a5) ∧ X.cell? ⟨q, 0, none⟩ = some (.int .i64 x) ∧ X.cell? ⟨q, 1, none⟩ = some (.int .i64 y) ∧ X.cell? ⟨q, 2, none⟩ = some (.string s) ∧ Below X.heap.size X X from by
        obtain ⟨p0, p1, p2, p3, p4⟩ := blk5 (unhide U0).sty
        obtain ⟨q0, q1, q2⟩ := blk3 (unhide U0).ttl
        exact ⟨p0, p1, p2, p3, p4, q0, q1, q2, Below.refl _ _⟩)
      have cG2 := hide (fun w' (h : w'.cell? ⟨w.heap.size, 0, none⟩ = some (.int .i64 a1) ∧ w'.cell? ⟨w.heap.size, 1, none⟩ = some (.int .i64 a2) ∧ w'.cell? ⟨w.heap.size, 2, none⟩ = some (.int .i64 a3) ∧ w'.cell? ⟨w.heap.size, 3, none⟩ = some (.int .i64 a4) ∧ w'.cell? ⟨w.heap.size, 4, none⟩ = some (.int .i64 a5) ∧ w'.cell? ⟨q, 0, none⟩ = some (.int .i64 x) ∧ w'.cell? ⟨q, 1, none⟩ = some (.int .i64 y) ∧ w'.cell? ⟨q, 2, none⟩ = some (.string s) ∧ Below X.heap.size X w') => unhide cG w' (laterB (unhide U0).bel h.2.2.2.2.2.2.2.2))
      have cW2 := hide (fun w' (h : w'.cell? ⟨w.heap.size, 0, none⟩ = some (.int .i64 a1) ∧ w'.cell? ⟨w.heap.size, 1, none⟩ = some (.int .i64 a2) ∧ w'.cell? ⟨w.heap.size, 2, none⟩ = some (.int .i64 a3) ∧ w'.cell? ⟨w.heap.size, 3, none⟩ = some (.int .i64 a4) ∧ w'.cell? ⟨w.heap.size, 4, none⟩ = some (.int .i64 a5) ∧ w'.cell? ⟨q, 0, none⟩ = some (.int .i64 x) ∧ w'.cell? ⟨q, 1, none⟩ = some (.int .i64 y) ∧ w'.cell? ⟨q, 2, none⟩ = some (.string s) ∧ Below X.heap.size X w') => unhide cW w' (laterB (unhide U0).bel h.2.2.2.2.2.2.2.2))
      clear cG cW
      go_region_held3 (fun w' => w'.cell? ⟨w.heap.size, 0, none⟩ = some (.int .i64 a1) ∧ w'.cell? ⟨w.heap.size, 1, none⟩ = some (.int .i64 a2) ∧ w'.cell? ⟨w.heap.size, 2, none⟩ = some (.int .i64 a3) ∧ w'.cell? ⟨w.heap.size, 3, none⟩ = some (.int .i64 a4) ∧ w'.cell? ⟨w.heap.size, 4, none⟩ = some (.int .i64 a5) ∧ w'.cell? ⟨q, 0, none⟩ = some (.int .i64 x) ∧ w'.cell? ⟨q, 1, none⟩ = some (.int .i64 y) ∧ w'.cell? ⟨q, 2, none⟩ = some (.string s) ∧ Below X.heap.size X w')
        (first | (refine keep8 ?_ hb; assumption) | (refine keep8d ?_; assumption) | (exact keep8d (unhide hall)))
        ((first
          | (go_at_call 40
             refine (unhide cG2 _ (by assumption)).mono ?_
             rintro e w4 ⟨rfl, hb⟩)
          | (go_at_call 39
             refine (unhide cW2 _ (by assumption)).mono ?_
             rintro e w5 ⟨rfl, hb⟩)))
      rename_i hH
      have U1 := hide ((unhide U0).later hH.2.2.2.2.2.2.2.2)
      clear hH hall cG2 cW2 U0
      go_wp2_with fail
      go_loopw [5, 33] (fun o t wx => ∃ (j g n c : Nat), j ≤ 6 ∧ t = .int .i64 j ∧ o = .slice (some ⟨g, 0, none⟩) n c ∧ n ≤ 6 * k + j ∧ Hid (UW w a1 a2 a3 a4 a5 q x y s g n c (P ++ wup k F j) wx)) (fun _ t _ => 6 - (intOf t).toNat)
      case atStart => exact ⟨0, g, n, c, by omega, rfl, rfl, by omega, U1⟩
      case round =>
        clear U1
        obtain ⟨j, g, n, c, hj, rfl, rfl, hn, U2⟩ := hrel
        by_cases hj6 : j < 6
        · have hjt : decide ((j : Int) < 6) = true := decide_eq_true (by omega)
          have hix := ix6 (F := F) hj6
          have zz : w.heap.size + 1 ≤ wr.heap.size := by have := own_lt (unhide U2).own; have := own_ge (unhide U2).own; omega
          cases hc : F j
          · rw [hc] at hix
            have U3 := hide (show UW w a1 a2 a3 a4 a5 q x y s g n c (P ++ wup k F (j + 1)) wr by rw [wup_no hc]; exact unhide U2)
            clear hc U2
            go_wp2
            go_roundw
            case rel => exact ⟨j + 1, g, n, c, by omega, by go_num, rfl, by omega, U3⟩
            case measure => simp [intOf]; omega
          · rw [hc] at hix
            have hc' := hide hc
            clear hc
            go_wp2_with (at_builtin; refine V.wpList_g _ rfl _ _ rfl (w.heap.size + 1) g n c (P ++ wup k F j) ((k : Int), (j : Int)) rfl ((unhide U2).own.alloc _) wr.heap.size rfl (alloc_new _ _) (by omega) (by simp; omega) ?_)
            intro g' c' w' ho' hg' hl'
            have U' := hide ((unhide U2).app ho' hg' (by simpa using hl'))
            clear ho' hg' hl' U2
            have U3 := hide (show UW w a1 a2 a3 a4 a5 q x y s g' (n + 1) c' (P ++ wup k F (j + 1)) w' by rw [wup_yes (unhide hc')]; first | exact unhide U' | (rw [← List.append_assoc]; exact unhide U'))
            clear U'
            go_wp2
            go_roundw
            case rel => exact ⟨j + 1, g', n + 1, c', by omega, by go_num, rfl, by omega, U3⟩
            case measure => simp [intOf]; omega
        · have hjt : decide ((j : Int) < 6) = false := decide_eq_false (by omega)
          have hj7 : j = 6 := by omega
          have oF := hide (show V.Own wr (w.heap.size + 1) g n c (unl (a1, a2, a3, a4, a5) l (k + 1)) by rw [unhide hstep, ← hj7]; exact (unhide U2).own)
          have bF := hide (unhide U2).bel
          have yF := hide (unhide U2).sty
          clear U2 hj7
          go_wp2
          go_roundw
          case rel => exact ⟨k + 1, g, n, c, by omega, by go_num, rfl, by omega, oF, bF, yF⟩
          case measure => simp [intOf]; omega
    · have hke : k = l.length := by omega
      have hlt2 : decide ((k : Int) < (l.length : Int)) = false := decide_eq_false (by omega)
      have ho2 := hide (show V.Own wr w.heap.size g R.length c R by
        have h1 := unhide ho
        rw [hke, unhide hR'] at h1
        have h2 := V.own_len h1
        rw [h2]
        exact own_mono h1 (by omega))
      have hnR : n = R.length := by
        have h1 := unhide ho
        rw [hke, unhide hR'] at h1
        exact (V.own_len h1).symm
      subst hnR
      clear ho hke
      go_wp2
      go_ret
      exact ⟨_, _, rfl, by have := own_ge (unhide ho2); omega, unhide ho2, unhide hb⟩

end Go.Proofs.YtcpllfjhhlbmiaaDoor
