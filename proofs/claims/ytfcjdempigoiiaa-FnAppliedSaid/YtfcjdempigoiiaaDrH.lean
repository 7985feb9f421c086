/-
  Contract of the model's draw of a cut that comes of another one by edits, over a cursor on bytes that came in: it answers some list of clips in memory of its own, and writes into the cursor alone.
  Contract of the model's draw for Changes: it answers two lists of clips in memory of their own, and writes into nothing that was there.
-/
import Derived.Test.YtfcjdempigoiiaaSmC
import Derived.Test.YtfcjdempigoiiaaSEd2
import Derived.Test.YtfcjdempigoiiaaJnX
namespace Go.Proofs.Ytfcjdempigoiiaa
open Go.RowKit
set_option linter.unusedVariables false
set_option linter.unusedSimpArgs false

theorem ins_len (l : List Kl) (t : Int) (c : Kl) : (outL (insertS l t c)).length ≤ 300 := by
  unfold insertS
  split
  · exact edit_len _
  · simp [outL]
theorem ext_len (l : List Kl) (t n : Int) : (outL (extractS l t n)).length ≤ 300 := by
  unfold extractS
  split
  · exact edit_len _
  · simp [outL]
theorem ovr_len (l : List Kl) (t : Int) (c : Kl) : (outL (overS l t c)).length ≤ 300 := by
  unfold overS
  split
  · exact edit_len _
  · simp [outL]
section
variable {w wr w1 : World} {B g : Nat} {a : Option Addr} {len cap G n c : Nat} {L : List Kl}
theorem TS.edit (h : TS w B g a len cap wr G n c L) (hB : B ≤ g) {g2 c2 : Nat} {u : List Kl} (hb : Below wr.heap.size wr w1) (ho : Own w1 wr.heap.size g2 u.length c2 u) : TS w B g a len cap w1 g2 u.length c2 u :=
  ⟨h.ds.later hB hb, rfl, own_mono ho h.ds.gr.size⟩
end

set_option maxHeartbeats 6400000 in
theorem dnext_any (B g : Nat) (a : Option Addr) (len cap : Nat) (ta : Option Addr) (ct : Nat) (L : List Kl) (w : World) (hB : B ≤ g) (hl : len ≤ 9223372036854775807) (hc : CurAt w g a len cap) (hr : RdB w B a len) (hL : L.length ≤ 1000) (hk : Kls w ta L) :
    Calls Try.prog 22 #[.pointer (some ⟨g, 0, none⟩), .slice ta L.length ct] w fun e w' => ∃ G c M, e = .returned (.slice (some ⟨G, 0, none⟩) M.length c) ∧ M.length ≤ 1000 ∧ TS w B g a len cap w' G M.length c M := by
  have hg := hc.lt
  have hBw : B ≤ w.heap.size := by omega
  have D0 := hide (show DS w B g a len cap w from ⟨hc, hr, World.grownBy.refl _ _⟩)
  have hk' := hide hk
  clear hc hr hk
  go_enter Try.func22, Try.ntmps22
  go_wp2_with fail
  refine (sjoinX_any ta ct L _ (by omega) (unhide hk')).mono ?_
  rintro e w1 ⟨G1, c1, M1, rfl, hM1, q1, n1, b1⟩
  have T1 := hide (show TS w B g a len cap w1 G1 M1.length c1 M1 from ⟨(unhide D0).later hB b1, rfl, n1⟩)
  have hM1k : M1.length ≤ 1000 := by omega
  clear q1 n1 b1 D0 hk' hM1
  go_wp2_with fail
  refine (below_any B g a len cap 4 _ hB hl (unhide T1).ds.cur (unhide T1).ds.rd (by omega)).mono ?_
  rintro e w2 ⟨x1, rfl, x10, x11, k1, g1⟩
  have T2 := hide ((unhide T1).call hB hg k1 g1)
  obtain ⟨n0, rfl⟩ : ∃ m : Nat, x1 = m := ⟨x1.toNat, by omega⟩
  clear k1 g1 T1
  go_wp2
  go_loopw [5, 6] (fun s t wr => ∃ k G c : Nat, ∃ M : List Kl, k ≤ 4 ∧ M.length ≤ 1000 ∧ t = .int .i64 k ∧ s = .slice (some ⟨G, 0, none⟩) M.length c ∧ Hid (TS w B g a len cap wr G M.length c M)) (fun _ t _ => (intOf t).toNat)
  case atStart => exact ⟨n0, G1, c1, M1, by omega, hM1k, rfl, rfl, T2⟩
  case round =>
    clear T2
    obtain ⟨k, G, c, M, hk4, hM, rfl, rfl, hT⟩ := hrel
    have hmx : M.length ≤ maxLen := by unfold maxLen; omega
    by_cases hk0 : 0 < k
    · have hk0' : decide ((0 : Int) < k) = true := by simp; omega
      by_cases hTO : TOk M
      · have hv := hide (show decide (TOk M) = true from decide_eq_true hTO)
        have hAO := hide hTO.2.1
        obtain ⟨N, hN⟩ : ∃ N, N = clen M := ⟨_, rfl⟩
        have hN0 : 0 ≤ N := by rw [hN]; exact clen_nonneg hTO.2.1
        have hN1 : N ≤ 10000000 := by rw [hN]; exact hTO.2.2
        have hN' := hide hN
        clear hTO hN
        go_wp2_with fail
        refine (strack_any (some ⟨G, 0, none⟩) c M true _ hmx (kls_own (unhide hT).ow) (unhide hv)).mono ?_
        rintro e w3 ⟨rfl, b3⟩
        have T3 := hide ((unhide hT).later hB b3)
        clear b3 hT hv
        go_wp2_with fail
        refine (slen_any (some ⟨G, 0, none⟩) c M _ (by omega) (unhide hAO) (kls_own (unhide T3).ow)).mono ?_
        rintro e w4 ⟨rfl, hw4⟩
        have hw5 := hw4.symm
        subst hw5
        rw [← unhide hN']
        go_wp2_with fail
        refine (below_any B g a len cap (N + 1) _ hB hl (unhide T3).ds.cur (unhide T3).ds.rd (by omega)).mono ?_
        rintro e w5 ⟨t, rfl, t0, t1, k5, g5⟩
        have T5 := hide ((unhide T3).call hB hg k5 g5)
        clear k5 g5 T3
        go_wp2_with fail
        refine (below_any B g a len cap 3 _ hB hl (unhide T5).ds.cur (unhide T5).ds.rd (by omega)).mono ?_
        rintro e w6 ⟨x, rfl, x0, x1, k6, g6⟩
        have T6 := hide ((unhide T5).call hB hg k6 g6)
        clear k6 g6 T5
        obtain rfl | rfl | rfl : x = 0 ∨ x = 1 ∨ x = 2 := by omega
        · go_wp2_with fail
          refine (dclip_any B g a len cap _ hB (by have := (unhide T6).ds.gr.size; omega) hl (unhide T6).ds.cur (unhide T6).ds.rd).mono ?_
          rintro e w7 ⟨y1, y2, y3, rfl, d7⟩
          have T7 := hide ((unhide T6).call hB hg d7.cur d7.gr)
          clear d7 T6
          go_wp2_with fail
          refine (sinsert_any (some ⟨G, 0, none⟩) c M t y1 y2 y3 _ hmx (kls_own (unhide T7).ow)).mono ?_
          rintro e w8 hE
          have hRl := ins_len M t (y1, y2, y3)
          generalize insertS M t (y1, y2, y3) = R at hE hRl
          obtain ⟨g2, c2, rfl, q2, n2, k2⟩ := hE
          have TA := hide ((unhide T7).later hB k2)
          have TB := hide ((unhide T7).edit hB k2 n2)
          clear q2 n2 k2 T7
          cases R with
          | none =>
            go_wp2
            go_roundw
            case rel => exact ⟨k - 1, G, c, M, by omega, hM, by go_num, rfl, TA⟩
            case measure => simp [intOf]; omega
          | some u =>
            go_wp2
            go_roundw
            case rel => exact ⟨k - 1, g2, c2, u, by omega, by have : u.length ≤ 300 := hRl; omega, by go_num, rfl, TB⟩
            case measure => simp [intOf]; omega
        · go_wp2_with fail
          refine (below_any B g a len cap 9 _ hB hl (unhide T6).ds.cur (unhide T6).ds.rd (by omega)).mono ?_
          rintro e w7 ⟨y, rfl, y0, y1, k7, g7⟩
          have T7 := hide ((unhide T6).call hB hg k7 g7)
          clear k7 g7 T6
          go_wp2_with fail
          refine (sextract_any (some ⟨G, 0, none⟩) c M t _ _ hmx (kls_own (unhide T7).ow)).mono ?_
          rintro e w8 hE
          have hRl := ext_len M t (1 + y)
          generalize extractS M t (1 + y) = R at hE hRl
          obtain ⟨g2, c2, rfl, q2, n2, k2⟩ := hE
          have TA := hide ((unhide T7).later hB k2)
          have TB := hide ((unhide T7).edit hB k2 n2)
          clear q2 n2 k2 T7
          cases R with
          | none =>
            go_wp2
            go_roundw
            case rel => exact ⟨k - 1, G, c, M, by omega, hM, by go_num, rfl, TA⟩
            case measure => simp [intOf]; omega
          | some u =>
            go_wp2
            go_roundw
            case rel => exact ⟨k - 1, g2, c2, u, by omega, by have : u.length ≤ 300 := hRl; omega, by go_num, rfl, TB⟩
            case measure => simp [intOf]; omega
        · go_wp2_with fail
          refine (dclip_any B g a len cap _ hB (by have := (unhide T6).ds.gr.size; omega) hl (unhide T6).ds.cur (unhide T6).ds.rd).mono ?_
          rintro e w7 ⟨y1, y2, y3, rfl, d7⟩
          have T7 := hide ((unhide T6).call hB hg d7.cur d7.gr)
          clear d7 T6
          go_wp2_with fail
          refine (sover_any (some ⟨G, 0, none⟩) c M t y1 y2 y3 _ hmx (kls_own (unhide T7).ow)).mono ?_
          rintro e w8 hE
          have hRl := ovr_len M t (y1, y2, y3)
          generalize overS M t (y1, y2, y3) = R at hE hRl
          obtain ⟨g2, c2, rfl, q2, n2, k2⟩ := hE
          have TA := hide ((unhide T7).later hB k2)
          have TB := hide ((unhide T7).edit hB k2 n2)
          clear q2 n2 k2 T7
          cases R with
          | none =>
            go_wp2
            go_roundw
            case rel => exact ⟨k - 1, G, c, M, by omega, hM, by go_num, rfl, TA⟩
            case measure => simp [intOf]; omega
          | some u =>
            go_wp2
            go_roundw
            case rel => exact ⟨k - 1, g2, c2, u, by omega, by have : u.length ≤ 300 := hRl; omega, by go_num, rfl, TB⟩
            case measure => simp [intOf]; omega
      · have hv := hide (show decide (TOk M) = false from decide_eq_false hTO)
        clear hTO
        go_wp2_with fail
        refine (strack_any (some ⟨G, 0, none⟩) c M false _ hmx (kls_own (unhide hT).ow) (unhide hv)).mono ?_
        rintro e w3 ⟨rfl, b3⟩
        have T3 := hide ((unhide hT).later hB b3)
        clear b3 hT hv
        go_wp2
        go_ret
        exact ⟨G, c, M, rfl, hM, unhide T3⟩
    · have hk0' : decide ((0 : Int) < k) = false := by simp; omega
      go_wp2
      go_ret
      exact ⟨G, c, M, rfl, hM, unhide hT⟩

end Go.Proofs.Ytfcjdempigoiiaa

namespace Go.Proofs.Ytfcjdempigoiiaa
open Go.RowKit
set_option linter.unusedVariables false
set_option linter.unusedSimpArgs false

/-- two lists of clips that were drawn -/
def DrT2 (w w' : World) (G c : Nat) (L : List Kl) (H d : Nat) (M : List Kl) : Prop :=
  L.length ≤ 1000 ∧ M.length ≤ 1000 ∧ Own w' w.heap.size G L.length c L ∧ Own w' w.heap.size H M.length d M ∧ Below w.heap.size w w'

set_option maxHeartbeats 3200000 in
theorem dchg_any (a : Option Addr) (len cap : Nat) (w : World) (hl : len ≤ 4096) (hr : RdB w w.heap.size a len) :
    Calls Try.prog 6 #[.slice a len cap] w fun e w' => ∃ G c L H d M, e = .returned (.tuple #[.slice (some ⟨G, 0, none⟩) L.length c, .slice (some ⟨H, 0, none⟩) M.length d]) ∧ DrT2 w w' G c L H d M := by
  have hl' : len ≤ 9223372036854775807 := by omega
  have hr' := hide hr
  clear hr
  go_enter Try.func6, Try.ntmps6
  go_wp2_with fail
  refine (new_any a len cap w hl' (by omega) (unhide hr')).mono ?_
  rintro e w1 ⟨g, rfl, hg0, hcur, hb1⟩
  have r1 : RdB w1 w.heap.size a len := by
    intro j hj
    obtain ⟨b, o, z, e, hb, hc, h0, h1⟩ := unhide hr' j hj
    exact ⟨b, o, z, e, hb, ((bcell hb1).1 _ _ hb).trans hc, h0, h1⟩
  have D1 := hide (show DS w1 w.heap.size g a len cap w1 from ⟨hcur, r1, World.grownBy.refl _ _⟩)
  have H1 := hide hb1
  have hs1 := hb1.size
  have hg1 := hcur.lt
  clear hcur r1 hb1 hr'
  go_wp2_with fail
  refine (dtrack_any w.heap.size g a len cap _ hg0 hl' (unhide D1).cur (unhide D1).rd).mono ?_
  rintro e w2 ⟨G, c, L, rfl, hLl, T⟩
  have T2 := hide T
  clear T D1
  go_wp2_with fail
  refine (once_any w.heap.size g a len cap 4 _ hg0 hl' (unhide T2).ds.cur (unhide T2).ds.rd (by omega)).mono ?_
  rintro e w3 ⟨q, rfl, k3, g3⟩
  have T3 := hide ((unhide T2).call hg0 hg1 k3 g3)
  clear k3 g3 T2
  cases q with
  | true =>
    go_wp2_with fail
    refine (dtrack_any w.heap.size g a len cap _ hg0 hl' (unhide T3).ds.cur (unhide T3).ds.rd).mono ?_
    rintro e w4 ⟨H, d, M, rfl, hMl, T⟩
    have T4 := hide ((unhide T3).call hg0 hg1 T.ds.cur T.ds.gr)
    have hF := hide (show DrT2 w w4 G c L H d M from ⟨hLl, hMl, own_mono (unhide T4).ow hs1, own_mono T.ow (Nat.le_trans hs1 (unhide T3).ds.gr.size), below_grown (unhide H1) (unhide T4).ds.gr hg0⟩)
    clear T T4 T3
    go_wp2
    exact bodyPost_ret (v := .tuple #[.slice (some ⟨G, 0, none⟩) L.length c, .slice (some ⟨H, 0, none⟩) M.length d]) (by simp [results, Try.results6, go_sem]) rfl ⟨G, c, L, H, d, M, rfl, unhide hF⟩
  | false =>
    go_wp2_with fail
    refine (dnext_any w.heap.size g a len cap (some ⟨G, 0, none⟩) c L _ hg0 hl' (unhide T3).ds.cur (unhide T3).ds.rd hLl (kls_own (unhide T3).ow)).mono ?_
    rintro e w4 ⟨H, d, M, rfl, hMl, T⟩
    have T4 := hide ((unhide T3).call hg0 hg1 T.ds.cur T.ds.gr)
    have hF := hide (show DrT2 w w4 G c L H d M from ⟨hLl, hMl, own_mono (unhide T4).ow hs1, own_mono T.ow (Nat.le_trans hs1 (unhide T3).ds.gr.size), below_grown (unhide H1) (unhide T4).ds.gr hg0⟩)
    clear T T4 T3
    go_wp2
    exact bodyPost_ret (v := .tuple #[.slice (some ⟨G, 0, none⟩) L.length c, .slice (some ⟨H, 0, none⟩) M.length d]) (by simp [results, Try.results6, go_sem]) rfl ⟨G, c, L, H, d, M, rfl, unhide hF⟩

end Go.Proofs.Ytfcjdempigoiiaa
