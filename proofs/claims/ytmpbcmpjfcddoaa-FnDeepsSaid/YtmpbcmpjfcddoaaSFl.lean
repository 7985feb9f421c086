/-
  Contract of the model's Flat; nothing that was there is written.
-/
import Derived.Test.YtmpbcmpjfcddoaaFlP
import Derived.Test.YtmpbcmpjfcddoaaSSo
namespace Go.Proofs.Ytmpbcmpjfcddoaa
open Go.RowKit
set_option linter.unusedVariables false
set_option linter.unusedSimpArgs false
namespace D

theorem Bx.drewN {w : World} {g : Nat} {x y z a : Int} (h : Go.Proofs.Ytmpbcmpjfcddoaa.Bx w g x y z a) : Go.Proofs.Ytmpbcmpjfcddoaa.Bx w.drew g x y z a := h.block rfl
set_option maxRecDepth 100000 in
set_option maxHeartbeats 3200000 in
theorem sfl_any (B gg n cap : Nat) (l : List Kl) (V0 V1 V2 V3 : Int) (w : World) (hO : Own w B gg n cap l) (hn : n ≤ 100000000) (hV : flatOf l = (V0, V1, V2, V3)) : Calls Try.prog 11 #[.slice (some ⟨gg, 0, none⟩) n cap] w fun e w' => e = .returned (ag4 V0 V1 V2 V3) ∧ Below w.heap.size w w' := by
  have hLn : l.length = n := own_len hO
  have hV' := hide hV
  have hL' := hide hLn
  have hb0 : Hid (Below w.heap.size w ((w.alloc (.cells #[.int .i64 0, .int .i64 0, .int .i64 0, .int .i64 0] 29)).alloc (.cells #[.int .i64 0, .int .i64 0, .int .i64 0, .int .i64 0] 29))) := hide (((Below.refl _ _).alloc (Nat.le_refl _) _).alloc (by simp) _)
  have hO' := hide (ownsRow_below hO (unhide hb0))
  have hB2 : Hid (Go.Proofs.Ytmpbcmpjfcddoaa.Bx ((w.alloc (.cells #[.int .i64 0, .int .i64 0, .int .i64 0, .int .i64 0] 29)).alloc (.cells #[.int .i64 0, .int .i64 0, .int .i64 0, .int .i64 0] 29)) w.heap.size 0 0 0 0) := hide ((Go.Proofs.Ytmpbcmpjfcddoaa.Bx.new w 29 0 0 0 0).below ((Below.refl _ _).alloc (Nat.le_refl _) _))
  have hB3 : Hid (Go.Proofs.Ytmpbcmpjfcddoaa.Bx ((w.alloc (.cells #[.int .i64 0, .int .i64 0, .int .i64 0, .int .i64 0] 29)).alloc (.cells #[.int .i64 0, .int .i64 0, .int .i64 0, .int .i64 0] 29)) (w.heap.size + 1) 0 0 0 0) := hide (by
    have h1 := Go.Proofs.Ytmpbcmpjfcddoaa.Bx.new (w.alloc (.cells #[.int .i64 0, .int .i64 0, .int .i64 0, .int .i64 0] 29)) 29 0 0 0 0
    rw [sz_alloc] at h1
    exact h1)
  clear hO hV hLn
  generalize hx : okL l = x
  have hx' := hide hx
  clear hx
  cases x
  · go_enter Try.func11, Try.ntmps11
    go_wp2_with fail
    refine (sdp_any B gg n cap l _ _ (unhide hO') hn (unhide hx')).mono ?_
    rintro e w1 ⟨rfl, hb1⟩
    have b1 := hide (laterB (unhide hb0) hb1)
    have B2 := hide ((unhide hB2).below hb1)
    have B3 := hide ((unhide hB3).below hb1)
    clear hb1 hb0 hB2 hB3 hO'
    obtain ⟨c0, c1, c2, c3, f0, f1, f2, f3⟩ := unhide B2
    obtain ⟨d0, d1, d2, d3, g0, g1, g2, g3⟩ := unhide B3
    have hR := hide ((unhide B2).set4 0 0 0 0)
    have hv : Hid (V0 = 0 ∧ V1 = 0 ∧ V2 = 0 ∧ V3 = 0) := hide (by
      have := unhide hV'
      unfold flatOf at this
      rw [unhide hx'] at this
      simp at this
      omega)
    go_wp2
    obtain ⟨r0, r1, r2, r3, _, _, _, _⟩ := unhide hR
    obtain ⟨rfl, rfl, rfl, rfl⟩ := unhide hv
    exact bodyPost_ret (v := ag4 0 0 0 0) (by simp [results, Try.results11, go_sem, r0, r1, r2, r3]) rfl ⟨rfl, set4_below (unhide b1) (by omega)⟩
  have hl200 : l.length ≤ 200 := by have := unhide hx'; unfold okL at this; simp at this; exact this.1
  have hn200 : n ≤ 200 := by have := unhide hL'; omega
  go_enter Try.func11, Try.ntmps11
  go_wp2_with fail
  refine (sdp_any B gg n cap l _ _ (unhide hO') hn (unhide hx')).mono ?_
  rintro e w1 ⟨rfl, hb1⟩
  have b1 := hide (laterB (unhide hb0) hb1)
  have B2 := hide ((unhide hB2).below hb1)
  have B3 := hide ((unhide hB3).below hb1)
  have O1 := hide (ownsRow_below (unhide hO') hb1)
  clear hb1 hb0 hB2 hB3 hO'
  go_wp2_with fail
  refine (sso_any B gg n cap l _ (unhide O1) (by omega)).mono ?_
  rintro e w2 ⟨g, c, rfl, ho2, hb2⟩
  have gge := own_ge ho2
  have b2 := hide (laterB (unhide b1) hb2)
  have b3lt := (unhide B3).lt
  have B2 := hide ((unhide B2).below hb2)
  have B3 := hide ((unhide B3).below hb2)
  have O2 := hide ho2
  have gb : w.heap.size + 1 < g := by omega
  obtain ⟨L, hL⟩ : ∃ L, srt l = L := ⟨_, rfl⟩
  rw [hL] at O2
  have hLk : Hid (∀ x ∈ L, okK x = true) := hide (by rw [← hL]; exact srt_ok (unhide hx'))
  have hVL : Hid (flatL L = (V0, V1, V2, V3)) := hide (by have := unhide hV'; unfold flatOf at this; rw [unhide hx', if_pos rfl, hL] at this; exact this)
  have hLl : Hid (L.length = n) := hide (own_len (unhide O2))
  have tn : IntKind.i64.wrap ((n : Int) - 1) = (n : Int) - 1 := by rw [IntKind.wrap_i64]; omega
  have hst : Hid (flatL (L.drop n) = (0, 0, 0, 0)) := hide (by rw [List.drop_of_length_le (by rw [unhide hLl]; omega)]; rfl)
  clear hb2 ho2 b1 O1 hL hV' gge b3lt
  go_wp2
  go_loopw [5] (fun s wr => ∃ (k : Nat) (j q0 q1 q2 q3 : Int), k ≤ n ∧ s = .int .i64 j ∧ Hid (j = (k : Int) - 1) ∧ Hid (flatL (L.drop k) = (q0, q1, q2, q3)) ∧ Hid (Go.Proofs.Ytmpbcmpjfcddoaa.Bx wr (w.heap.size + 1) q0 q1 q2 q3) ∧ Hid (Go.Proofs.Ytmpbcmpjfcddoaa.Bx wr w.heap.size 0 0 0 0) ∧ Hid (Own wr w1.heap.size g n c L) ∧ Hid (Below w.heap.size w wr)) (fun s _ => (intOf s + 1).toNat)
  case atStart => exact ⟨n, _, 0, 0, 0, 0, Nat.le_refl _, rfl, hide rfl, hst, B3, B2, O2, b2⟩
  case round =>
    clear hst B3 B2 O2 b2
    obtain ⟨k, j, q0, q1, q2, q3, hk, rfl, hj, hf, B3, B2, O2, b2⟩ := hrel
    by_cases hk0 : 0 < k
    rotate_left
    · have hke : k = 0 := by omega
      have hj2 : j = -1 := by have := unhide hj; omega
      subst hj2
      have hq : Hid ((q0, q1, q2, q3) = (V0, V1, V2, V3)) := hide (by have := unhide hf; rw [hke] at this; rw [← this]; exact unhide hVL)
      obtain ⟨c0, c1, c2, c3, f0, f1, f2, f3⟩ := unhide B2
      obtain ⟨d0, d1, d2, d3, g0, g1, g2, g3⟩ := unhide B3
      have hR := hide ((unhide B2).set4 q0 q1 q2 q3)
      go_wp2
      obtain ⟨r0, r1, r2, r3, _, _, _, _⟩ := unhide hR
      have hq2 := unhide hq
      cases hq2
      exact bodyPost_ret (v := ag4 V0 V1 V2 V3) (by simp [results, Try.results11, go_sem, r0, r1, r2, r3]) rfl ⟨rfl, set4_below (unhide b2) (by omega)⟩
    obtain ⟨J, hJ⟩ : ∃ J, k = J + 1 := ⟨k - 1, by omega⟩
    have hjJ : j = (J : Int) := by have := unhide hj; omega
    subst hjJ
    obtain ⟨⟨x0, x1, x2, x3, x4⟩, hx⟩ : ∃ x, L[J]? = some x := ⟨L[J]'(by have := unhide hLl; omega), List.getElem?_eq_getElem (by have := unhide hLl; omega)⟩
    obtain ⟨⟨U0, U1, U2, U3⟩, hU⟩ : ∃ v : Int × Int × Int × Int, over (x1, x2, x3, x4) (q0, q1, q2, q3) = v := ⟨_, rfl⟩
    have hnew : Hid (flatL (L.drop J) = (U0, U1, U2, U3)) := hide (by rw [flat_step hx, ← hJ, unhide hf]; exact hU)
    have hpx : Hid (Pix (x1, x2, x3, x4)) := hide (okK_pix (unhide hLk _ (List.mem_of_getElem? hx)))
    have hpq : Hid (Pix (q0, q1, q2, q3)) := hide (by rw [← unhide hf]; exact flat_pix (fun y hy => unhide hLk y (List.mem_of_mem_drop hy)))
    have hU' := hide hU
    obtain ⟨e0, e1, e2, e3, e4⟩ := own_cells hx (unhide O2)
    obtain ⟨d0, d1, d2, d3, g0, g1, g2, g3⟩ := unhide B3
    have hJ' := hide hJ
    have bJ : (J : Int) < n := by omega
    have bJ0 : (0 : Int) ≤ J := by omega
    have tJ : decide ((0 : Int) ≤ J) = true := by simp
    have b3lt := (unhide B3).lt
    have lgt := own_lt (unhide O2)
    have hJk : J ≤ n := by omega
    clear hx hU hJ hj hf
    go_wp2_with fail
    go_region_with (go_at_call 26; refine (sover_any x1 x2 x3 x4 q0 q1 q2 q3 U0 U1 U2 U3 _ (unhide hpx).1 (unhide hpq).1 (unhide hU')).mono ?_; rintro e w3 ⟨rfl, hb3⟩; have B3n := hide ((unhide B3).drew.below hb3); obtain ⟨d0, d1, d2, d3, g0, g1, g2, g3⟩ := unhide B3n)
    all_goals
      have hd3 := (show Below wr.heap.size wr wr.drew from ⟨rfl, rfl, rfl, Nat.le_refl _, fun _ _ => rfl⟩)
      have ne1 : w.heap.size ≠ w.heap.size + 1 := by omega
      have ne2 : g ≠ w.heap.size + 1 := by omega
      have B3m := hide ((unhide B3n).set4 U0 U1 U2 U3)
      have B2m := hide ((((((unhide B2).below hd3).below hb3).other (b := w.heap.size + 1) (i := 0) (v := .int .i64 U0) ne1).other (b := w.heap.size + 1) (i := 1) (v := .int .i64 U1) ne1).other (b := w.heap.size + 1) (i := 2) (v := .int .i64 U2) ne1 |>.other (b := w.heap.size + 1) (i := 3) (v := .int .i64 U3) ne1)
      have O2m := hide (own_kept (ownsRow_below (ownsRow_below (unhide O2) hd3) hb3) (grown_set (i := 3) (v := .int .i64 U3) (grown_set (i := 2) (v := .int .i64 U2) (grown_set (i := 1) (v := .int .i64 U1) (grown_set (i := 0) (v := .int .i64 U0) (grown_refl w3 (some (w.heap.size + 1))))))) ne2)
      have b2m := hide (set4_below (u := .int .i64 U0) (v := .int .i64 U1) (s := .int .i64 U2) (t := .int .i64 U3) (laterB (laterB (unhide b2) hd3) hb3) (show w.heap.size ≤ w.heap.size + 1 by omega))
      have tj : IntKind.i64.wrap ((J : Int) - 1) = (J : Int) - 1 := by rw [IntKind.wrap_i64]; omega
      clear hd3 hb3 B3n B3 B2 O2 b2 e0 e1 e2 e3 e4 d0 d1 d2 d3 g0 g1 g2 g3 hU' hpx hpq
      go_wp2
      go_roundw
      case rel => exact ⟨J, _, U0, U1, U2, U3, hJk, rfl, hide rfl, hnew, B3m, B2m, O2m, b2m⟩
      case measure => simp [intOf]; try omega

end D
end Go.Proofs.Ytmpbcmpjfcddoaa
