/-
  For every list of bytes: what is put into the track that is drawn of them is shown where it was put, the track is as much longer, and when it is taken out again the track is as it was, joined; no conditions.
-/
import Derived.Test.YtnmahojdaodlgaaDrI
import Derived.Test.YtnmahojdaodlgaaFacIns
import Derived.Test.YtnmahojdaodlgaaFacExt
import Derived.Test.YtnmahojdaodlgaaSEd2
import Derived.Deep.RegionHeld3
namespace Go.Proofs.Ytnmahojdaodlgaa
open Go.RowKit
set_option linter.unusedVariables false
set_option linter.unusedSimpArgs false

theorem keepK {w w0 w1 : World} {a1 a2 a3 : Addr} {v1 v2 v3 : Value}
    (h : w0.cell? a1 = some v1 ∧ w0.cell? a2 = some v2 ∧ w0.cell? a3 = some v3 ∧ Below w.heap.size w w0) (hb : Below w0.heap.size w0 w1) :
    w1.cell? a1 = some v1 ∧ w1.cell? a2 = some v2 ∧ w1.cell? a3 = some v3 ∧ Below w.heap.size w w1 := by
  obtain ⟨h1, h2, h3, h7⟩ := h
  exact ⟨cell_later hb h1, cell_later hb h2, cell_later hb h3, h7.trans (hb.mono h7.size)⟩
theorem keepKd {w w0 : World} {a1 a2 a3 : Addr} {v1 v2 v3 : Value}
    (h : w0.cell? a1 = some v1 ∧ w0.cell? a2 = some v2 ∧ w0.cell? a3 = some v3 ∧ Below w.heap.size w w0) :
    w0.drew.cell? a1 = some v1 ∧ w0.drew.cell? a2 = some v2 ∧ w0.drew.cell? a3 = some v3 ∧ Below w.heap.size w w0.drew := by
  obtain ⟨h1, h2, h3, h7⟩ := h
  exact ⟨h1, h2, h3, h7.drew⟩
theorem klsH {X w' : World} {g c : Nat} {L : List Kl} {a1 a2 a3 : Addr} {v1 v2 v3 : Value} (ho : Own X 0 g L.length c L)
    (h : w'.cell? a1 = some v1 ∧ w'.cell? a2 = some v2 ∧ w'.cell? a3 = some v3 ∧ Below X.heap.size X w') : Kls w' (some ⟨g, 0, none⟩) L :=
  kls_own (ownsRow_below ho h.2.2.2)

theorem ins_u {l u : List Kl} {t x y z : Int} (h : insertS l t (x, y, z) = some u) : u.length ≤ 300 ∧ lenOf l = clen l ∧ lenOf u = clen l + z ∧ 0 ≤ clen l ∧ clen l ≤ 10000000 ∧ 1 ≤ z ∧ z ≤ 10000000 ∧ frameAt u t = (x, y) ∧ extractS u t z = some (join l) ∧ joinOf l = join l := by
  obtain ⟨h1, ⟨a1, a2, a3, a4, a5⟩, _, h3, h4, h5, h6⟩ := insert_sees h
  have h7 := h1.2.2
  have h8 := clen_nonneg h1.2.1
  simp only at a1 a2 a3 a4 a5 h4 h5 h6
  refine ⟨h3.1, if_pos h1, ?_, h8, h7, by omega, by omega, h5, h6, joinOf_yes h1⟩
  unfold lenOf
  rw [if_pos h3, h4]

set_option maxRecDepth 10000 in
set_option maxHeartbeats 3200000 in
theorem lawIo {W : World} (a : Option Addr) (len cap : Nat) (hr : RdB W W.heap.size a len) :
    Calls Try.prog 3 #[.slice a len cap] W fun e w' => e = .returned (.bool true) ∧ Below W.heap.size W w' := by
  have hr' := hide hr
  clear hr
  by_cases hbig : (4096 : Int) < len
  · have hb' := hide (decide_eq_true hbig)
    clear hbig
    go_enter Try.func3, Try.ntmps3
    go_wp2_with fail
    refine (big_any a len cap true _ (unhide hb')).mono ?_
    rintro e w0 ⟨rfl, hw0⟩
    have hw1 := hw0.symm
    subst hw1
    go_wp2
    go_ret
    exact ⟨rfl, Below.refl _ _⟩
  have hb' := hide (decide_eq_false hbig)
  have hl : len ≤ 4096 := by omega
  clear hbig
  go_enter Try.func3, Try.ntmps3
  go_wp2_with fail
  refine (big_any a len cap false _ (unhide hb')).mono ?_
  rintro e w0 ⟨rfl, hw0⟩
  have hw1 := hw0.symm
  subst hw1
  clear hb'
  go_wp2_with fail
  refine (dins_any a len cap _ hl (unhide hr')).mono ?_
  rintro e w1 ⟨G, c, L, t, x, y, z, rfl, hL, ho, hb⟩
  obtain ⟨V, hV⟩ : ∃ V, V = w1.alloc (.cells #[.int .i64 x, .int .i64 y, .int .i64 z] 26) := ⟨_, rfl⟩
  have hAl : Below w1.heap.size w1 V := by rw [hV]; exact (Below.refl _ _).alloc (Nat.le_refl _) _
  have d0 : V.cell? ⟨w1.heap.size, 0, none⟩ = some (.int .i64 x) := by rw [hV]; simp [go_sem]
  have d1 : V.cell? ⟨w1.heap.size, 1, none⟩ = some (.int .i64 y) := by rw [hV]; simp [go_sem]
  have d2 : V.cell? ⟨w1.heap.size, 2, none⟩ = some (.int .i64 z) := by rw [hV]; simp [go_sem]
  have oL := hide (ownsRow_below (own_mono ho (Nat.zero_le _)) hAl)
  have HV := hide (laterB hb hAl)
  have hmx : L.length ≤ maxLen := by unfold maxLen; omega
  have hV' := hide hV
  clear ho hb hr' hAl hV
  obtain ⟨R, hR⟩ : ∃ R, R = insertS L t (x, y, z) := ⟨_, rfl⟩
  have hR' := hide hR
  clear hR
  go_wp2_with fail
  rw [← unhide hV']
  refine (iIns_any G 0 c L t x y z V hmx (kls_own (unhide oL))).mono ?_
  rintro e w2 hE
  rw [← unhide hR'] at hE
  obtain ⟨g2, c2, rfl, q2, n2, k2⟩ := hE
  have oU := hide (own_mono n2 (Nat.zero_le _))
  have oL2 := hide (ownsRow_below (unhide oL) k2)
  have H2 := hide k2
  have e0 := cell_later k2 d0
  have e1 := cell_later k2 d1
  have e2 := cell_later k2 d2
  clear n2 k2 q2 oL
  go_wp2_with fail
  refine (sinsert_any (some ⟨G, 0, none⟩) c L t x y z _ hmx (kls_own (unhide oL2))).mono ?_
  rintro e w3 hE
  rw [← unhide hR'] at hE
  obtain ⟨g3, c3, rfl, q3, n3, k3⟩ := hE
  have oS3 := hide (own_mono n3 (Nat.zero_le _))
  have oU3 := hide (ownsRow_below (unhide oU) k3)
  have oL3 := hide (ownsRow_below (unhide oL2) k3)
  have H3 := hide (laterB (unhide H2) k3)
  clear n3 k3 q3 oU oL2 H2 e0 e1 e2
  cases R with
  | none =>
    have e0 : outL none = [] := rfl
    have e1 : (none : Option (List Kl)).isSome = false := rfl
    rw [e0] at oU3 oS3 ⊢
    rw [e1]
    clear e0 e1
    go_wp2_with fail
    refine (sames_any _ _ _ _ [] _ (by simp) (kls_own (unhide oU3)) (kls_own (unhide oS3))).mono ?_
    rintro e w4 ⟨rfl, k4⟩
    have H4 := hide (laterB (unhide H3) k4)
    clear k4 H3 oU3 oS3 oL3
    go_wp2
    go_ret
    exact ⟨rfl, laterB (unhide HV) (unhide H4)⟩
  | some u =>
    have e0 : outL (some u) = u := rfl
    have e1 : (some u).isSome = true := rfl
    rw [e0] at oU3 oS3 ⊢
    rw [e1]
    clear e0 e1
    obtain ⟨hu, hlL, hlU, N0, N1, z0, z1, hfr, hex, hjo⟩ := ins_u (unhide hR').symm
    have hmu : u.length ≤ maxLen := by unfold maxLen; omega
    obtain ⟨N, hN⟩ : ∃ N, N = clen L := ⟨_, rfl⟩
    obtain ⟨J, hJ⟩ : ∃ J, J = join L := ⟨_, rfl⟩
    have hJl : J.length ≤ 300 := by rw [hJ, ← hjo]; exact joinOf_len L
    rw [← hN] at hlL hlU N0 N1
    rw [← hJ] at hex hjo
    have hlL' := hide hlL
    have hlU' := hide hlU
    have hfr' := hide hfr
    have hex' := hide hex
    have hjo' := hide hjo
    have hxx : (x == x) = true := by simp
    have hyy : (y == y) = true := by simp
    have hwz : IntKind.i64.wrap (N + z) = N + z := by rw [IntKind.wrap_i64]; omega
    have hNN : ((N + z) == (N + z)) = true := by simp
    have hNw : ((N + z) == IntKind.i64.wrap (N + z)) = true := by rw [hwz]; simp
    clear hlL hlU hN hJ hfr hex hjo
    go_wp2_with fail
    refine (sames_any _ _ _ _ u _ (by omega) (kls_own (unhide oU3)) (kls_own (unhide oS3))).mono ?_
    rintro e w4 ⟨rfl, k4⟩
    have oU4 := hide (ownsRow_below (unhide oU3) k4)
    have oL4 := hide (ownsRow_below (unhide oL3) k4)
    have H4 := hide (laterB (unhide H3) k4)
    have e2 := cell_later (unhide H4) d2
    clear k4 oU3 oL3 oS3 H3
    go_wp2_with fail
    refine (iExt_any g2 0 c2 u t z _ hmu (kls_own (unhide oU4))).mono ?_
    rintro e w5 hE
    rw [unhide hex'] at hE
    obtain ⟨g5, c5, rfl, q5, n5, k5⟩ := hE
    have f0 : outL (some J) = J := rfl
    have f1 : (some J).isSome = true := rfl
    rw [f0] at n5 ⊢
    rw [f1]
    have oJ5 := hide (own_mono n5 (Nat.zero_le _))
    have oU5 := hide (ownsRow_below (unhide oU4) k5)
    have oL5 := hide (ownsRow_below (unhide oL4) k5)
    have H5 := hide (laterB (unhide H4) k5)
    clear k5 n5 q5 oU4 oL4 H4 e2 f0 f1
    go_wp2_with fail
    refine (iframe_any (some ⟨g2, 0, none⟩) c2 u t _ hmu (kls_own (unhide oU5))).mono ?_
    rintro e w6 ⟨rfl, k6⟩
    rw [unhide hfr']
    have oJ := hide (ownsRow_below (unhide oJ5) k6)
    have oU := hide (ownsRow_below (unhide oU5) k6)
    have oL := hide (ownsRow_below (unhide oL5) k6)
    have H6 := hide (laterB (unhide H5) k6)
    have dd := hide (show w6.cell? ⟨w1.heap.size, 0, none⟩ = some (.int .i64 x) ∧ w6.cell? ⟨w1.heap.size, 1, none⟩ = some (.int .i64 y) ∧ w6.cell? ⟨w1.heap.size, 2, none⟩ = some (.int .i64 z) ∧ Below w6.heap.size w6 w6 from ⟨cell_later (unhide H6) d0, cell_later (unhide H6) d1, cell_later (unhide H6) d2, Below.refl _ _⟩)
    clear k6 oJ5 oU5 oL5 H5 d0 d1 d2
    go_wp2_with fail
    go_region_held3 (fun w' => w'.cell? ⟨w1.heap.size, 0, none⟩ = some (.int .i64 x) ∧ w'.cell? ⟨w1.heap.size, 1, none⟩ = some (.int .i64 y) ∧ w'.cell? ⟨w1.heap.size, 2, none⟩ = some (.int .i64 z) ∧ Below w6.heap.size w6 w')
      (first | (refine keepK ?_ hbA; assumption) | (refine keepK ?_ hbB; assumption) | (refine keepK ?_ hbC; assumption) | (exact keepKd (unhide dd)))
      (first
        | (go_at_call 22; refine (ijoined_any (some ⟨G, 0, none⟩) c L w6.drew hmx (klsH (unhide oL) (keepKd (unhide dd)))).mono ?_; rintro e wA hE; rw [unhide hjo'] at hE; obtain ⟨gA, cA, rfl, qA, nA, hbA⟩ := hE)
        | (go_at_call 19; refine (sames_any _ _ _ _ J wA (by omega) (klsH (unhide oJ) (keepK (keepKd (unhide dd)) hbA)) (kls_own nA)).mono ?_; rintro e wB ⟨rfl, hbB⟩)
        | (go_at_call 23; refine (ilength_any _ _ _ _ (by assumption) (by first | exact klsH (unhide oU) (by assumption) | exact klsH (unhide oL) (by assumption))).mono ?_; rintro e wC ⟨rfl, hbC⟩; first | rw [unhide hlU'] | rw [unhide hlL']))
    all_goals
      rename_i hH
      have H7 := hide (laterB (unhide H6) hH.2.2.2)
      clear hH
      go_wp2
      go_ret
      exact ⟨rfl, laterB (unhide HV) (unhide H7)⟩

end Go.Proofs.Ytnmahojdaodlgaa
