/-
  For every code: titles that are delayed and drawn forward again by the program are as they were; no conditions but the library's variable.
-/
import Derived.Test.YtcpllfjhhlbmiaaDoorDrD
import Derived.Laws.StructEq
namespace Go.Proofs.YtcpllfjhhlbmiaaDoor
open Go.RowKit
set_option linter.unusedVariables false
set_option linter.unusedSimpArgs false

theorem neg_any (x : Int) : (-x : Int) = -x := rfl
set_option maxRecDepth 100000 in
set_option maxHeartbeats 3200000 in
theorem lawDd {W : World} (a : Option Addr) (len cap : Nat) (hr : RdB W W.heap.size a len) (hM : MaxL W) :
    Calls Tryd.prog 5 #[.slice a len cap] W fun e w' => e = .returned (.bool true) ∧ Below W.heap.size W w' := by
  have hr' := hide hr
  have hM' := hide hM
  clear hr hM
  go_enter Tryd.func5, Tryd.ntmps5
  go_wp2_with fail
  refine (big_any a len cap W).mono ?_
  rintro e w0 ⟨rfl, rfl⟩
  by_cases hb : 4096 < len
  · rw [decide_eq_true hb]
    go_wp2
    go_ret
    exact ⟨rfl, Below.refl _ _⟩
  rw [decide_eq_false hb]
  go_wp2_with fail
  refine (ddl_any a len cap w0 (by omega) (unhide hr')).mono ?_
  rintro e w1 ⟨gl, n, c, L, by', rfl, hn, ow, hsz, k1⟩
  have hLn := own_len ow
  have OL := hide (kls_own ow)
  have ow' := hide ow
  have B1 := hide k1
  have hsz' := hide hsz
  obtain ⟨R, ok, hR⟩ : ∃ R ok, dly by' L = (R, ok) := ⟨_, _, rfl⟩
  have hR' := hide hR
  have c1 := hide (show Calls Tryd.prog 17 #[.slice (some ⟨gl, 0, none⟩) n c, .int .i64 by'] w1 _ by
    have h5 := idel_any (some ⟨gl, 0, none⟩) c L R by' ok w1 (by omega) (unhide OL) (fun x hx => by have := hsz x hx; omega) (MaxL.below (unhide hM') k1) hR
    rw [hLn] at h5
    exact h5)
  clear ow hsz k1 hR
  go_wp2_with fail
  refine (unhide c1).mono ?_
  rintro e w2 ⟨g2, c2, rfl, q2, o2, k2⟩
  have B2 := hide (laterB (unhide B1) k2)
  have OL2 := hide ((unhide OL).below k2)
  have OR := hide (kls_own o2)
  have c3 := hide (show Calls Tryd.prog 18 #[.slice (some ⟨gl, 0, none⟩) n c, .int .i64 by'] w2 _ by
    have h5 := sdel_any (some ⟨gl, 0, none⟩) c L R by' ok w2 (by omega) (unhide OL2) (fun x hx => by have := unhide hsz' x hx; omega) (unhide hR')
    rw [hLn] at h5
    exact h5)
  clear o2 k2 c1 OL B1
  go_wp2_with fail
  refine (unhide c3).mono ?_
  rintro e w3 ⟨g3, c4, rfl, q3, o3, k3⟩
  have B3 := hide (laterB (unhide B2) k3)
  have OL3 := hide ((unhide OL2).below k3)
  have OR3 := hide ((unhide OR).below k3)
  have gv : (ok != ok) = false := by simp
  clear o3 k3 c3 OL2 OR B2
  cases ok with
  | false =>
    have hR0 := dly_no (unhide hR')
    subst hR0
    go_wp2
    go_ret
    exact ⟨rfl, unhide B3⟩
  | true =>
  have hbk := hide (dly_back (unhide hR'))
  have hrg := dly_rng (unhide hR')
  have hRl := dly_len (unhide hR')
  have hw9 : IntKind.i64.wrap (-by') = -by' := by rw [IntKind.wrap_i64]; omega
  have c5 := hide (idel_any (some ⟨g2, 0, none⟩) c2 R L (-by') true w3 (by omega) (unhide OR3) (fun x hx => by have := dly_sz (unhide hR') (unhide hsz') x hx; omega) (MaxL.below (unhide hM') (unhide B3)) (unhide hbk))
  go_wp2_with fail
  refine (unhide c5).mono ?_
  rintro e w4 ⟨g4, c6, rfl, q4, o4, k4⟩
  have B4 := hide (laterB (unhide B3) k4)
  have OL4 := hide ((unhide OL3).below k4)
  have OB4 := hide (kls_own o4)
  have gn : ((L.length : Int) != n) = false := by rw [hLn]; simp
  rw [hLn]
  have hLn' := hide hLn
  clear o4 k4 c5 OL3 OR3 B3 hLn hR' hbk hRl
  have gnn : ((n : Int) != n) = false := by simp
  go_wp2
  go_loopw [11] (fun t wr => ∃ k : Nat, k ≤ n ∧ t = .int .i64 k ∧ Hid (Below w4.heap.size w4 wr)) (fun t _ => n - (intOf t).toNat)
  case atStart => exact ⟨0, by omega, rfl, hide (Below.refl _ _)⟩
  case round =>
    obtain ⟨k, hk, rfl, hw⟩ := hrel
    by_cases hlt : k < n
    · obtain ⟨x, hx⟩ : ∃ x, L[k]? = some x := ⟨L[k]'(by have := unhide hLn'; omega), List.getElem?_eq_getElem _⟩
      obtain ⟨b1, o1, e1, i1, c0, c1, c2⟩ := unhide OL4 k x hx
      obtain ⟨b2, o2, e2, i2, d0, d1, d2⟩ := unhide OB4 k x hx
      injection e1 with e1
      injection e1 with e1 e1'
      injection e2 with e2
      injection e2 with e2 e2'
      subst e1 e1' e2 e2'
      have C := fun o => (bcell (unhide hw)).1 _ o i1
      have E := fun o => (bcell (unhide hw)).1 _ o i2
      obtain ⟨x1, x2, x3⟩ := x
      have f0 := (C _).trans c0
      have f1 := (C _).trans c1
      have f2 := (C _).trans c2
      have h0 := (E _).trans d0
      have h1 := (E _).trans d1
      have h2 := (E _).trans d2
      rw [Nat.zero_add] at f0 f1 f2 h0 h1 h2
      clear hx c0 c1 c2 d0 d1 d2 C E i1 i2
      go_wp2_with fail
      go_region
      go_wp2
      go_roundw
      case rel => exact ⟨k + 1, by omega, by go_num, hide (unhide hw).drew⟩
      case measure => simp [intOf]; omega
    · go_wp2
      go_ret
      exact ⟨rfl, laterB (unhide B4) (unhide hw)⟩

end Go.Proofs.YtcpllfjhhlbmiaaDoor
