/-
  For every code: the program's worries come in their order and hold, and titles that are later by the same have as many; where the library's variable lies there.
-/
import Derived.Test.YtcpllfjhhlbmiaaDoorWoD
import Derived.Test.YtcpllfjhhlbmiaaDoorWoP
import Derived.Test.YtcpllfjhhlbmiaaDoorUnI
import Derived.Test.YtcpllfjhhlbmiaaDoorUnS
import Derived.Test.YtcpllfjhhlbmiaaDoorDlI
import Derived.Test.YtcpllfjhhlbmiaaDoorWoX
import Derived.BigQuiet
namespace Go.Proofs.YtcpllfjhhlbmiaaDoor
open Go.RowKit
set_option linter.unusedVariables false
set_option linter.unusedSimpArgs false

theorem tf_one {s : Sy} {k : Nat} {p : Int} {x : Kl} (h : tf s k p x 1 = true) : x.2.1 - x.1 < s.1 := by simpa [tf] using h
theorem tf_two {s : Sy} {k : Nat} {p : Int} {x : Kl} (h : tf s k p x 2 = true) : 0 < k ∧ x.1 - p < s.2.1 := by simpa [tf] using h
theorem pTo_at {l : List Kl} {r : Nat} {z : Kl} (h : l[r]? = some z) : pTo l (r + 1) = z.2.1 := by
  unfold pTo
  rw [Nat.add_sub_cancel, h]
/-- what a round knows -/
def Wy (s : Sy) (l : List Kl) (j : Nat) (b : Int) (x : Kl) : Prop := (0 ≤ x.1 ∧ x.1 < x.2.1 ∧ x.2.1 ≤ 359999999) ∧
  ((b = 1 ∧ x.2.1 - x.1 < s.1) ∨ (b = 2 ∧ ∃ r z, j = r + 1 ∧ l[r]? = some z ∧ 0 ≤ z.2.1 ∧ z.2.1 ≤ 359999999 ∧ x.1 - z.2.1 < s.2.1) ∨ (b ≠ 1 ∧ b ≠ 2))
theorem wy_of {s : Sy} {l : List Kl} {i : Nat} {y : Int × Int} (h : (unr s l)[i]? = some y) : ∃ (j : Nat) (b : Int) (x : Kl), y = ((j : Int), b) ∧ l[j]? = some x ∧ Wy s l j b x := by
  obtain ⟨h1, h2, j, m, x, hx, rfl, hm, ht⟩ := unr_at h
  refine ⟨j, m, x, rfl, hx, tOk_rng h1 x (List.mem_of_getElem? hx), ?_⟩
  by_cases e1 : m = 1
  · subst e1; exact .inl ⟨rfl, tf_one ht⟩
  by_cases e2 : m = 2
  · subst e2
    obtain ⟨hk, hp⟩ := tf_two ht
    obtain ⟨r, rfl⟩ : ∃ r, j = r + 1 := ⟨j - 1, by omega⟩
    have hr : r < l.length := by have := (List.getElem?_eq_some_iff.1 hx).1; omega
    obtain ⟨z, hz⟩ : ∃ z, l[r]? = some z := ⟨_, List.getElem?_eq_getElem hr⟩
    rw [pTo_at hz] at hp
    have := tOk_rng h1 z (List.mem_of_getElem? hz)
    exact .inr (.inl ⟨rfl, r, z, rfl, hz, by omega, by omega, hp⟩)
  · exact .inr (.inr ⟨by omega, by omega⟩)
/-- a title's cells -/
theorem kl_at {w wr : World} {gl r : Nat} {L : List Kl} {x : Kl} (h : Kls w (some ⟨gl, 0, none⟩) L) (hb : Below w.heap.size w wr) (hx : L[r]? = some x) : wr.cell? ⟨gl, r * 3, none⟩ = some (.int .i64 x.1) ∧ wr.cell? ⟨gl, r * 3 + 1, none⟩ = some (.int .i64 x.2.1) ∧ wr.cell? ⟨gl, r * 3 + 2, none⟩ = some (.string x.2.2) := by
  obtain ⟨b, o, e, i, c0, c1, c2⟩ := h r x hx
  injection e with e
  injection e with e e'
  subst e e'
  rw [Nat.zero_add] at c0 c1 c2
  exact ⟨((bcell hb).1 _ _ i).trans c0, ((bcell hb).1 _ _ i).trans c1, ((bcell hb).1 _ _ i).trans c2⟩
theorem wo_at {w wr : World} {g i : Nat} {R : List V.Kl} {y : V.Kl} (h : V.Kls w (some ⟨g, 0, none⟩) R) (hb : Below w.heap.size w wr) (hy : R[i]? = some y) : wr.cell? ⟨g, i * 2, none⟩ = some (.int .i64 y.1) ∧ wr.cell? ⟨g, i * 2 + 1, none⟩ = some (.int .i64 y.2) := by
  obtain ⟨b, o, e, i', c0, c1⟩ := h i y hy
  injection e with e
  injection e with e e'
  subst e e'
  rw [Nat.zero_add] at c0 c1
  exact ⟨((bcell hb).1 _ _ i').trans c0, ((bcell hb).1 _ _ i').trans c1⟩

set_option maxRecDepth 100000 in
set_option maxHeartbeats 25600000 in
theorem lawWo {W : World} (a : Option Addr) (len cap : Nat) (hr : RdB W W.heap.size a len) (hM : MaxL W) :
    Calls Tryd.prog 4 #[.slice a len cap] W fun e w' => e = .returned (.bool true) ∧ Below W.heap.size W w' := by
  have hr' := hide hr
  have hM' := hide hM
  clear hr hM
  go_enter Tryd.func4, Tryd.ntmps4
  go_wp2_with fail
  refine (big_any a len cap W).mono ?_
  rintro e w0 ⟨rfl, rfl⟩
  by_cases hb : 4096 < len
  · rw [decide_eq_true hb]
    go_wp2
    go_ret
    exact ⟨rfl, Below.refl _ _⟩
  rw [decide_eq_false hb]
  go_wp2_with fail
  refine (dun_any a len cap w0 (by omega) (unhide hr')).mono ?_
  rintro e w1 ⟨gl, n, c, L, s, rfl, hn, ow, hsz, k1⟩
  have hLn := own_len ow
  have OL := hide (kls_own ow)
  have hsz' := hide hsz
  have H := hide k1
  clear ow hsz k1
  obtain ⟨s1, s2, s3, s4, s5⟩ := s
  obtain ⟨R, hR⟩ : ∃ R, unr (s1, s2, s3, s4, s5) L = R := ⟨_, rfl⟩
  have hR' := hide hR
  have hRl : R.length ≤ 1200 := by rw [← hR]; exact unr_len _ _
  have V0 := hide (alloc_new w1 (.cells #[.int .i64 s1, .int .i64 s2, .int .i64 s3, .int .i64 s4, .int .i64 s5] 36))
  have al := (Below.refl w1.heap.size w1).alloc (Nat.le_refl _) (.cells #[.int .i64 s1, .int .i64 s2, .int .i64 s3, .int .i64 s4, .int .i64 s5] 36)
  have H := hide (laterB (unhide H) al)
  have OL := hide ((unhide OL).below al)
  clear al
  obtain ⟨e0, e1, e2, e3, e4⟩ := blk5 (unhide V0)
  have c1 := hide (show Calls Tryd.prog 15 #[.slice (some ⟨gl, 0, none⟩) n c, ag5 (s1, s2, s3, s4, s5)] _ _ by
    have h5 := iunr_any (some ⟨gl, 0, none⟩) c L (s1, s2, s3, s4, s5) R _ (by omega) (unhide OL) (fun x hx => by have := unhide hsz' x hx; omega) (MaxL.below (unhide hM') (unhide H)) hR
    rw [hLn] at h5
    exact h5)
  clear hR
  go_wp2_with fail
  refine (unhide c1).mono ?_
  clear c1 e0 e1 e2 e3 e4
  generalize w1.alloc (.cells #[.int .i64 s1, .int .i64 s2, .int .i64 s3, .int .i64 s4, .int .i64 s5] 36) = X1 at *
  generalize w1.heap.size = F at *
  rintro e w2 ⟨g2, c2, rfl, _, o2, kb⟩
  have H := hide (laterB (unhide H) kb)
  have OL := hide ((unhide OL).below kb)
  have V0 := hide (blk_below (unhide V0) kb)
  have OW := hide (V.kls_own o2)
  have hgw := own_lt o2
  clear kb o2
  obtain ⟨e0, e1, e2, e3, e4⟩ := blk5 (unhide V0)
  have c3 := hide (show Calls Tryd.prog 16 #[.slice (some ⟨gl, 0, none⟩) n c, ag5 (s1, s2, s3, s4, s5)] w2 _ by
    have h5 := sunr_any (some ⟨gl, 0, none⟩) c L (s1, s2, s3, s4, s5) R w2 (by omega) (unhide OL) (fun x hx => by have := unhide hsz' x hx; omega) (unhide hR')
    rw [hLn] at h5
    exact h5)
  go_wp2_with fail
  refine (unhide c3).mono ?_
  clear c3 e0 e1 e2 e3 e4
  rintro e w3 ⟨g3, c4, rfl, _, _, kb⟩
  have H := hide (laterB (unhide H) kb)
  have OL := hide ((unhide OL).below kb)
  have V0 := hide (blk_below (unhide V0) kb)
  have OW := hide ((unhide OW).below kb)
  clear kb hgw
  have gRR : ((R.length : Int) != R.length) = false := by simp
  have hLn' := hide hLn
  obtain ⟨N, hN⟩ : ∃ N, R.length = N := ⟨_, rfl⟩
  have hN' := hide hN
  rw [hN] at gRR hRl ⊢
  clear hN hLn
  go_wp2
  go_loopw [6] (fun t wr => ∃ k : Nat, k ≤ N ∧ t = .int .i64 k ∧ Hid (Below w3.heap.size w3 wr)) (fun t _ => N - (intOf t).toNat)
  case atStart => exact ⟨0, by omega, rfl, hide (Below.refl _ _)⟩
  case round =>
    obtain ⟨i, hi, rfl, hw⟩ := hrel
    by_cases hlt : i < N
    · obtain ⟨y, hy⟩ : ∃ y, R[i]? = some y := ⟨R[i]'(by have := unhide hN'; omega), List.getElem?_eq_getElem _⟩
      obtain ⟨j, b, x, rfl, hx, hWy⟩ := wy_of (show (unr (s1, s2, s3, s4, s5) L)[i]? = some y by rw [unhide hR']; exact hy)
      have hWy' := hide hWy
      have hjn : j < n := by have := (List.getElem?_eq_some_iff.1 hx).1; have := unhide hLn'; omega
      obtain ⟨x1, x2, x3⟩ := x
      have Bn := hide ((unhide hw).alloc (unhide hw).size (.cells #[.int .i64 x1, .int .i64 x2, .string x3] 32))
      obtain ⟨f0, f1⟩ := wo_at (unhide OW) (unhide hw) hy
      obtain ⟨f0', f1'⟩ := wo_at (unhide OW) (unhide Bn) hy
      obtain ⟨t0, t1, t2⟩ := kl_at (unhide OL) (unhide hw) hx
      obtain ⟨n0, n1, n2⟩ := blk3 (alloc_new wr (.cells #[.int .i64 x1, .int .i64 x2, .string x3] 32))
      obtain ⟨v0, v1, v2, v3, v4⟩ := blk5 (show (wr.alloc (.cells #[.int .i64 x1, .int .i64 x2, .string x3] 32)).heap[F]? = _ from ((unhide Bn).block F (lt_blk (unhide V0))).trans (unhide V0))
      obtain ⟨⟨r0, r1, r2⟩, hcases⟩ := hWy
      have hprev : Hid (i = 0 ∨ ∃ p a' b', i = p + 1 ∧ (wr.alloc (.cells #[.int .i64 x1, .int .i64 x2, .string x3] 32)).cell? ⟨g2, p * 2, none⟩ = some (.int .i64 a') ∧ (wr.alloc (.cells #[.int .i64 x1, .int .i64 x2, .string x3] 32)).cell? ⟨g2, p * 2 + 1, none⟩ = some (.int .i64 b') ∧ (a' < j ∨ (a' = j ∧ b' < b))) := hide (by
        cases i with
        | zero => exact .inl rfl
        | succ p =>
          obtain ⟨y', hy'⟩ : ∃ y', R[p]? = some y' := ⟨R[p]'(by have := unhide hN'; omega), List.getElem?_eq_getElem _⟩
          obtain ⟨q0, q1⟩ := wo_at (unhide OW) (unhide Bn) hy'
          have hlt2 := unr_next (s := (s1, s2, s3, s4, s5)) (l := L) (i := p) (by rw [unhide hR']; exact hy') (by rw [unhide hR']; exact hy)
          exact .inr ⟨p, y'.1, y'.2, rfl, q0, q1, hlt2⟩)
      have hgap : Hid (∀ r z, L[r]? = some z → (wr.alloc (.cells #[.int .i64 x1, .int .i64 x2, .string x3] 32)).cell? ⟨gl, r * 3 + 1, none⟩ = some (.int .i64 z.2.1)) := hide (fun r z hz => (kl_at (unhide OL) (unhide Bn) hz).2.1)
      have hxx := hide (show L[j]? = some (x1, x2, x3) from hx)
      clear hx hy
      simp only at r0 r1 r2
      have w1' : IntKind.i64.wrap (x2 - x1) = x2 - x1 := by rw [IntKind.wrap_i64]; omega
      have hji : decide ((j : Int) < n) = true := decide_eq_true (by omega)
      have hprev2 := unhide hprev
      clear hprev hxx hWy'
      rcases hprev2 with hp | ⟨p, a', b', hp, q0, q1, ho | ⟨rfl, ho⟩⟩
      · have g0 : decide ((0 : Int) < (i : Int)) = false := decide_eq_false (by omega)
        have g0' : decide (0 < i) = false := decide_eq_false (by omega)
        have hp0 := hide hp
        clear hp
        rcases hcases with hc | hc | hc
        · obtain ⟨rfl, hs⟩ := hc
          simp only at hs
          have gs : decide (s1 ≤ x2 - x1) = false := decide_eq_false (by omega)
          clear hs
          go_wp2_with fail
          refine wp_region_quiet_lit (by kernel_rfl) lex11 ?_
          repeat (go_big_quiet_step (fail))
          refine wpQuiet_nil ?_
          intro _ hw'
          obtain ⟨nq, hw''⟩ := hw'
          subst hw''
          go_wp2
          go_roundw
          case rel => exact ⟨i + 1, by omega, by go_num, hide (below_drewN (unhide Bn) nq)⟩
          case measure => simp [intOf]; omega
        · obtain ⟨rfl, r, z, hjr, hz, z0, z1, hs⟩ := hc
          simp only at hs
          have gs : decide (s2 ≤ x1 - z.2.1) = false := decide_eq_false (by omega)
          have gj : ((j : Int) == 0) = false := by simp; omega
          have gj' : (j == 0) = false := by simp; omega
          have hwj : IntKind.i64.wrap ((j : Int) - 1) = (r : Int) := by rw [IntKind.wrap_i64]; omega
          have hrn : r < n := by omega
          have cz := unhide hgap r z hz
          have w2' : IntKind.i64.wrap (x1 - z.2.1) = x1 - z.2.1 := by rw [IntKind.wrap_i64]; omega
          have hjr' := hide hjr
          have hz' := hide hz
          clear hs hjr hz
          go_wp2_with fail
          refine wp_region_quiet_lit (by kernel_rfl) lex11 ?_
          repeat (go_big_quiet_step (fail))
          refine wpQuiet_nil ?_
          intro _ hw'
          obtain ⟨nq, hw''⟩ := hw'
          subst hw''
          go_wp2
          go_roundw
          case rel => exact ⟨i + 1, by omega, by go_num, hide (below_drewN (unhide Bn) nq)⟩
          case measure => simp [intOf]; omega
        · obtain ⟨hb1, hb2⟩ := hc
          have gb1 : (b == 1) = false := by simpa using hb1
          have gb2 : (b == 2) = false := by simpa using hb2
          clear hb1 hb2
          go_wp2_with fail
          refine wp_region_quiet_lit (by kernel_rfl) lex11 ?_
          repeat (go_big_quiet_step (fail))
          refine wpQuiet_nil ?_
          intro _ hw'
          obtain ⟨nq, hw''⟩ := hw'
          subst hw''
          go_wp2
          go_roundw
          case rel => exact ⟨i + 1, by omega, by go_num, hide (below_drewN (unhide Bn) nq)⟩
          case measure => simp [intOf]; omega
      · have g0 : decide ((0 : Int) < (i : Int)) = true := decide_eq_true (by omega)
        have g0' : decide (0 < i) = true := decide_eq_true (by omega)
        have hwi : IntKind.i64.wrap ((i : Int) - 1) = (p : Int) := by rw [IntKind.wrap_i64]; omega
        have hpN : p < N := by omega
        have ga : decide ((j : Int) < a') = false := decide_eq_false (by omega)
        have gb : ((j : Int) == a') = false := by simp; omega
        have hp0 := hide hp
        clear hp ho
        rcases hcases with hc | hc | hc
        · obtain ⟨rfl, hs⟩ := hc
          simp only at hs
          have gs : decide (s1 ≤ x2 - x1) = false := decide_eq_false (by omega)
          clear hs
          go_wp2_with fail
          refine wp_region_quiet_lit (by kernel_rfl) lex11 ?_
          repeat (go_big_quiet_step (fail))
          refine wpQuiet_nil ?_
          intro _ hw'
          obtain ⟨nq, hw''⟩ := hw'
          subst hw''
          go_wp2
          go_roundw
          case rel => exact ⟨i + 1, by omega, by go_num, hide (below_drewN (unhide Bn) nq)⟩
          case measure => simp [intOf]; omega
        · obtain ⟨rfl, r, z, hjr, hz, z0, z1, hs⟩ := hc
          simp only at hs
          have gs : decide (s2 ≤ x1 - z.2.1) = false := decide_eq_false (by omega)
          have gj : ((j : Int) == 0) = false := by simp; omega
          have gj' : (j == 0) = false := by simp; omega
          have hwj : IntKind.i64.wrap ((j : Int) - 1) = (r : Int) := by rw [IntKind.wrap_i64]; omega
          have hrn : r < n := by omega
          have cz := unhide hgap r z hz
          have w2' : IntKind.i64.wrap (x1 - z.2.1) = x1 - z.2.1 := by rw [IntKind.wrap_i64]; omega
          have hjr' := hide hjr
          have hz' := hide hz
          clear hs hjr hz
          go_wp2_with fail
          refine wp_region_quiet_lit (by kernel_rfl) lex11 ?_
          repeat (go_big_quiet_step (fail))
          refine wpQuiet_nil ?_
          intro _ hw'
          obtain ⟨nq, hw''⟩ := hw'
          subst hw''
          go_wp2
          go_roundw
          case rel => exact ⟨i + 1, by omega, by go_num, hide (below_drewN (unhide Bn) nq)⟩
          case measure => simp [intOf]; omega
        · obtain ⟨hb1, hb2⟩ := hc
          have gb1 : (b == 1) = false := by simpa using hb1
          have gb2 : (b == 2) = false := by simpa using hb2
          clear hb1 hb2
          go_wp2_with fail
          refine wp_region_quiet_lit (by kernel_rfl) lex11 ?_
          repeat (go_big_quiet_step (fail))
          refine wpQuiet_nil ?_
          intro _ hw'
          obtain ⟨nq, hw''⟩ := hw'
          subst hw''
          go_wp2
          go_roundw
          case rel => exact ⟨i + 1, by omega, by go_num, hide (below_drewN (unhide Bn) nq)⟩
          case measure => simp [intOf]; omega
      · have g0 : decide ((0 : Int) < (i : Int)) = true := decide_eq_true (by omega)
        have g0' : decide (0 < i) = true := decide_eq_true (by omega)
        have hwi : IntKind.i64.wrap ((i : Int) - 1) = (p : Int) := by rw [IntKind.wrap_i64]; omega
        have hpN : p < N := by omega
        have ga : decide ((j : Int) < (j : Int)) = false := decide_eq_false (by omega)
        have gb : ((j : Int) == (j : Int)) = true := by simp
        have gc : decide (b ≤ b') = false := decide_eq_false (by omega)
        have hp0 := hide hp
        clear hp ho
        rcases hcases with hc | hc | hc
        · obtain ⟨rfl, hs⟩ := hc
          simp only at hs
          have gs : decide (s1 ≤ x2 - x1) = false := decide_eq_false (by omega)
          clear hs
          go_wp2_with fail
          refine wp_region_quiet_lit (by kernel_rfl) lex11 ?_
          repeat (go_big_quiet_step (fail))
          refine wpQuiet_nil ?_
          intro _ hw'
          obtain ⟨nq, hw''⟩ := hw'
          subst hw''
          go_wp2
          go_roundw
          case rel => exact ⟨i + 1, by omega, by go_num, hide (below_drewN (unhide Bn) nq)⟩
          case measure => simp [intOf]; omega
        · obtain ⟨rfl, r, z, hjr, hz, z0, z1, hs⟩ := hc
          simp only at hs
          have gs : decide (s2 ≤ x1 - z.2.1) = false := decide_eq_false (by omega)
          have gj : ((j : Int) == 0) = false := by simp; omega
          have gj' : (j == 0) = false := by simp; omega
          have hwj : IntKind.i64.wrap ((j : Int) - 1) = (r : Int) := by rw [IntKind.wrap_i64]; omega
          have hrn : r < n := by omega
          have cz := unhide hgap r z hz
          have w2' : IntKind.i64.wrap (x1 - z.2.1) = x1 - z.2.1 := by rw [IntKind.wrap_i64]; omega
          have hjr' := hide hjr
          have hz' := hide hz
          clear hs hjr hz
          go_wp2_with fail
          refine wp_region_quiet_lit (by kernel_rfl) lex11 ?_
          repeat (go_big_quiet_step (fail))
          refine wpQuiet_nil ?_
          intro _ hw'
          obtain ⟨nq, hw''⟩ := hw'
          subst hw''
          go_wp2
          go_roundw
          case rel => exact ⟨i + 1, by omega, by go_num, hide (below_drewN (unhide Bn) nq)⟩
          case measure => simp [intOf]; omega
        · obtain ⟨hb1, hb2⟩ := hc
          have gb1 : (b == 1) = false := by simpa using hb1
          have gb2 : (b == 2) = false := by simpa using hb2
          clear hb1 hb2
          go_wp2_with fail
          refine wp_region_quiet_lit (by kernel_rfl) lex11 ?_
          repeat (go_big_quiet_step (fail))
          refine wpQuiet_nil ?_
          intro _ hw'
          obtain ⟨nq, hw''⟩ := hw'
          subst hw''
          go_wp2
          go_roundw
          case rel => exact ⟨i + 1, by omega, by go_num, hide (below_drewN (unhide Bn) nq)⟩
          case measure => simp [intOf]; omega
    · have H := hide (laterB (unhide H) (unhide hw))
      have OL := hide ((unhide OL).below (unhide hw))
      have V0 := hide (blk_below (unhide V0) (unhide hw))
      clear OW
      obtain ⟨M, ok, hD⟩ : ∃ M ok, dly 1000 L = (M, ok) := ⟨_, _, rfl⟩
      have hD' := hide hD
      have c5' := hide (show Calls Tryd.prog 17 #[.slice (some ⟨gl, 0, none⟩) n c, .int .i64 1000] wr _ by
        have h5 := idel_any (some ⟨gl, 0, none⟩) c L M 1000 ok wr (by have := unhide hLn'; omega) (unhide OL) (fun x hx => by have := unhide hsz' x hx; omega) (MaxL.below (unhide hM') (unhide H)) hD
        rw [unhide hLn'] at h5
        exact h5)
      clear hD
      go_wp2_with fail
      refine (unhide c5').mono ?_
      rintro e w5 ⟨g5, c6, rfl, q5, o5, kb⟩
      have H := hide (laterB (unhide H) kb)
      have OL := hide ((unhide OL).below kb)
      have V0 := hide (blk_below (unhide V0) kb)
      have OM := hide (kls_own o5)
      clear kb o5 c5'
      cases ok with
      | false =>
        have c7 := hide (show Calls Tryd.prog 18 #[.slice (some ⟨gl, 0, none⟩) n c, .int .i64 1000] w5 _ by
          have h5 := sdel_any (some ⟨gl, 0, none⟩) c L M 1000 false w5 (by have := unhide hLn'; omega) (unhide OL) (fun x hx => by have := unhide hsz' x hx; omega) (unhide hD')
          rw [unhide hLn'] at h5
          exact h5)
        go_wp2_with fail
        refine (unhide c7).mono ?_
        rintro e w6 ⟨g6, c8, rfl, _, _, kb⟩
        have H := hide (laterB (unhide H) kb)
        clear kb c7
        go_wp2
        go_ret
        exact ⟨rfl, unhide H⟩
      | true =>
        have hMl := dly_len (unhide hD')
        have hMs := hide (dly_sz (unhide hD') (unhide hsz'))
        obtain ⟨e0, e1, e2, e3, e4⟩ := blk5 (unhide V0)
        have c7 := hide (iunr_any (some ⟨g5, 0, none⟩) c6 M (s1, s2, s3, s4, s5) R w5 (by have := unhide hLn'; omega) (unhide OM) (fun x hx => by have := unhide hMs x hx; omega) (MaxL.below (unhide hM') (unhide H)) (by rw [unr_dly (unhide hD')]; exact unhide hR'))
        have gEE : ((N : Int) == N) = true := by simp
        rw [unhide hN'] at c7
        go_wp2_with fail
        refine (unhide c7).mono ?_
        rintro e w6 ⟨g6, c8, rfl, _, _, kb⟩
        have H := hide (laterB (unhide H) kb)
        clear kb c7 e0 e1 e2 e3 e4
        go_wp2
        go_ret
        exact ⟨rfl, unhide H⟩

end Go.Proofs.YtcpllfjhhlbmiaaDoor
