/-
  For every list of bytes: whole numbers that are drawn of it come back from their waves by less than a millionth, and the first wave is their sum; no condition.
-/
import Derived.Test.YtmhciigjjamjkaaLwA
namespace Go.Proofs.Ytmhciigjjamjkaa
open Go.RowKit
set_option linter.unusedVariables false
set_option linter.unusedSimpArgs false

set_option maxRecDepth 10000 in
set_option maxHeartbeats 6400000 in
theorem lawWb {W : World} (a : Option Addr) (cap : Nat) (zs : List Int) (hm : zs.length ≤ maxLen) (hz : a = none → cap = 0) (hr : Row false 0 W.heap.size W a zs) :
    Calls Try.prog 3 #[.slice a zs.length cap] W fun e w' => e = .returned (.bool true) ∧ Below W.heap.size W w' := by
  have hr' := hide hr
  have hz' := hide hz
  clear hr hz
  by_cases hbig : (4096 : Int) < zs.length
  · have hb' := hide (decide_eq_true hbig)
    clear hbig
    go_enter Try.func3, Try.ntmps3
    go_wp2_with fail
    refine (big_any a zs.length cap true _ (unhide hb')).mono ?_
    rintro e w0 ⟨rfl, hw0⟩
    have hw1 := hw0.symm
    subst hw1
    go_wp2
    go_ret
    exact ⟨rfl, Below.refl _ _⟩
  have hb' := hide (decide_eq_false hbig)
  have hl : zs.length ≤ 4096 := by omega
  obtain ⟨len, hlen⟩ : ∃ len, zs.length = len := ⟨_, rfl⟩
  have hlen' := hide hlen
  have hpk := hide (fun (m : Int) (w : World) (h0 : 0 < m) (h : Row false 0 w.heap.size w a zs) => pick_any a cap zs m w (by omega) h0 h)
  have hpk2 := hide (fun (g c : Nat) (x m : Int) (w : World) (x0 : 0 ≤ x ∧ x ≤ 255) (h0 : 0 < m) (ho : w.ownsRow W.heap.size 5 1 (.slice (some ⟨g, 0, none⟩) (1 + len) c) (1 + len) ([u8 x] ++ zs.map u8)) => by
    have hrow : Row false 0 w.heap.size w (some ⟨g, 0, none⟩) (x :: zs) := by
      refine ((row_of_own (zs := x :: zs) (B := W.heap.size) (n := 1 + len) (cap := c) ho ?_).read.mono (Nat.zero_le _) (own_lt ho))
      intro z hz
      rcases List.mem_cons.1 hz with rfl | hz
      · exact x0
      · exact (unhide hr').bd z hz
    have h := pick_any (some ⟨g, 0, none⟩) c (x :: zs) m w (by simp; omega) h0 hrow
    have e : (x :: zs).length = 1 + len := by simp; omega
    rw [e] at h
    exact h)
  have hpk3 := hide (fun (g c : Nat) (x y m : Int) (w : World) (x0 : 0 ≤ x ∧ x ≤ 255) (y0 : 0 ≤ y ∧ y ≤ 255) (h0 : 0 < m) (ho : w.ownsRow W.heap.size 5 1 (.slice (some ⟨g, 0, none⟩) (2 + len) c) (2 + len) ([u8 x, u8 y] ++ zs.map u8)) => by
    have hrow : Row false 0 w.heap.size w (some ⟨g, 0, none⟩) (x :: y :: zs) := by
      refine ((row_of_own (zs := x :: y :: zs) (B := W.heap.size) (n := 2 + len) (cap := c) ho ?_).read.mono (Nat.zero_le _) (own_lt ho))
      intro z hz
      rcases List.mem_cons.1 hz with rfl | hz
      · exact x0
      · rcases List.mem_cons.1 hz with rfl | hz
        · exact y0
        · exact (unhide hr').bd z hz
    have h := pick_any (some ⟨g, 0, none⟩) c (x :: y :: zs) m w (by simp; omega) h0 hrow
    have e : (x :: y :: zs).length = 2 + len := by simp; omega
    rw [e] at h
    exact h)
  rw [hlen] at hl hb' hpk hm ⊢
  clear hbig hlen
  go_enter Try.func3, Try.ntmps3
  go_wp2_with fail
  refine (big_any a len cap false _ (unhide hb')).mono ?_
  rintro e w0 ⟨rfl, hw0⟩
  have hw1 := hw0.symm
  subst hw1
  clear hb'
  go_wp2_with fail
  refine (unhide hpk 4 _ (by omega) (unhide hr')).mono ?_
  rintro e w1 ⟨x1, rfl, x10, x11, hw1⟩
  have hw2 := hw1.symm
  subst hw2
  obtain ⟨K, rfl⟩ : ∃ K : Nat, x1 = K := ⟨x1.toNat, by omega⟩
  have K3 : K ≤ 3 := by omega
  clear x10 x11 hpk
  go_wp2
  go_loop [3, 4] (fun s t => ∃ (k q : Nat), t = .int .i64 k ∧ s = .int .i64 q ∧ k ≤ 3 ∧ q ≤ 8 ∧ Hid (∃ j, j + k ≤ 3 ∧ q = 2 ^ j)) (fun _ t => (intOf t).toNat)
  case atStart => exact ⟨K, 1, rfl, rfl, K3, by omega, hide ⟨0, by omega, rfl⟩⟩
  case round =>
    obtain ⟨k, q, rfl, rfl, hk, hq, hg⟩ := hrel
    by_cases hlt : 0 < k
    · have hlt' : decide ((0 : Int) < k) = true := by rw [decide_eq_true_iff]; omega
      have hq4 : Hid (∃ j, j + (k - 1) ≤ 3 ∧ 2 * q = 2 ^ j) ∧ 2 * q ≤ 8 := by
        obtain ⟨j, h1, h2⟩ := unhide hg
        refine ⟨hide ⟨j + 1, by omega, by rw [h2, Nat.pow_succ]; omega⟩, ?_⟩
        rcases (show j = 0 ∨ j = 1 ∨ j = 2 by omega) with rfl | rfl | rfl <;> simp at h2 <;> omega
      clear hg
      go_wp2
      go_round
      case rel => exact ⟨k - 1, 2 * q, by congr 1; omega, by first | rfl | (congr 1; omega) | (congr 1), by omega, hq4.2, hq4.1⟩
      case measure => simp [intOf]; omega
    · obtain rfl : k = 0 := by omega
      have hN : okN q := by
        obtain ⟨j, h1, h2⟩ := unhide hg
        rcases (show j = 0 ∨ j = 1 ∨ j = 2 ∨ j = 3 by omega) with rfl | rfl | rfl | rfl <;> simp at h2 <;> subst h2 <;> unfold okN <;> omega
      have hN' := hide hN
      have q1 : 1 ≤ q := by unfold okN at hN; omega
      obtain ⟨N, rfl⟩ : ∃ N, N = q := ⟨q, rfl⟩
      clear hg hN hk hlt K3
      have hown0 := World.ownsRow_lit (base := W.heap.size) (e := 28) (size := 2) W #[] 0 (Nat.le_refl _) (by unfold maxLen; omega) rfl
      have S0 := hide (WS.start W (fun _ => 0) (fun _ => 0) _ hown0 (by simp) ((Below.refl _ _).alloc (Nat.le_refl _) _))
      clear hown0
      go_wp2
      go_loopw [5, 7] (fun s t wr => ∃ (i g c : Nat) (L : List (Nat × Nat)) (X Y : Nat → Int) (s1 s2 : Nat), i ≤ N ∧ t = .int .i64 i ∧ s = .slice (some ⟨g, 0, none⟩) i c ∧ W.heap.size ≤ g ∧ Hid (WS W wr (W.heap.size + 1) g i c L X Y s1 s2)) (fun _ t _ => N - (intOf t).toNat)
      case atStart => exact ⟨0, _, _, _, _, _, _, _, by omega, rfl, rfl, Nat.le_refl _, S0⟩
      case round =>
        clear S0
        obtain ⟨i, g, c, L, X, Y, s1, s2, hi, rfl, rfl, hg, hS⟩ := hrel
        obtain ⟨S, hSS⟩ : ∃ S, S = W.heap.size + 1 := ⟨_, rfl⟩
        rw [← hSS] at hS ⊢
        have hSS' := hide hSS
        clear hSS
        by_cases hlt : i < N
        · have hlt' : decide ((i : Int) < N) = true := by rw [decide_eq_true_iff]; omega
          have i8 : i < 8 := by omega
          have s2' := (unhide hS).b.size
          have kX := (Below.refl wr.heap.size wr).alloc (Nat.le_refl _) (.cells #[.int .u8 (i : Int)] 5)
          have oX := hide (lit_own wr (i : Int) (B := W.heap.size) s2')
          have SX := hide ((unhide hS).later kX)
          have rX := hide ((unhide hr').belowW (unhide SX).b)
          go_wp2_with (at_builtin; refine wpList_bytesO _ rfl _ _ rfl W.heap.size 1 (wr.alloc (.cells #[.int .u8 (i : Int)] 5)).heap.size (.slice (some ⟨wr.heap.size, 0, none⟩) 1 1) [Go.Proofs.Ytmhciigjjamjkaa.u8 i] rfl (unhide oX) a len cap zs (unhide hlen') rfl (unhide rX) (unhide hz') (by omega) (unhide SX).b.size ?_)
          intro v4 w4 own4 gr4 _
          obtain ⟨g4, c4, rfl, hg4⟩ := own_some own4 (by omega)
          have b4 : Below wr.heap.size wr w4 := kX.grown gr4 (by simp) (fun k hk => by have e : wr.heap.size = k := Option.some.inj hk; omega)
          have S4 := hide ((unhide hS).later b4)
          have o4 := hide own4
          clear own4 gr4 kX oX rX SX b4 hS s2'
          go_wp2_with fail
          refine (unhide hpk2 g4 c4 (i : Int) 2001 _ (by omega) (by omega) (unhide o4)).mono ?_
          rintro e w5 ⟨x3, rfl, x30, x31, hw5⟩
          have hw6 := hw5.symm
          subst hw6
          have hx : Hid (Ie.IsI (FloatKind.f64.nearest (x3 - 1000)) (x3 - 1000)) := hide (Ie.of_int (by omega) (by omega))
          clear o4
          have s2' := (unhide S4).b.size
          have kX := (Below.refl w4.heap.size w4).alloc (Nat.le_refl _) (.cells #[.int .u8 (i : Int), .int .u8 1] 5)
          have oX := hide (lit_own2 w4 (i : Int) 1 (B := W.heap.size) s2')
          have SX := hide ((unhide S4).later kX)
          have rX := hide ((unhide hr').belowW (unhide SX).b)
          go_wp2_with (at_builtin; refine wpList_bytesO _ rfl _ _ rfl W.heap.size 2 (w4.alloc (.cells #[.int .u8 (i : Int), .int .u8 1] 5)).heap.size (.slice (some ⟨w4.heap.size, 0, none⟩) 2 2) [Go.Proofs.Ytmhciigjjamjkaa.u8 i, Go.Proofs.Ytmhciigjjamjkaa.u8 1] rfl (unhide oX) a len cap zs (unhide hlen') rfl (unhide rX) (unhide hz') (by omega) (unhide SX).b.size ?_)
          intro v6 w6 own6 gr6 _
          obtain ⟨g6, c6, rfl, hg6⟩ := own_some own6 (by omega)
          have b6 : Below w4.heap.size w4 w6 := kX.grown gr6 (by simp) (fun k hk => by have e : w4.heap.size = k := Option.some.inj hk; omega)
          have S6 := hide ((unhide S4).later b6)
          have o6 := hide own6
          clear own6 gr6 kX oX rX SX b6 S4 s2'
          go_wp2_with fail
          refine (unhide hpk3 g6 c6 (i : Int) 1 2001 _ (by omega) (by omega) (by omega) (unhide o6)).mono ?_
          rintro e w7 ⟨x4, rfl, x40, x41, hw7⟩
          have hw8 := hw7.symm
          subst hw8
          have hy : Hid (Ie.IsI (FloatKind.f64.nearest (x4 - 1000)) (x4 - 1000)) := hide (Ie.of_int (by omega) (by omega))
          clear o6
          have c0 := (unhide S6).c0
          have c1 := (unhide S6).c1
          have f0 := (unhide S6).f0
          have f1 := (unhide S6).f1
          have hlS := (unhide S6).lt
          go_wp2_with (at_builtin; refine wpList_ws (unhide S6) hg i8 (floatOfInt .f64 (x3 - 1000)) (floatOfInt .f64 (x4 - 1000)) _ _ (x3 - 1000) (x4 - 1000) _ rfl _ _ rfl rfl rfl (unhide hx) (unhide hy) (by omega) (by omega) (fv_res _ _ _ _) (fv_res _ _ _ _) ?_)
          intro g' cap' w' hS' hg'
          have hS'' := hide hS'
          clear hS' S6 c0 c1 f0 f1 hx hy
          go_wp2
          go_roundw
          case rel => exact ⟨i + 1, g', cap', _, _, _, _, _, by omega, by go_num, rfl, hg', hS''⟩
          case measure => simp [intOf]; omega
        · obtain rfl : i = N := by omega
          have hlt' : decide ((i : Int) < i) = false := by simp
          have hLn := (unhide hS).n
          have hok : okN L.length := by rw [hLn]; exact unhide hN'
          have hwb := hide (fun (A B : List (Nat × Nat)) (h1 : WvV false L A) (h2 : WvV true A B) => Rn.waves_back hok (unhide hS).h h1 h2)
          have hw1 := hide (fun (w : World) (h : Cxs false 0 w.heap.size w (some ⟨g, 0, none⟩) L) => iwave_any (some ⟨g, 0, none⟩) c L w (by omega) h)
          have hL1 := hide (fun (A : List (Nat × Nat)) (h : WvV false L A) => h.ln hok)
          rw [hLn] at hw1 hwb hL1
          have hLn' := hide hLn
          clear hok hLn hpk2 hpk3
          go_wp2_with fail
          refine (unhide hw1 _ (cxs_read (unhide hS).o)).mono ?_
          rintro e w1 ⟨g1, p1, A, rfl, hg1, hA, hV1, hB1⟩
          have hAn := unhide hL1 A hV1
          rw [hAn] at hA ⊢
          have hS1 := hide ((unhide hS).later hB1)
          have hA' := hide hA
          have hV1' := hide hV1
          have hback := hide (fun (w : World) (h : Cxs false 0 w.heap.size w (some ⟨g1, 0, none⟩) A) => iback_any (some ⟨g1, 0, none⟩) p1 A w (by omega) h)
          have hL2 := hide (fun (B : List (Nat × Nat)) (h : WvV true A B) => h.ln (by rw [hAn]; exact unhide hN'))
          rw [hAn] at hback hL2
          have hAn' := hide hAn
          clear hw1 hL1 hA hV1 hAn hS hB1
          go_wp2_with fail
          refine (unhide hback _ (cxs_read (unhide hA'))).mono ?_
          rintro e w2 ⟨g2, p2, B, rfl, hg2, hBo, hV2, hB2⟩
          have hBn := unhide hL2 B hV2
          rw [hBn] at hBo ⊢
          have hS2 := hide ((unhide hS1).later hB2)
          have hA2 := hide (ownsRow_below (unhide hA') hB2)
          have hBo' := hide hBo
          obtain ⟨_, _, hfirst, hall⟩ := unhide hwb A B (unhide hV1') hV2
          obtain ⟨x0, hx0⟩ : ∃ x0, A[0]? = some x0 := ⟨A[0]'(by rw [unhide hAn']; omega), List.getElem?_eq_getElem _⟩
          obtain ⟨u1, u2⟩ := x0
          obtain ⟨k1, k2⟩ := hfirst _ hx0
          have e1 := isI_eq k1 (unhide hS2).i1
          have e2 := isI_eq k2 (unhide hS2).i2
          dsimp only at e1 e2
          obtain ⟨a0, a1⟩ := cx_at (cxs_read (unhide hA2)) hx0
          have a0' : w2.cell? ⟨g1, 0, none⟩ = some (.float .f64 u1) := a0
          have a1' : w2.cell? ⟨g1, 1, none⟩ = some (.float .f64 u2) := a1
          have c0 := (unhide hS2).c0
          have c1 := (unhide hS2).c1
          have hall' := hide hall
          have hBn' := hide hBn
          have hne : ((i : Int) != i) = false := by simp
          clear hback hL2 hBo hV2 hBn hB2 hS1 hA' hV1' hwb hall hfirst hx0 k1 k2 a0 a1 hA2
          go_upto_region 18 with fail
          go_quiet (fail)
          have hBl := (unhide hS2).b
          go_wp2
          go_loopw [11] (fun t wr => ∃ k : Nat, k ≤ i ∧ t = .int .i64 k ∧ Hid (Below w2.heap.size w2 wr)) (fun t _ => i - (intOf t).toNat)
          case atStart => exact ⟨0, by omega, rfl, hide (below_drewN (Below.refl _ _) _)⟩
          case round =>
            obtain ⟨k, hk, rfl, hw⟩ := hrel
            by_cases hlk : k < i
            · have hlk' : decide ((k : Int) < i) = true := by rw [decide_eq_true_iff]; omega
              obtain ⟨y, hy⟩ : ∃ y, B[k]? = some y := ⟨B[k]'(by rw [unhide hBn']; omega), List.getElem?_eq_getElem _⟩
              obtain ⟨x, hx⟩ : ∃ x, L[k]? = some x := ⟨L[k]'(by rw [unhide hLn']; omega), List.getElem?_eq_getElem _⟩
              obtain ⟨⟨z1, hz1, hs1, hs1'⟩, ⟨z2, hz2, hs2, hs2'⟩⟩ := unhide hall' k y x hy hx
              obtain ⟨b0, b1⟩ := cx_at (cxs_read (ownsRow_below (unhide hBo') (unhide hw))) hy
              obtain ⟨l0, l1⟩ := cx_at (cxs_read (ownsRow_below (unhide hS2).o (unhide hw))) hx
              obtain ⟨y1, y2⟩ := y
              obtain ⟨x1, x2⟩ := x
              dsimp only at b0 b1 l0 l1 hz1 hz2
              obtain ⟨v1, d1⟩ := sub_fv hz1
              obtain ⟨v2, d2⟩ := sub_fv hz2
              have m1 : FloatKind.f64.format.order z1 4517329193108106637 = some .lt := hs1
              have m2 : FloatKind.f64.format.order z1 13740701229962882445 = some .gt := hs1'
              have m3 : FloatKind.f64.format.order z2 4517329193108106637 = some .lt := hs2
              have m4 : FloatKind.f64.format.order z2 13740701229962882445 = some .gt := hs2'
              clear hs1 hs1' hs2 hs2' hx hy hz1 hz2
              go_upto_region 23 with fail
              go_quiet (fail)
              go_upto_region 24 with fail
              go_quiet (fail)
              go_wp2
              go_roundw
              case rel => exact ⟨k + 1, by omega, by go_num, hide (by repeat first | exact unhide hw | refine below_drewN ?_ _)⟩
              case measure => simp [intOf]; omega
            · obtain rfl : k = i := by omega
              have hlk' : decide ((k : Int) < k) = false := by simp
              go_wp2
              go_ret
              exact ⟨rfl, hBl.trans ((unhide hw).mono hBl.size)⟩
end Go.Proofs.Ytmhciigjjamjkaa
