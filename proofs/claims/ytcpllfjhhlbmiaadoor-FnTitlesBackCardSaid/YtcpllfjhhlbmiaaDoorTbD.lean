/-
  The contracts of the model's draws of titles to be shown and of a damaged text to be read; nothing that was there is written.
-/
import Derived.Test.YtcpllfjhhlbmiaaDoorTbM
namespace Go.Proofs.YtcpllfjhhlbmiaaDoor
open Go.RowKit
set_option linter.unusedVariables false
set_option linter.unusedSimpArgs false

set_option maxHeartbeats 800000 in
theorem dtok_any (a : Option Addr) (len cap : Nat) (W : World) (hl2 : len ≤ 4096) (hr : RdB W W.heap.size a len) :
    Calls Tryd.prog 20 #[.slice a len cap] W fun e w' => ∃ gl n c L, e = .returned (.slice (some ⟨gl, 0, none⟩) n c) ∧ Tt W gl n c L w' := by
  have hlen : len ≤ 9223372036854775807 := by omega
  have hr' := hide hr
  clear hr
  go_enter Tryd.func20, Tryd.ntmps20
  go_wp2_with fail
  refine (new_any a len cap W hlen (by omega) (unhide hr')).mono ?_
  rintro e w1 ⟨g, rfl, hg0, hc1, hb1⟩
  have hBW := hide hb1
  have D1 := hide (show DS w1 W.heap.size g a len cap w1 from ⟨hc1, rdb_later (unhide hr') hb1, grown_refl _ _⟩)
  have hBw : W.heap.size ≤ w1.heap.size := hb1.size
  have hBg : W.heap.size ≤ g := by omega
  clear hc1 hb1
  go_wp2_with fail
  refine (dtt_any W.heap.size g a len cap w1 hBg hBw hlen (unhide D1).cur (unhide D1).rd).mono ?_
  rintro e w4 ⟨gl, n, c, L, rfl, hn, K⟩
  have hT := hide (tt_of (w1 := w1) (unhide hBW) hBg hn K)
  clear K D1
  go_wp2
  go_ret
  exact ⟨gl, n, c, L, rfl, unhide hT⟩
set_option maxHeartbeats 800000 in
theorem dshw_any (a : Option Addr) (len cap : Nat) (W : World) (hl2 : len ≤ 4096) (hr : RdB W W.heap.size a len) :
    Calls Tryd.prog 7 #[.slice a len cap] W fun e w' => ∃ gl n c L, e = .returned (.slice (some ⟨gl, 0, none⟩) n c) ∧ Tt W gl n c L w' := by
  have hr' := hide hr
  clear hr
  go_enter Tryd.func7, Tryd.ntmps7
  go_wp2_with fail
  refine (dtok_any a len cap W hl2 (unhide hr')).mono ?_
  rintro e w1 ⟨gl, n, c, L, rfl, hT⟩
  have hT' := hide hT
  clear hT
  go_wp2
  go_ret
  exact ⟨gl, n, c, L, rfl, unhide hT'⟩
theorem src_take {w w1 : World} {G q : Nat} {L : List UInt8} (h : ∀ j y, L[j]? = some y → w.cell? ⟨G, j, none⟩ = some (bv y)) (hb : Below w.heap.size w w1) (hG : G < w.heap.size) : ∀ j y, (L.take q)[j]? = some y → w1.cell? ⟨G, 0 + j, none⟩ = some (bv y) := by
  intro j y hy
  rw [Nat.zero_add, (bcell hb).1 _ _ hG]
  refine h j y ?_
  rw [List.getElem?_take] at hy
  split at hy
  · exact hy
  · cases hy
theorem src_drop {w w1 : World} {G q : Nat} {L : List UInt8} (h : ∀ j y, L[j]? = some y → w.cell? ⟨G, j, none⟩ = some (bv y)) (hb : Below w.heap.size w w1) (hG : G < w.heap.size) : ∀ j y, (L.drop q)[j]? = some y → w1.cell? ⟨G, q + j, none⟩ = some (bv y) := by
  intro j y hy
  rw [(bcell hb).1 _ _ hG]
  rw [List.getElem?_drop] at hy
  exact h _ y hy
theorem src_one {X : World} {P : Nat} (h : X.heap[P]? = some (.cells #[.int .u8 10] 5 (0, 0))) : ∀ j y, ([10] : List UInt8)[j]? = some y → X.cell? ⟨P, 0 + j, none⟩ = some (bv y) := by
  intro j y hy
  cases j with
  | zero =>
    simp at hy
    subst hy
    rw [cell_of_row X P 0 _ 5 _ h]
    rfl
  | succ j => simp at hy
theorem showT_len {l : List Kl} (hl : l.length ≤ 201) (hx : ∀ x ∈ l, x.2.2.size ≤ 25) : (showT l).length ≤ 60300 := by
  unfold showT
  split
  · have := shw_len (l := l) (fun x hx' => by have := hx x hx'; omega) l.length (by omega)
    omega
  · simp

set_option maxRecDepth 100000 in
set_option maxHeartbeats 12800000 in
theorem drd_any (a : Option Addr) (len cap : Nat) (W : World) (hl2 : len ≤ 4096) (hr : RdB W W.heap.size a len) :
    Calls Tryd.prog 11 #[.slice a len cap] W fun e w' => ∃ L : List UInt8, e = .returned (.string ⟨L.toArray⟩) ∧ L.length ≤ 70000 ∧ Below W.heap.size W w' := by
  have hlen : len ≤ 9223372036854775807 := by omega
  have hr' := hide hr
  clear hr
  go_enter Tryd.func11, Tryd.ntmps11
  go_wp2_with fail
  refine (new_any a len cap W hlen (by omega) (unhide hr')).mono ?_
  rintro e w ⟨g, rfl, hg0, hc1, hb1⟩
  have hBW := hide hb1
  have hBw : W.heap.size ≤ w.heap.size := hb1.size
  have hB : W.heap.size ≤ g := by omega
  have hg := hc1.lt
  have D1 := hide (show DS w W.heap.size g a len cap w from ⟨hc1, rdb_later (unhide hr') hb1, grown_refl _ _⟩)
  clear hc1 hb1
  go_wp2_with fail
  refine (dtt_any W.heap.size g a len cap w hB hBw hlen (unhide D1).cur (unhide D1).rd).mono ?_
  rintro e w2 ⟨gl, n, c, T, rfl, hn, K⟩
  have hTn := own_len K.ow
  have D2 := hide K.ds
  obtain ⟨S, hS⟩ : ∃ S, showT T = S := ⟨_, rfl⟩
  have hSl : S.length ≤ 60300 := by rw [← hS]; exact showT_len (by omega) K.sz
  have c1 := hide (show Calls Tryd.prog 9 #[.slice (some ⟨gl, 0, none⟩) n c] w2 _ by
    have h5 := sshow_any (some ⟨gl, 0, none⟩) c T ⟨S.toArray⟩ w2 (by omega) (kls_own K.ow) (fun x hx => by have := K.sz x hx; omega) (by rw [hS])
    rw [hTn] at h5
    exact h5)
  clear K D1 hTn hS
  go_wp2_with fail
  refine (unhide c1).mono ?_
  rintro e w3 ⟨rfl, k3⟩
  have D3 := hide ((unhide D2).later hB k3)
  clear k3 c1 D2
  obtain ⟨s, hs⟩ : ∃ s : ByteArray, (⟨S.toArray⟩ : ByteArray) = s := ⟨_, rfl⟩
  have hsS : s.data.toList = S := by rw [← hs]
  have hss := hide (show s.size = S.length by rw [← hs]; rfl)
  rw [hs]
  have hcv := run_bytes_of_string (P := Tryd.prog) w3 9 22 5 s Tryd.underlying9 Tryd.underlying22 Tryd.underlying5
  have T3' := hide (show BT w W.heap.size g a len cap _ _ _ _ S from ⟨(unhide D3).later hB ((Below.refl w3.heap.size w3).drew.alloc (Nat.le_refl _) (.cells (bytesRow s (grownCap w3 s.size 0 5)) 5 ((bytesRow s (grownCap w3 s.size 0 5)).size, (bytesRow s (grownCap w3 s.size 0 5)).size + 1))), OwT.conv w3 s (unhide D3).gr.size hsS (by have := unhide hss; omega)⟩)
  have T3 := hide (show BT w W.heap.size g a len cap (w3.alloc (.cells (bytesRow s (grownCap w3 s.size 0 5)) 5 ((bytesRow s (grownCap w3 s.size 0 5)).size, (bytesRow s (grownCap w3 s.size 0 5)).size + 1))).drew _ _ _ S from unhide T3')
  clear D3 hs T3' hsS
  go_wp2_with fail
  generalize (w3.alloc (.cells (bytesRow s (grownCap w3 s.size 0 5)) 5 ((bytesRow s (grownCap w3 s.size 0 5)).size, (bytesRow s (grownCap w3 s.size 0 5)).size + 1))).drew = w4 at *
  generalize w3.heap.size = G0 at *
  generalize grownCap w3 s.size 0 5 = c0 at *
  have hss2 := unhide hss
  generalize s.size = m0 at *
  subst hss2
  clear hcv hss
  refine (below_any W.heap.size g a len cap 3 _ hB hlen (unhide T3).ds.cur (unhide T3).ds.rd (by omega)).mono ?_
  rintro e w5 ⟨x1, rfl, x10, x11, k1, g1⟩
  have T5 := hide ((unhide T3).step hB hg k1 g1)
  obtain ⟨n0, rfl⟩ := Int.eq_ofNat_of_zero_le x10
  have hn0 : n0 ≤ 2 := by omega
  clear k1 g1 T3 x10 x11
  go_wp2
  go_loopw [4, 5] (fun s t wr => ∃ (k G n c : Nat) (L : List UInt8), k ≤ 2 ∧ n + k ≤ 60302 ∧ t = .int .i64 k ∧ s = .slice (some ⟨G, 0, none⟩) n c ∧ Hid (BT w W.heap.size g a len cap wr G n c L)) (fun _ t _ => (intOf t).toNat)
  case atStart => exact ⟨n0, G0, S.length, c0, S, by omega, by omega, rfl, rfl, T5⟩
  case round =>
    clear T5
    obtain ⟨k, G, n, c, L, hk2, hnk, rfl, rfl, hT⟩ := hrel
    by_cases hgo : 0 < k ∧ 0 < n
    · obtain ⟨hk0, hn0'⟩ := hgo
      have hk1 : decide ((0 : Int) < k) = true := by rw [decide_eq_true_iff]; omega
      have hn1 : decide ((0 : Int) < n) = true := by rw [decide_eq_true_iff]; omega
      go_wp2_with fail
      refine (below_any W.heap.size g a len cap (n : Int) _ hB hlen (unhide hT).ds.cur (unhide hT).ds.rd (by omega)).mono ?_
      rintro e w6 ⟨dk, rfl, d0, d1, k1, g1⟩
      obtain ⟨q, rfl⟩ := Int.eq_ofNat_of_zero_le d0
      have T6 := hide ((unhide hT).step hB hg k1 g1)
      have hq : q < n := by omega
      clear k1 g1 hT
      go_wp2_with fail
      refine (below_any W.heap.size g a len cap 4 _ hB hlen (unhide T6).ds.cur (unhide T6).ds.rd (by omega)).mono ?_
      rintro e w7 ⟨p, rfl, p0, p1, k1, g1⟩
      have T7 := hide ((unhide T6).step hB hg k1 g1)
      clear k1 g1 T6
      have hLn := (unhide T7).ow.1
      have hqc : q ≤ c := by have := (unhide T7).ow.cap; omega
      have hnc : n ≤ c := (unhide T7).ow.cap
      have hp : p = 0 ∨ p = 1 ∨ p = 2 ∨ p = 3 := by omega
      rcases hp with rfl | rfl | rfl | rfl
      · have kc := Lib.run_convert_bytes_const (P := Tryd.prog) w7 22 5 #[.int .u8 48, .int .u8 49, .int .u8 50, .int .u8 57, .int .u8 58, .int .u8 44, .int .u8 45, .int .u8 62, .int .u8 10, .int .u8 32, .int .u8 120, .int .u8 127] 12 12 Tryd.underlying22 Tryd.underlying5
        have hla := hide (fun r hr => lit_at12 (w := w7) (T := 5) (fz := (12, 13)) r hr)
        have T8 := hide ((unhide T7).later hB ((Below.refl w7.heap.size w7).alloc (Nat.le_refl _) (.cells #[.int .u8 48, .int .u8 49, .int .u8 50, .int .u8 57, .int .u8 58, .int .u8 44, .int .u8 45, .int .u8 62, .int .u8 10, .int .u8 32, .int .u8 120, .int .u8 127] 5 (12, 13))))
        have hEg : w7.heap.size ≠ g := by have := (unhide T7).ds.cur.lt; omega
        clear T7
        go_wp2_with fail
        generalize hY : w7.alloc _ = Y at *
        refine (below_any W.heap.size g a len cap 12 _ hB hlen (unhide T8).ds.cur (unhide T8).ds.rd (by omega)).mono ?_
        rintro e w9 ⟨r, rfl, r0, r1, k1, g1⟩
        obtain ⟨r, rfl⟩ := Int.eq_ofNat_of_zero_le r0
        obtain ⟨x, hx⟩ := unhide hla r (by omega)
        have hx1 := grown_cell g1 hEg hx
        have T9 := hide ((unhide T8).step hB hg k1 g1)
        obtain ⟨y, hy⟩ : ∃ y, L[q]? = some y := ⟨L[q]'(by omega), List.getElem?_eq_getElem _⟩
        have hy1 : w9.cell? ⟨G, q, none⟩ = some (.int .u8 (y.toNat : Int)) := (unhide T9).ow.cell hy
        have hy2 := (unhide T9).ow.froz hq
        have TF := hide ((unhide T9).set hBw hg hq x)
        clear hx k1 g1 T8 hla hY T9 kc
        go_wp2
        go_roundw
        case rel => exact ⟨k - 1, G, n, c, _, by omega, by omega, by go_num, rfl, TF⟩
        case measure => simp [intOf]; omega
      · have T8 := hide ((unhide T7).take (k := q) (by omega))
        clear T7
        have hqc' : (q : Int) ≤ c := by omega
        go_wp2
        go_roundw
        case rel => exact ⟨k - 1, G, q, c, _, by omega, by omega, by go_num, rfl, T8⟩
        case measure => simp [intOf]; omega
      · have hsrc := hide (fun j y hj => (unhide T7).ow.cell (k := j) (x := y) hj)
        have hGl := (unhide T7).ow.lt
        have hqc' : (q : Int) ≤ c := by omega
        have hw1 : IntKind.i64.wrap ((q : Int) + 1) = (q : Int) + 1 := by rw [IntKind.wrap_i64]; omega
        have hq1 : ((q : Int) + 1) ≤ n := by omega
        have hq2 : ((n : Int)) ≤ c := by omega
        have hq3 : ((q : Int) + 1).toNat = q + 1 := by omega
        have hq4 : (0 : Int) ≤ (q : Int) + 1 := by omega
        have own0 := hide (show ((w7.alloc (.cells #[] 5)).drew).ownsRow w7.heap.size 5 1 (.slice (some ⟨w7.heap.size, 0, none⟩) 0 0) 0 (([] : List UInt8).map bv) from own_heap rfl (ownB_lit0 w7 (Nat.le_refl _)))
        have kb0 := hide (show Below w7.heap.size w7 (w7.alloc (.cells #[] 5)).drew from ((Below.refl w7.heap.size w7).alloc (Nat.le_refl _) _).drew)
        by_cases hcq : c = q + 1
        · obtain rfl : n = q + 1 := by omega
          subst hcq
          have hle : (q : Int) ≤ (q : Int) + 1 := by omega
          have hle2 : ((q : Int) + 1) ≤ (q : Int) + 1 := by omega
          go_wp2_with fail
          go_region_law ((first
            | (refine step_bytes _ rfl (.tmp 48) (.tmp 51) rfl w7.heap.size w7.heap.size 0 0 [] rfl (unhide own0) G 0 q (q + 1) (L.take q) rfl (by rw [List.length_take]; omega) (src_take (unhide hsrc) (unhide kb0) hGl) q (by omega) (by omega) (unhide kb0).size ?_
               intro g1 c1 w8 own1 gr1
               have O1 := hide own1
               have kb1 := hide ((unhide kb0).grown gr1 (unhide kb0).size (fun k hk => by injection hk with hk; omega))
               clear own1 gr1)
            | (refine step_bytes _ rfl (.tmp 52) (.tmp 56) rfl w7.heap.size g1 q c1 ([] ++ L.take q) rfl (unhide O1) G 0 0 0 [] rfl rfl (fun j y hy => by simp at hy) q (by omega) (by omega) (unhide kb1).size ?_
               intro g2 c2 w9 own2 gr2
               have TF := hide ((unhide T7).new hBw hg ((unhide kb1).grown gr2 (unhide kb1).size (fun k hk => by injection hk with hk; have := own_ge (unhide O1); omega)) own2)
               clear own2 gr2)))
          clear O1 kb0 kb1 own0 T7 hsrc
          go_wp2
          go_roundw
          case rel => exact ⟨k - 1, g2, q, c2, _, by omega, by omega, by go_num, rfl, TF⟩
          case measure => simp [intOf]; omega
        · have hcq' : ¬ (c : Int) = (q : Int) + 1 := by omega
          go_wp2_with fail
          go_region_law ((first
            | (refine step_bytes _ rfl (.tmp 48) (.tmp 51) rfl w7.heap.size w7.heap.size 0 0 [] rfl (unhide own0) G 0 q c (L.take q) rfl (by rw [List.length_take]; omega) (src_take (unhide hsrc) (unhide kb0) hGl) q (by omega) (by omega) (unhide kb0).size ?_
               intro g1 c1 w8 own1 gr1
               have O1 := hide own1
               have kb1 := hide ((unhide kb0).grown gr1 (unhide kb0).size (fun k hk => by injection hk with hk; omega))
               clear own1 gr1)
            | (refine step_bytes _ rfl (.tmp 52) (.tmp 56) rfl w7.heap.size g1 q c1 ([] ++ L.take q) rfl (unhide O1) G (q + 1) (n - (q + 1)) (c - (q + 1)) (L.drop (q + 1)) (by simp [Act.eval, Act.put]) (by rw [List.length_drop]; omega) (src_drop (unhide hsrc) (unhide kb1) hGl) (n - 1) (by omega) (by omega) (unhide kb1).size ?_
               intro g2 c2 w9 own2 gr2
               have TF := hide ((unhide T7).new hBw hg ((unhide kb1).grown gr2 (unhide kb1).size (fun k hk => by injection hk with hk; have := own_ge (unhide O1); omega)) own2)
               clear own2 gr2)))
          clear O1 kb0 kb1 own0 T7 hsrc
          go_wp2
          go_roundw
          case rel => exact ⟨k - 1, g2, n - 1, c2, _, by omega, by omega, by go_num, rfl, TF⟩
          case measure => simp [intOf]; omega
      · have hsrc := hide (fun j y hj => (unhide T7).ow.cell (k := j) (x := y) hj)
        have hGl := (unhide T7).ow.lt
        have hqc' : (q : Int) ≤ c := by omega
        have hq1 : (q : Int) ≤ n := by omega
        have hq2 : ((n : Int)) ≤ c := by omega
        have own0 := hide (show ((w7.alloc (.cells #[] 5)).drew).ownsRow w7.heap.size 5 1 (.slice (some ⟨w7.heap.size, 0, none⟩) 0 0) 0 (([] : List UInt8).map bv) from own_heap rfl (ownB_lit0 w7 (Nat.le_refl _)))
        have kb0 := hide (show Below w7.heap.size w7 (w7.alloc (.cells #[] 5)).drew from ((Below.refl w7.heap.size w7).alloc (Nat.le_refl _) _).drew)
        have hcq : ¬ c = q := by omega
        have ownB := hide (show (((w7.alloc (.cells #[] 5)).alloc (.cells #[.int .u8 10] 5)).drew).ownsRow w7.heap.size 5 1 (.slice (some ⟨w7.heap.size, 0, none⟩) 0 0) 0 (([] : List UInt8).map bv) from own_heap rfl ((ownB_lit0 w7 (Nat.le_refl _)).alloc (.cells #[.int .u8 10] 5)))
        have kbB := hide (show Below w7.heap.size w7 ((w7.alloc (.cells #[] 5)).alloc (.cells #[.int .u8 10] 5)).drew from (((Below.refl w7.heap.size w7).alloc (Nat.le_refl _) _).alloc (by rw [sz_alloc]; omega) _).drew)
        have hsB := hide (show (((w7.alloc (.cells #[] 5)).alloc (.cells #[.int .u8 10] 5)).drew).heap[w7.heap.size + 1]? = some (.cells #[.int .u8 10] 5 (0, 0)) by
          have := alloc_new (w7.alloc (.cells #[] 5)) (.cells #[.int .u8 10] 5)
          rw [sz_alloc] at this
          exact this)
        have ownC := hide (show (((w7.alloc (.cells #[.int .u8 10] 5)).alloc (.cells #[] 5)).drew).ownsRow w7.heap.size 5 1 (.slice (some ⟨w7.heap.size + 1, 0, none⟩) 0 0) 0 (([] : List UInt8).map bv) by
          have := ownB_lit0 (B := w7.heap.size) (w7.alloc (.cells #[.int .u8 10] 5)) (by rw [sz_alloc]; omega)
          rw [sz_alloc] at this
          exact own_heap rfl this)
        have kbC := hide (show Below w7.heap.size w7 ((w7.alloc (.cells #[.int .u8 10] 5)).alloc (.cells #[] 5)).drew from (((Below.refl w7.heap.size w7).alloc (Nat.le_refl _) _).alloc (by rw [sz_alloc]; omega) _).drew)
        have hsC := hide (show (((w7.alloc (.cells #[.int .u8 10] 5)).alloc (.cells #[] 5)).drew).heap[w7.heap.size]? = some (.cells #[.int .u8 10] 5 (0, 0)) from ((Below.refl (w7.alloc (.cells #[.int .u8 10] 5)).heap.size (w7.alloc (.cells #[.int .u8 10] 5))).alloc (Nat.le_refl _) (.cells #[] 5)).block _ (by rw [sz_alloc]; omega) |>.trans (alloc_new w7 (.cells #[.int .u8 10] 5)))
        go_wp2_with fail
        go_region_law ((first
          | (refine step_bytes _ rfl (.tmp 60) (.tmp 63) rfl w7.heap.size w7.heap.size 0 0 [] rfl (unhide own0) G 0 q c (L.take q) rfl (by rw [List.length_take]; omega) (src_take (unhide hsrc) (unhide kb0) hGl) q (by omega) (by omega) (unhide kb0).size ?_
             intro g1 c1 w8 own1 gr1
             have O1 := hide own1
             have kb1 := hide ((unhide kb0).grown gr1 (unhide kb0).size (fun k hk => by injection hk with hk; omega))
             clear own1 gr1)
          | (refine step_bytes _ rfl (.tmp 60) (.tmp 63) rfl w7.heap.size w7.heap.size 0 0 [] rfl (unhide ownB) G 0 q c (L.take q) rfl (by rw [List.length_take]; omega) (src_take (unhide hsrc) (unhide kbB) hGl) q (by omega) (by omega) (unhide kbB).size ?_
             intro g1 c1 w8 own1 gr1
             have O1 := hide own1
             have kb1 := hide ((unhide kbB).grown gr1 (unhide kbB).size (fun k hk => by injection hk with hk; omega))
             have h10 := hide (show w8.heap[(w7.heap.size + 1)]? = some (.cells #[.int .u8 10] 5 (0, 0)) from (gr1.block _ (lt_blk (unhide hsB)) (by intro e; injection e with e; omega)).trans (unhide hsB))
             clear own1 gr1)
          | (refine step_bytes _ rfl (.tmp 60) (.tmp 63) rfl w7.heap.size (w7.heap.size + 1) 0 0 [] rfl (unhide ownC) G 0 q c (L.take q) rfl (by rw [List.length_take]; omega) (src_take (unhide hsrc) (unhide kbC) hGl) q (by omega) (by omega) (unhide kbC).size ?_
             intro g1 c1 w8 own1 gr1
             have O1 := hide own1
             have kb1 := hide ((unhide kbC).grown gr1 (unhide kbC).size (fun k hk => by injection hk with hk; omega))
             have h10 := hide (show w8.heap[w7.heap.size]? = some (.cells #[.int .u8 10] 5 (0, 0)) from (gr1.block _ (lt_blk (unhide hsC)) (by intro e; injection e with e; omega)).trans (unhide hsC))
             clear own1 gr1)
          | (refine step_bytes _ rfl (.tmp 64) (.tmp 65) rfl w7.heap.size g1 q c1 ([] ++ L.take q) rfl (unhide O1) (w7.heap.size + 1) 0 1 1 [10] rfl rfl (src_one (unhide h10)) (q + 1) (by omega) (by omega) (unhide kb1).size ?_
             intro g2 c2 w9 own2 gr2
             have O2 := hide own2
             have kb2 := hide ((unhide kb1).grown gr2 (unhide kb1).size (fun k hk => by injection hk with hk; have := own_ge (unhide O1); omega))
             clear own2 gr2)
          | (refine step_bytes _ rfl (.tmp 64) (.tmp 65) rfl w7.heap.size g1 q c1 ([] ++ L.take q) rfl (unhide O1) w7.heap.size 0 1 1 [10] rfl rfl (src_one (unhide h10)) (q + 1) (by omega) (by omega) (unhide kb1).size ?_
             intro g2 c2 w9 own2 gr2
             have O2 := hide own2
             have kb2 := hide ((unhide kb1).grown gr2 (unhide kb1).size (fun k hk => by injection hk with hk; have := own_ge (unhide O1); omega))
             clear own2 gr2)
          | (refine step_bytes _ rfl (.tmp 64) (.tmp 65) rfl w7.heap.size g1 q c1 ([] ++ L.take q) rfl ((unhide O1).alloc (.cells #[.int .u8 10] 5)) w8.heap.size 0 1 1 [10] rfl rfl (src_one (alloc_new w8 (.cells #[.int .u8 10] 5))) (q + 1) (by omega) (by omega) (by rw [sz_alloc]; have := (unhide kb1).size; omega) ?_
             intro g2 c2 w9 own2 gr2
             have O2 := hide own2
             have kb2 := hide (((unhide kb1).alloc (unhide kb1).size (.cells #[.int .u8 10] 5)).grown gr2 (by rw [sz_alloc]; have := (unhide kb1).size; omega) (fun k hk => by injection hk with hk; have := own_ge (unhide O1); omega))
             clear own2 gr2)
          | (refine step_bytes _ rfl (.tmp 66) (.tmp 69) rfl w7.heap.size g2 (q + 1) c2 (([] ++ L.take q) ++ [10]) rfl (unhide O2) G q (n - q) (c - q) (L.drop q) (by simp [Act.eval, Act.put, hcq]) (by rw [List.length_drop]; omega) (src_drop (unhide hsrc) (unhide kb2) hGl) (n + 1) (by omega) (by omega) (unhide kb2).size ?_
             intro g3 c3 w10 own3 gr3
             have TF := hide ((unhide T7).new hBw hg ((unhide kb2).grown gr3 (unhide kb2).size (fun k hk => by injection hk with hk; have := own_ge (unhide O2); omega)) own3)
             clear own3 gr3)))
        all_goals (
          clear O1 O2 kb0 kb1 kb2 own0 ownB ownC kbB kbC hsB hsC T7 hsrc
          go_wp2
          go_roundw
          case rel => exact ⟨k - 1, g3, n + 1, c3, _, by omega, by omega, by go_num, rfl, TF⟩
          case measure => simp [intOf]; omega)
    · have hend : k = 0 ∨ (0 < k ∧ n = 0) := by omega
      clear hgo
      have hcv := (unhide hT).ow.str
      have fin := hide (show L.length ≤ 70000 ∧ Below W.heap.size W wr from ⟨by have := (unhide hT).ow.1; omega, below_grown (unhide hBW) (unhide hT).ds.gr hB⟩)
      rcases hend with rfl | ⟨hk1, rfl⟩
      case' inr =>
        have hk2 : decide (0 < k) = true := decide_eq_true hk1
        have hk3 : decide ((0 : Int) < k) = true := by rw [decide_eq_true_iff]; omega
      all_goals (
        go_wp2
        go_ret
        exact ⟨L, rfl, unhide fin⟩)

end Go.Proofs.YtcpllfjhhlbmiaaDoor
