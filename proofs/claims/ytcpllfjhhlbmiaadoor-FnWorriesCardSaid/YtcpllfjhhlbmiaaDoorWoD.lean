/-
  The contract of the model's draw of titles and of what can be read; nothing that was there is written.
-/
import Derived.Test.YtcpllfjhhlbmiaaDoorDrD
import Derived.Test.YtcpllfjhhlbmiaaDoorUnL
import Derived.Deep.RegionHeld3
namespace Go.Proofs.YtcpllfjhhlbmiaaDoor
open Go.RowKit
set_option linter.unusedVariables false
set_option linter.unusedSimpArgs false

abbrev c5 (s : Sy) : Obj := .cells #[.int .i64 s.1, .int .i64 s.2.1, .int .i64 s.2.2.1, .int .i64 s.2.2.2.1, .int .i64 s.2.2.2.2] 36 (0, 0)
/-- the cursor, and five numbers in a box of the call's own -/
structure YS (w : World) (B g : Nat) (a : Option Addr) (len cap : Nat) (wr : World) (q : Nat) (s : Sy) : Prop where
  ds : DS w B g a len cap wr
  qb : wr.heap[q]? = some (c5 s)
  ge : w.heap.size ≤ q
theorem froz5 {X : World} {q : Nat} {c : Array Value} {t : TypeId} (h : X.heap[q]? = some (.cells c t (0, 0))) (i : Nat) : X.frozen? ⟨q, i, none⟩ = false := by simp [World.frozen?, h]
section
variable {w wr w1 : World} {B g : Nat} {a : Option Addr} {len cap q : Nat} {s : Sy}
theorem YS.lt (h : YS w B g a len cap wr q s) : q < wr.heap.size := (Array.getElem?_eq_some_iff.1 h.qb).1
theorem YS.step (h : YS w B g a len cap wr q s) (hB : B ≤ g) (hg : g < w.heap.size) (hc : CurAt w1 g a len cap) (hgr : wr.grownBy w1 (some g)) : YS w B g a len cap w1 q s :=
  ⟨h.ds.step hB hc hgr, (hgr.block q h.lt (by intro e; injection e with e; have := h.ge; omega)).trans h.qb, h.ge⟩
theorem YS.later (h : YS w B g a len cap wr q s) (hB : B ≤ g) (hb : Below wr.heap.size wr w1) : YS w B g a len cap w1 q s :=
  ⟨h.ds.later hB hb, (hb.block q h.lt).trans h.qb, h.ge⟩
theorem YS.set (h : YS w B g a len cap wr q s) (hBw : B ≤ w.heap.size) (hg : g < w.heap.size) (i : Nat) (hi : i < 5) (v : Int) : ∃ s', YS w B g a len cap (wr.setCell ⟨q, i, none⟩ (.int .i64 v)) q s' := by
  have hd := h.ds.app hBw hg ((Below.refl _ _).setCell (p := ⟨q, i, none⟩) h.ge (.int .i64 v))
  have hq : (wr.setCell ⟨q, i, none⟩ (.int .i64 v)).heap[q]? = some (.cells (#[.int .i64 s.1, .int .i64 s.2.1, .int .i64 s.2.2.1, .int .i64 s.2.2.2.1, .int .i64 s.2.2.2.2].setIfInBounds i (.int .i64 v)) 36 (0, 0)) := by
    simp [World.setCell, Array.getElem?_modify, h.qb]
  have hc : i = 0 ∨ i = 1 ∨ i = 2 ∨ i = 3 ∨ i = 4 := by omega
  rcases hc with rfl | rfl | rfl | rfl | rfl
  · exact ⟨(v, s.2), hd, hq, h.ge⟩
  · exact ⟨(s.1, v, s.2.2), hd, hq, h.ge⟩
  · exact ⟨(s.1, s.2.1, v, s.2.2.2), hd, hq, h.ge⟩
  · exact ⟨(s.1, s.2.1, s.2.2.1, v, s.2.2.2.2), hd, hq, h.ge⟩
  · exact ⟨(s.1, s.2.1, s.2.2.1, s.2.2.2.1, v), hd, hq, h.ge⟩
end
theorem lit_at2 {w : World} {T : TypeId} {a0 a1 : Int} (k : Nat) (hk : k < 2) : ∃ v : Int, (w.alloc (.cells #[.int .i64 a0, .int .i64 a1] T)).cell? ⟨w.heap.size, k, none⟩ = some (.int .i64 v) := by
  have hc : k = 0 ∨ k = 1 := by omega
  rcases hc with rfl | rfl
  · exact ⟨a0, by simp [go_sem]⟩
  · exact ⟨a1, by simp [go_sem]⟩
/-- five cells written one behind the other -/
abbrev put5w (X : World) (p : Nat) (v0 v1 v2 v3 v4 : Value) : World := ((((X.setCell ⟨p, 0, none⟩ v0).setCell ⟨p, 1, none⟩ v1).setCell ⟨p, 2, none⟩ v2).setCell ⟨p, 3, none⟩ v3).setCell ⟨p, 4, none⟩ v4
theorem put5_blk {X : World} {p : Nat} {t : TypeId} {u0 u1 u2 u3 u4 : Value} (v0 v1 v2 v3 v4 : Value) (h : X.heap[p]? = some (.cells #[u0, u1, u2, u3, u4] t (0, 0))) : (put5w X p v0 v1 v2 v3 v4).heap[p]? = some (.cells #[v0, v1, v2, v3, v4] t (0, 0)) := by
  simp [put5w, World.setCell, Array.getElem?_modify, h]
theorem put5_ne {X : World} {p q : Nat} (v0 v1 v2 v3 v4 : Value) (h : q ≠ p) : (put5w X p v0 v1 v2 v3 v4).heap[q]? = X.heap[q]? := by
  unfold put5w
  rw [heap_set_ne h, heap_set_ne h, heap_set_ne h, heap_set_ne h, heap_set_ne h]
theorem put5_below {W X : World} {p B : Nat} (v0 v1 v2 v3 v4 : Value) (hb : Below B W X) (hp : B ≤ p) : Below B W (put5w X p v0 v1 v2 v3 v4) :=
  ((((hb.setCell (p := ⟨p, 0, none⟩) hp _).setCell (p := ⟨p, 1, none⟩) hp _).setCell (p := ⟨p, 2, none⟩) hp _).setCell (p := ⟨p, 3, none⟩) hp _).setCell (p := ⟨p, 4, none⟩) hp _
theorem put5_own {X : World} {p B gl n c : Nat} {L : List Kl} (v0 v1 v2 v3 v4 : Value) (h : Own X B gl n c L) (hp : p ≠ gl) : Own (put5w X p v0 v1 v2 v3 v4) B gl n c L :=
  own_off (p := ⟨p, 4, none⟩) (own_off (p := ⟨p, 3, none⟩) (own_off (p := ⟨p, 2, none⟩) (own_off (p := ⟨p, 1, none⟩) (own_off (p := ⟨p, 0, none⟩) h hp v0) hp v1) hp v2) hp v3) hp v4

theorem dttY {B g : Nat} {a : Option Addr} {len cap q p : Nat} {wd : World} {s1 s2 s3 s4 s5 : Int} {u0 u1 u2 u3 u4 : Value} (hB : B ≤ g) (hBw : B ≤ wd.heap.size) (hl : len ≤ 9223372036854775807) (hc : CurAt wd g a len cap) (hr : RdB wd B a len)
    (Qd : wd.heap[q]? = some (.cells #[.int .i64 s1, .int .i64 s2, .int .i64 s3, .int .i64 s4, .int .i64 s5] 36 (0, 0))) (Pd : wd.heap[p]? = some (.cells #[u0, u1, u2, u3, u4] 36 (0, 0))) (hqg : q ≠ g) (hpg : p ≠ g) (hqp : q ≠ p) :
    Calls Tryd.prog 30 #[.pointer (some ⟨g, 0, none⟩)] wd fun e w9 => ∃ gl n c L, e = .returned (.slice (some ⟨gl, 0, none⟩) n c) ∧ n ≤ 201 ∧ KS wd B g a len cap w9 gl n c L ∧ w9.heap[q]? = some (.cells #[.int .i64 s1, .int .i64 s2, .int .i64 s3, .int .i64 s4, .int .i64 s5] 36 (0, 0)) ∧ w9.heap[p]? = some (.cells #[u0, u1, u2, u3, u4] 36 (0, 0)) ∧
      (put5w w9 p (.int .i64 s1) (.int .i64 s2) (.int .i64 s3) (.int .i64 s4) (.int .i64 s5)).heap[q]? = some (.cells #[.int .i64 s1, .int .i64 s2, .int .i64 s3, .int .i64 s4, .int .i64 s5] 36 (0, 0)) ∧ w9.cell? ⟨p, 0, none⟩ = some u0 ∧ w9.cell? ⟨p, 1, none⟩ = some u1 ∧ w9.cell? ⟨p, 2, none⟩ = some u2 ∧ w9.cell? ⟨p, 3, none⟩ = some u3 ∧ w9.cell? ⟨p, 4, none⟩ = some u4 ∧
      w9.frozen? ⟨p, 0, none⟩ = false ∧ w9.frozen? ⟨p, 1, none⟩ = false ∧ w9.frozen? ⟨p, 2, none⟩ = false ∧ w9.frozen? ⟨p, 3, none⟩ = false ∧ w9.frozen? ⟨p, 4, none⟩ = false := by
  refine (dtt_any B g a len cap wd hB hBw hl hc hr).mono ?_
  rintro e w9 ⟨gl, n, c, L, rfl, hn, K⟩
  have q9 := (K.ds.gr.block q (lt_blk Qd) (by intro e; injection e with e; exact hqg e)).trans Qd
  have p9 := (K.ds.gr.block p (lt_blk Pd) (by intro e; injection e with e; exact hpg e)).trans Pd
  obtain ⟨m0, m1, m2, m3, m4⟩ := blk5 p9
  exact ⟨gl, n, c, L, rfl, hn, K, q9, p9, (put5_ne _ _ _ _ _ hqp).trans q9, m0, m1, m2, m3, m4, froz5 p9 0, froz5 p9 1, froz5 p9 2, froz5 p9 3, froz5 p9 4⟩

set_option maxRecDepth 100000 in
set_option maxHeartbeats 12800000 in
theorem dun_any (a : Option Addr) (len cap : Nat) (W : World) (hl2 : len ≤ 4096) (hr : RdB W W.heap.size a len) :
    Calls Tryd.prog 14 #[.slice a len cap] W fun e w' => ∃ gl n c L s, e = .returned (.tuple #[.slice (some ⟨gl, 0, none⟩) n c, ag5 s]) ∧ Tt W gl n c L w' := by
  have hlen : len ≤ 9223372036854775807 := by omega
  have hr' := hide hr
  have A0 := hide ((Below.refl W.heap.size W).alloc (Nat.le_refl _) (.cells #[.int .i64 0, .int .i64 0, .int .i64 0, .int .i64 0, .int .i64 0] 36))
  have P0 := hide (alloc_new W (.cells #[.int .i64 0, .int .i64 0, .int .i64 0, .int .i64 0, .int .i64 0] 36))
  have z0 : (W.alloc (.cells #[.int .i64 0, .int .i64 0, .int .i64 0, .int .i64 0, .int .i64 0] 36)).heap.size = W.heap.size + 1 := sz_alloc
  clear hr
  go_enter Tryd.func14, Tryd.ntmps14
  go_wp2_with fail
  generalize W.alloc (.cells #[.int .i64 0, .int .i64 0, .int .i64 0, .int .i64 0, .int .i64 0] 36) = W0 at *
  have r0 : RdB W0 W0.heap.size a len := by
    intro j hj
    obtain ⟨b, o, z, e, hb2, hc, h0, h1⟩ := rdb_later (unhide hr') (unhide A0) j hj
    exact ⟨b, o, z, e, by omega, hc, h0, h1⟩
  refine (new_any a len cap W0 hlen (by omega) r0).mono ?_
  rintro e w ⟨g, rfl, hg0, hc1, hb1⟩
  have hBW := hide (laterB (unhide A0) (hb1.mono (by omega)))
  have hBw : W.heap.size ≤ w.heap.size := (unhide hBW).size
  have hB : W.heap.size ≤ g := by omega
  have hg := hc1.lt
  have D1 := hide (show DS w W.heap.size g a len cap w from ⟨hc1, rdb_later (unhide hr') (unhide hBW), grown_refl _ _⟩)
  have P1 := hide (blk_below (unhide P0) hb1)
  have hpw : W.heap.size < w.heap.size := lt_blk (unhide P1)
  have hpg : W.heap.size ≠ g := by omega
  clear hc1 hb1 P0 A0 r0
  go_wp2_with fail
  refine (below_any W.heap.size g a len cap 1200 _ hB hlen (unhide D1).cur (unhide D1).rd (by omega)).mono ?_
  rintro e w2 ⟨x1, rfl, x10, x11, k1, g1⟩
  have D2 := hide ((unhide D1).step hB k1 g1)
  clear k1 g1 D1
  go_wp2_with fail
  refine (below_any W.heap.size g a len cap 150 _ hB hlen (unhide D2).cur (unhide D2).rd (by omega)).mono ?_
  rintro e w3 ⟨x2, rfl, x20, x21, k1, g1⟩
  have D3 := hide ((unhide D2).step hB k1 g1)
  clear k1 g1 D2
  go_wp2_with fail
  refine (below_any W.heap.size g a len cap 20 _ hB hlen (unhide D3).cur (unhide D3).rd (by omega)).mono ?_
  rintro e w4 ⟨x3, rfl, x30, x31, k1, g1⟩
  have D4 := hide ((unhide D3).step hB k1 g1)
  clear k1 g1 D3
  go_wp2_with fail
  refine (below_any W.heap.size g a len cap 3 _ hB hlen (unhide D4).cur (unhide D4).rd (by omega)).mono ?_
  rintro e w5 ⟨x4, rfl, x40, x41, k1, g1⟩
  have D5 := hide ((unhide D4).step hB k1 g1)
  clear k1 g1 D4
  go_wp2_with fail
  refine (below_any W.heap.size g a len cap 14 _ hB hlen (unhide D5).cur (unhide D5).rd (by omega)).mono ?_
  rintro e w6 ⟨x5, rfl, x50, x51, k1, g1⟩
  have D6 := hide ((unhide D5).step hB k1 g1)
  clear k1 g1 D5
  have Y6 := hide (show YS w W.heap.size g a len cap (w6.alloc (.cells #[.int .i64 (1 + x1), .int .i64 x2, .int .i64 (1 + x3), .int .i64 (1 + x4), .int .i64 (1 + x5)] 36)) w6.heap.size (1 + x1, x2, 1 + x3, 1 + x4, 1 + x5) from
    ⟨(unhide D6).later hB ((Below.refl _ _).alloc (Nat.le_refl _) _), alloc_new _ _, (unhide D6).gr.size⟩)
  clear D6
  go_wp2_with fail
  generalize w6.alloc (.cells #[.int .i64 (1 + x1), .int .i64 x2, .int .i64 (1 + x3), .int .i64 (1 + x4), .int .i64 (1 + x5)] 36) = w7 at *
  generalize w6.heap.size = q at *
  refine (once_any W.heap.size g a len cap 16 _ hB hlen (unhide Y6).ds.cur (unhide Y6).ds.rd (by omega)).mono ?_
  rintro e w8 ⟨v, rfl, k1, g1⟩
  have Y8 := hide ((unhide Y6).step hB hg k1 g1)
  clear k1 g1 Y6
  go_upto_if 24 with fail
  go_cut [] from 6 (fun wx => ∃ s, Hid (YS w W.heap.size g a len cap wx q s))
  case first =>
    cases v with
    | false =>
      go_wp2_with fail
      go_meet
      exact ⟨_, Y8⟩
    | true =>
      go_wp2_with fail
      refine (below_any W.heap.size g a len cap 5 _ hB hlen (unhide Y8).ds.cur (unhide Y8).ds.rd (by omega)).mono ?_
      rintro e w9 ⟨p, rfl, p0, p1, k1, g1⟩
      have Y9 := hide ((unhide Y8).step hB hg k1 g1)
      clear k1 g1 Y8
      have hp : p = 0 ∨ p = 1 ∨ p = 2 ∨ p = 3 ∨ p = 4 := by omega
      rcases hp with rfl | rfl | rfl | rfl | rfl
      · have hla := hide (fun q hq => lit_at3 (w := w9) (T := 2) (a0 := 0) (a1 := 359999999) (a2 := 360000000) q hq)
        have Y10 := hide ((unhide Y9).later hB ((Below.refl w9.heap.size w9).alloc (Nat.le_refl _) (.cells #[.int .i64 0, .int .i64 359999999, .int .i64 360000000] 2)))
        have hEg : w9.heap.size ≠ g := by have := (unhide Y9).ds.cur.lt; omega
        clear Y9
        go_wp2_with fail
        generalize hY : w9.alloc _ = Y at *
        refine (below_any W.heap.size g a len cap 3 _ hB hlen (unhide Y10).ds.cur (unhide Y10).ds.rd (by omega)).mono ?_
        rintro e w11 ⟨r, rfl, r0, r1, k1, g1⟩
        obtain ⟨r, rfl⟩ := Int.eq_ofNat_of_zero_le r0
        obtain ⟨x, hx⟩ := unhide hla r (by omega)
        have hx1 := grown_cell g1 hEg hx
        have Y11 := hide ((unhide Y10).step hB hg k1 g1)
        obtain ⟨d0, d1, d2, d3, d4⟩ := blk5 (unhide Y11).qb
        have df := froz5 (unhide Y11).qb 0
        have YF := hide ((unhide Y11).set hBw hg 0 (by omega) x)
        clear hx k1 g1 Y10 hla hY Y11
        go_wp2_with fail
        go_meet
        obtain ⟨s, hs⟩ := unhide YF
        exact ⟨s, hide hs⟩
      · have hla := hide (fun q hq => lit_at2 (w := w9) (T := 2) (a0 := -1) (a1 := 360000000) q hq)
        have Y10 := hide ((unhide Y9).later hB ((Below.refl w9.heap.size w9).alloc (Nat.le_refl _) (.cells #[.int .i64 (-1), .int .i64 360000000] 2)))
        have hEg : w9.heap.size ≠ g := by have := (unhide Y9).ds.cur.lt; omega
        clear Y9
        go_wp2_with fail
        generalize hY : w9.alloc _ = Y at *
        refine (below_any W.heap.size g a len cap 2 _ hB hlen (unhide Y10).ds.cur (unhide Y10).ds.rd (by omega)).mono ?_
        rintro e w11 ⟨r, rfl, r0, r1, k1, g1⟩
        obtain ⟨r, rfl⟩ := Int.eq_ofNat_of_zero_le r0
        obtain ⟨x, hx⟩ := unhide hla r (by omega)
        have hx1 := grown_cell g1 hEg hx
        have Y11 := hide ((unhide Y10).step hB hg k1 g1)
        obtain ⟨d0, d1, d2, d3, d4⟩ := blk5 (unhide Y11).qb
        have df := froz5 (unhide Y11).qb 1
        have YF := hide ((unhide Y11).set hBw hg 1 (by omega) x)
        clear hx k1 g1 Y10 hla hY Y11
        go_wp2_with fail
        go_meet
        obtain ⟨s, hs⟩ := unhide YF
        exact ⟨s, hide hs⟩
      · have hla := hide (fun q hq => lit_at3 (w := w9) (T := 2) (a0 := 0) (a1 := 359999999) (a2 := 360000000) q hq)
        have Y10 := hide ((unhide Y9).later hB ((Below.refl w9.heap.size w9).alloc (Nat.le_refl _) (.cells #[.int .i64 0, .int .i64 359999999, .int .i64 360000000] 2)))
        have hEg : w9.heap.size ≠ g := by have := (unhide Y9).ds.cur.lt; omega
        clear Y9
        go_wp2_with fail
        generalize hY : w9.alloc _ = Y at *
        refine (below_any W.heap.size g a len cap 3 _ hB hlen (unhide Y10).ds.cur (unhide Y10).ds.rd (by omega)).mono ?_
        rintro e w11 ⟨r, rfl, r0, r1, k1, g1⟩
        obtain ⟨r, rfl⟩ := Int.eq_ofNat_of_zero_le r0
        obtain ⟨x, hx⟩ := unhide hla r (by omega)
        have hx1 := grown_cell g1 hEg hx
        have Y11 := hide ((unhide Y10).step hB hg k1 g1)
        obtain ⟨d0, d1, d2, d3, d4⟩ := blk5 (unhide Y11).qb
        have df := froz5 (unhide Y11).qb 2
        have YF := hide ((unhide Y11).set hBw hg 2 (by omega) x)
        clear hx k1 g1 Y10 hla hY Y11
        go_wp2_with fail
        go_meet
        obtain ⟨s, hs⟩ := unhide YF
        exact ⟨s, hide hs⟩
      · obtain ⟨d0, d1, d2, d3, d4⟩ := blk5 (unhide Y9).qb
        have df := froz5 (unhide Y9).qb 3
        have YF := hide ((unhide Y9).set hBw hg 3 (by omega) 0)
        clear Y9
        go_wp2_with fail
        go_meet
        obtain ⟨s, hs⟩ := unhide YF
        exact ⟨s, hide hs⟩
      · obtain ⟨d0, d1, d2, d3, d4⟩ := blk5 (unhide Y9).qb
        have df := froz5 (unhide Y9).qb 4
        have YF := hide ((unhide Y9).set hBw hg 4 (by omega) 0)
        clear Y9
        go_wp2_with fail
        go_meet
        obtain ⟨s, hs⟩ := unhide YF
        exact ⟨s, hide hs⟩
  case rest =>
    obtain ⟨s, Y⟩ := hcut
    clear Y8
    have hqp : q ≠ W.heap.size := by have := (unhide Y).ge; omega
    have hqg : q ≠ g := by have := (unhide Y).ge; omega
    obtain ⟨s1, s2, s3, s4, s5⟩ := s
    have Yd := hide ((unhide Y).later hB (Below.refl wc.heap.size wc).drew)
    have Qd := hide (show wc.drew.heap[q]? = some (.cells #[.int .i64 s1, .int .i64 s2, .int .i64 s3, .int .i64 s4, .int .i64 s5] 36 (0, 0)) from (unhide Yd).qb)
    have Pd := hide (show wc.drew.heap[W.heap.size]? = _ from ((unhide Yd).ds.gr.block W.heap.size hpw (by intro e; injection e with e; omega)).trans (unhide P1))
    have cD := hide (dttY hB (Nat.le_trans hBw (unhide Yd).ds.gr.size) hlen (unhide Yd).ds.cur (unhide Yd).ds.rd (unhide Qd) (unhide Pd) hqg hpg hqp)
    go_wp2_with fail
    go_region_held3 (fun w' => w'.cell? ⟨q, 0, none⟩ = some (.int .i64 s1) ∧ w'.cell? ⟨q, 1, none⟩ = some (.int .i64 s2) ∧ w'.cell? ⟨q, 2, none⟩ = some (.int .i64 s3) ∧ w'.cell? ⟨q, 3, none⟩ = some (.int .i64 s4) ∧ w'.cell? ⟨q, 4, none⟩ = some (.int .i64 s5))
      (first | (with_reducible exact blk5 (unhide Q9)) | (with_reducible exact blk5 (unhide Qd)) | (with_reducible exact blk5 (unhide QF)))
      ((go_at_call 30; with_reducible refine (unhide cD).mono ?_; rintro e w9 ⟨gl, n, c, L, rfl, hn, K, q9, p9, qf, m0, m1, m2, m3, m4, f0, f1, f2, f3, f4⟩; have K9 := hide K; have Q9 := hide q9; have P9 := hide p9; have QF := hide qf; clear K q9 p9 qf))
    all_goals (
      have hpl : W.heap.size ≠ gl := by have := own_ge (unhide K9).ow; have := (unhide Yd).ds.gr.size; omega
      have hT := hide (show Tt W gl n c L (((((w9.setCell ⟨W.heap.size, 0, none⟩ (.int .i64 s1)).setCell ⟨W.heap.size, 1, none⟩ (.int .i64 s2)).setCell ⟨W.heap.size, 2, none⟩ (.int .i64 s3)).setCell ⟨W.heap.size, 3, none⟩ (.int .i64 s4)).setCell ⟨W.heap.size, 4, none⟩ (.int .i64 s5)) from
        ⟨hn, put5_own _ _ _ _ _ (own_mono (unhide K9).ow (Nat.le_trans hBw (unhide Yd).ds.gr.size)) hpl, (unhide K9).sz, put5_below _ _ _ _ _ (below_grown (below_grown (unhide hBW) (unhide Yd).ds.gr hB) (unhide K9).ds.gr hB) (Nat.le_refl _)⟩)
      have PF := hide (show (((((w9.setCell ⟨W.heap.size, 0, none⟩ (.int .i64 s1)).setCell ⟨W.heap.size, 1, none⟩ (.int .i64 s2)).setCell ⟨W.heap.size, 2, none⟩ (.int .i64 s3)).setCell ⟨W.heap.size, 3, none⟩ (.int .i64 s4)).setCell ⟨W.heap.size, 4, none⟩ (.int .i64 s5)).heap[W.heap.size]? = some (.cells #[.int .i64 s1, .int .i64 s2, .int .i64 s3, .int .i64 s4, .int .i64 s5] 36 (0, 0)) from put5_blk (.int .i64 s1) (.int .i64 s2) (.int .i64 s3) (.int .i64 s4) (.int .i64 s5) (unhide P9))
      clear Q9 QF P9 K9 m0 m1 m2 m3 m4 f0 f1 f2 f3 f4 Y Yd Qd Pd cD
      go_wp2
      generalize (((((w9.setCell ⟨W.heap.size, 0, none⟩ (.int .i64 s1)).setCell ⟨W.heap.size, 1, none⟩ (.int .i64 s2)).setCell ⟨W.heap.size, 2, none⟩ (.int .i64 s3)).setCell ⟨W.heap.size, 3, none⟩ (.int .i64 s4)).setCell ⟨W.heap.size, 4, none⟩ (.int .i64 s5)) = WF at *
      obtain ⟨c0, c1, c2, c3, c4⟩ := blk5 (unhide PF)
      exact bodyPost_ret (v := .tuple #[.slice (some ⟨gl, 0, none⟩) n c, ag5 (s1, s2, s3, s4, s5)]) (by simp [results, Tryd.results14, go_sem, c0, c1, c2, c3, c4]) rfl ⟨gl, n, c, L, (s1, s2, s3, s4, s5), rfl, unhide hT⟩)

end Go.Proofs.YtcpllfjhhlbmiaaDoor
