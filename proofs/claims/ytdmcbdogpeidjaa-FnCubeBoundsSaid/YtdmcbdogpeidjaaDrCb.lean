/-
  The model's draw of a cube: its contract.
-/
import Derived.Test.YtdmcbdogpeidjaaPlc
namespace Go.Proofs.Ytdmcbdogpeidjaa
open Go.RowKit
set_option linter.unusedVariables false
set_option linter.unusedSimpArgs false

/-- a drawn table: all are colours, but that the first may have too great an R -/
def TG (L : List Kl) : Prop := ∀ (j : Nat) (c : Kl), L[j]? = some c → LvOk c.2.1 ∧ LvOk c.2.2 ∧ (0 : Int) ≤ c.1 ∧ (c.1 ≤ (65535 : Int) ∨ j = 0)
theorem tg_cs {L : List Kl} (h : CsOk L) : TG L := fun j c hj => by
  obtain ⟨a, b, d⟩ := h.at hj
  exact ⟨b, d, a.1, Or.inl a.2⟩
theorem cs_set {L : List Kl} {k : Nat} {c : Kl} (h : CsOk L) (hc : CoOk c) : CsOk (L.set k c) := by
  intro d hd
  rcases List.mem_or_eq_of_mem_set hd with h1 | h1
  · exact h d h1
  · subst h1; exact hc
theorem tg_bad {L : List Kl} {a b c : Int} (h : CsOk L) (hb : LvOk b) (hc : LvOk c) : TG (L.set 0 (65536, b, c)) := fun j d hj => by
  by_cases e : j = 0
  · subst e
    rw [List.getElem?_set] at hj
    simp at hj
    obtain ⟨_, rfl⟩ := hj
    exact ⟨hb, hc, (show (0 : Int) ≤ 65536 by decide), Or.inr rfl⟩
  · rw [List.getElem?_set_ne (by omega)] at hj
    exact tg_cs h j d hj
theorem own_cap {w : World} {B g n cap m : Nat} {e : TypeId} {xs : List Value} (h : w.ownsRow B e m (.slice (some ⟨g, 0, none⟩) n cap) n xs) : n ≤ cap ∧ cap ≤ maxLen := by
  obtain ⟨_, h2⟩ := h
  rcases h2 with ⟨hv, _⟩ | ⟨g', cap', cur, hv, _, _, h1, h2, _⟩
  · cases hv
  · injection hv with e1 e2 e3
    subst e3
    exact ⟨h1, h2⟩
theorem kls_tail {w : World} {B g n cap : Nat} {x : Kl} {l : List Kl} (h : Own w B g n cap (x :: l)) : Kls w (some ⟨g, 3, none⟩) l := by
  intro j y hj
  obtain ⟨c0, c1, c2⟩ := own_cells (k := j + 1) (x := y) (by simpa using hj) h
  have e0 : (j + 1) * 3 = 3 + j * 3 := by omega
  have e1 : (j + 1) * 3 + 1 = 3 + j * 3 + 1 := by omega
  have e2 : (j + 1) * 3 + 2 = 3 + j * 3 + 2 := by omega
  rw [e0] at c0
  rw [e1] at c1
  rw [e2] at c2
  exact ⟨g, 3, rfl, own_lt h, c0, c1, c2⟩
theorem lit4v {w : World} {T : TypeId} {k : Nat} (hk : k < 4) : ∃ v : Int, (w.alloc (.cells #[.int .i64 1, .int .i64 9, .int .i64 10, .int .i64 5] T)).cell? ⟨w.heap.size, k, none⟩ = some (.int .i64 v) := lit4 hk
/-- the state while a table is drawn -/
structure TS (w : World) (B g : Nat) (a : Option Addr) (len cap : Nat) (wr : World) (r c : Nat) (L : List Kl) : Prop where
  own : Own wr w.heap.size r L.length c L
  ds : DS w B g a len cap wr
theorem TS.call {w wr w1 : World} {B g r c : Nat} {a : Option Addr} {len cap : Nat} {L : List Kl} (h : TS w B g a len cap wr r c L) (hB : B ≤ g) (hg : g < w.heap.size) (hc : CurAt w1 g a len cap) (hgr : wr.grownBy w1 (some g)) : TS w B g a len cap w1 r c L :=
  ⟨own_kept h.own hgr (by have := own_ge h.own; omega), h.ds.step hB hc hgr⟩
theorem TS.put {w wr : World} {B g r c k : Nat} {x : Kl} {a : Option Addr} {len cap : Nat} {L : List Kl} (h : TS w B g a len cap wr r c L) (hB : B ≤ g) (hg : g < w.heap.size) (hk : k < L.length) : TS w B g a len cap (((wr.setCell ⟨r, k * 3, none⟩ (.int .i64 x.1)).setCell ⟨r, k * 3 + 1, none⟩ (.int .i64 x.2.1)).setCell ⟨r, k * 3 + 2, none⟩ (.int .i64 x.2.2)) r c (L.set k x) := by
  have hr := own_ge h.own
  refine ⟨?_, ((h.ds.set hB hr (by omega) (by omega)).set hB hr (by omega) (by omega)).set hB hr (by omega) (by omega)⟩
  rw [List.length_set]
  exact own_put hk h.own
theorem set_self {l : List Value} {k : Nat} {x : Value} (h : l[k]? = some x) : l.set k x = l := by
  obtain ⟨hk, rfl⟩ := List.getElem?_eq_some_iff.1 h
  simp
theorem TS.bad {w wr : World} {B g r c : Nat} {x y z : Int} {l : List Kl} {a : Option Addr} {len cap : Nat} (h : TS w B g a len cap wr r c ((x, y, z) :: l)) (hB : B ≤ g) (hg : g < w.heap.size) (v : Int) : TS w B g a len cap (wr.setCell ⟨r, 0, none⟩ (.int .i64 v)) r c ((v, y, z) :: l) := by
  have hr := own_ge h.own
  refine ⟨?_, h.ds.set hB hr (by omega) (by omega)⟩
  have h1 := (h.own.stored 0 (iv v)).1
  exact h1

set_option maxHeartbeats 6400000 in
theorem dcub_any (B g : Nat) (a : Option Addr) (len cap : Nat) (w : World) (hB : B ≤ g) (hg : g < w.heap.size) (hl : len ≤ 9223372036854775807) (hc : CurAt w g a len cap) (hr : RdB w B a len) :
    Calls Try.prog 37 #[.pointer (some ⟨g, 0, none⟩)] w fun e w' => ∃ (n : Int) (r o c : Nat) (L : List Kl), e = .returned (.tuple #[.int .i64 n, .slice (some ⟨r, o, none⟩) L.length c]) ∧ TG L ∧ L.length ≤ 729 ∧ w.heap.size ≤ r ∧ Kls w' (some ⟨r, o, none⟩) L ∧ CurAt w' g a len cap ∧ w.grownBy w' (some g) := by
  have D0 : Hid (DS w B g a len cap w) := hide ⟨hc, hr, grown_refl _ _⟩
  clear hc hr
  go_enter Try.func37, Try.ntmps37
  go_wp2_with fail
  refine (below_any B g a len cap 3 _ hB hl (unhide D0).cur (unhide D0).rd (by omega)).mono ?_
  rintro e w1 ⟨x, rfl, x0, x1, k1, g1⟩
  have D1 := hide ((unhide D0).step hB k1 g1)
  clear D0 k1 g1
  go_wp2_with fail
  refine (once_any B g a len cap 30 _ hB hl (unhide D1).cur (unhide D1).rd (by omega)).mono ?_
  rintro e w2 ⟨bb, rfl, k1, g1⟩
  have D2 := hide ((unhide D1).step hB k1 g1)
  clear D1 k1 g1
  cases bb
  · go_wp2_with fail
    refine (splain_any (2 + x) _).mono ?_
    rintro e w5 ⟨r, c, L, rfl, hLn, hL8, hCs, ho, hb5⟩
    have hsd := (unhide D2).gr.size
    have T5 : Hid (TS w B g a len cap w5 r c L) := hide ⟨own_mono ho hsd, (unhide D2).later hB hb5⟩
    have C5 := hide hCs
    clear ho hb5 hCs D2 hsd
    go_wp2_with fail
    refine (below_any B g a len cap 30 _ hB hl (unhide T5).ds.cur (unhide T5).ds.rd (by omega)).mono ?_
    rintro e w6 ⟨m, rfl, m0, m1, k1, g1⟩
    have T6 := hide ((unhide T5).call hB hg k1 g1)
    clear T5 k1 g1
    obtain ⟨m, rfl⟩ := Int.eq_ofNat_of_zero_le m0
    generalize hN : L.length = N at *
    have hN' := hide hN
    clear hN
    go_wp2
    go_loopw [6] (fun t wr => ∃ (k : Nat) (L' : List Kl), t = .int .i64 k ∧ k ≤ 30 ∧ Hid (L'.length = N) ∧ Hid (CsOk L') ∧ Hid (TS w B g a len cap wr r c L')) (fun t _ => (intOf t).toNat)
    case atStart => exact ⟨m, L, rfl, by omega, hN', C5, T6⟩
    case round =>
      clear T6 C5 hN'
      obtain ⟨k, L', rfl, hk30, hN', hCs, hT⟩ := hrel
      by_cases hgo : 0 < k ∧ 0 < N
      · obtain ⟨hk0, hN0⟩ := hgo
        have d0 : decide ((0 : Int) < k) = true := by simp; omega
        have d0' : decide (0 < k) = true := by simpa using hk0
        have d1 : decide ((0 : Int) < N) = true := by simp; omega
        have d1' : decide (0 < N) = true := by simpa using hN0
        go_wp2_with fail
        refine (below_any B g a len cap N _ hB hl (unhide hT).ds.cur (unhide hT).ds.rd (by omega)).mono ?_
        rintro e w7 ⟨xi, rfl, i0, i1, k1, g1⟩
        have T7 := hide ((unhide hT).call hB hg k1 g1)
        clear hT k1 g1
        obtain ⟨ix, rfl⟩ := Int.eq_ofNat_of_zero_le i0
        go_wp2_with fail
        refine (dval_any B g a len cap _ hB hl (unhide T7).ds.cur (unhide T7).ds.rd).mono ?_
        rintro e w8 ⟨v0, rfl, lv0, k1, g1⟩
        have T8 := hide ((unhide T7).call hB hg k1 g1)
        have L0 := hide lv0
        clear T7 k1 g1 lv0
        go_wp2_with fail
        refine (dval_any B g a len cap _ hB hl (unhide T8).ds.cur (unhide T8).ds.rd).mono ?_
        rintro e w9 ⟨v1, rfl, lv1, k1, g1⟩
        have T9 := hide ((unhide T8).call hB hg k1 g1)
        have L1 := hide lv1
        clear T8 k1 g1 lv1
        go_wp2_with fail
        refine (dval_any B g a len cap _ hB hl (unhide T9).ds.cur (unhide T9).ds.rd).mono ?_
        rintro e w10 ⟨v2, rfl, lv2, k1, g1⟩
        have T10 := hide ((unhide T9).call hB hg k1 g1)
        have L2 := hide lv2
        clear T9 k1 g1 lv2
        have hix : ix < L'.length := by rw [unhide hN']; omega
        obtain ⟨z0, z1, z2⟩ := own_cells (List.getElem?_eq_getElem hix) (unhide T10).own
        have f0 := (unhide T10).own.frozenAt (ix * 3)
        have f1 := (unhide T10).own.frozenAt (ix * 3 + 1)
        have f2 := (unhide T10).own.frozenAt (ix * 3 + 2)
        have T11 := hide ((unhide T10).put (x := (v0, v1, v2)) hB hg hix)
        have N11 : Hid ((L'.set ix (v0, v1, v2)).length = N) := hide (by rw [List.length_set]; exact unhide hN')
        have C11 : Hid (CsOk (L'.set ix (v0, v1, v2))) := hide (cs_set (unhide hCs) ⟨unhide L0, unhide L1, unhide L2⟩)
        generalize L'[ix].1 = y0 at *
        generalize L'[ix].2.1 = y1 at *
        generalize L'[ix].2.2 = y2 at *
        clear hix T10
        go_wp2
        go_roundw
        case rel => exact ⟨k - 1, _, by go_num, by omega, N11, C11, T11⟩
        case measure => simp [intOf]; omega
      · by_cases hk0 : 0 < k
        · have hN00 : N = 0 := by omega
          have d0 : decide ((0 : Int) < k) = true := by simp; omega
          have d0' : decide (0 < k) = true := by simpa using hk0
          have d2 : decide ((0 : Int) < N) = false := by simp; omega
          have d2' : decide (0 < N) = false := by simp; omega
          have hstopx := hgo
          clear hN00
          go_wp2_with fail
          refine (once_any B g a len cap 24 _ hB hl (unhide hT).ds.cur (unhide hT).ds.rd (by omega)).mono ?_
          rintro e w7 ⟨b2, rfl, k1, g1⟩
          have T7 := hide ((unhide hT).call hB hg k1 g1)
          clear hT k1 g1 hstopx
          cases b2
          · go_wp2
            exact bodyPost_ret (v := .tuple #[.int .i64 (2 + x), .slice (some ⟨r, 0, none⟩) N c]) (by simp [results, Try.results37, go_sem]) rfl ⟨(2 + x), r, 0, c, L', by rw [unhide hN'], tg_cs (unhide hCs), by rw [unhide hN']; omega, own_ge (unhide T7).own, kls_own (unhide T7).own, (unhide T7).ds.cur, (unhide T7).ds.gr⟩
          · go_wp2
            exact bodyPost_ret (v := .tuple #[.int .i64 (2 + x), .slice (some ⟨r, 0, none⟩) N c]) (by simp [results, Try.results37, go_sem]) rfl ⟨(2 + x), r, 0, c, L', by rw [unhide hN'], tg_cs (unhide hCs), by rw [unhide hN']; omega, own_ge (unhide T7).own, kls_own (unhide T7).own, (unhide T7).ds.cur, (unhide T7).ds.gr⟩
        · have hk00 : k = 0 := by omega
          subst hk00
          have hstopx := hgo
          go_wp2_with fail
          refine (once_any B g a len cap 24 _ hB hl (unhide hT).ds.cur (unhide hT).ds.rd (by omega)).mono ?_
          rintro e w7 ⟨b2, rfl, k1, g1⟩
          have T7 := hide ((unhide hT).call hB hg k1 g1)
          clear hT k1 g1
          cases b2
          · go_wp2
            exact bodyPost_ret (v := .tuple #[.int .i64 (2 + x), .slice (some ⟨r, 0, none⟩) N c]) (by simp [results, Try.results37, go_sem]) rfl ⟨(2 + x), r, 0, c, L', by rw [unhide hN'], tg_cs (unhide hCs), by rw [unhide hN']; omega, own_ge (unhide T7).own, kls_own (unhide T7).own, (unhide T7).ds.cur, (unhide T7).ds.gr⟩
          · by_cases hN0 : 0 < N
            · have d1 : decide ((0 : Int) < N) = true := by simp; omega
              have d1' : decide (0 < N) = true := by simpa using hN0
              clear hstopx
              have hN8 : 8 ≤ N := by omega
              have s0 : (0 : Int) < N := by omega
              go_wp2_with fail
              refine (below_any B g a len cap 2 _ hB hl (unhide T7).ds.cur (unhide T7).ds.rd (by omega)).mono ?_
              rintro e w8 ⟨u, rfl, u0, u1, k1, g1⟩
              have T8 := hide ((unhide T7).call hB hg k1 g1)
              clear T7 k1 g1
              obtain ⟨⟨h0, h1, h2⟩, l', hL'⟩ : ∃ (h : Kl) (l' : List Kl), L' = h :: l' := by
                cases L' with
                | nil => have := unhide hN'; simp at this; omega
                | cons h l' => exact ⟨h, l', rfl⟩
              subst hL'
              have hl'n : Hid (l'.length + 1 = N) := hide (by have := unhide hN'; simpa using this)
              by_cases hu : u = 0
              · subst hu
                have e0 : ((0 : Int) == 0) = true := rfl
                have hcap := own_cap (unhide T8).own
                have hcn : N ≤ c := by have := unhide hN'; omega
                have hcm : (c : Int) ≤ 9223372036854775807 := by have := hcap.2; unfold maxLen at this; omega
                have s1 : (1 : Int) ≤ N := by omega
                have s2 : (N : Int) ≤ c := by omega
                have s3 : (1 : Int) ≤ c := by omega
                have s4 : ¬ (c = 1) := by omega
                have s5 : ¬ (1 = c) := by omega
                have s6 : ¬ ((c : Int) = 1) := by omega
                have s7 : ¬ ((1 : Int) = c) := by omega
                clear hcap
                have hln : Hid (l'.length = N - 1) := hide (by have := unhide hl'n; omega)
                have hcs2 : Hid (CsOk l') := hide (fun d hd => unhide hCs d (List.mem_cons_of_mem _ hd))
                go_wp2
                exact bodyPost_ret (v := .tuple #[.int .i64 (2 + x), .slice (some ⟨r, 3, none⟩) (N - 1) (c - 1)]) (by simp [results, Try.results37, go_sem]) rfl ⟨(2 + x), r, 3, c - 1, l', by rw [unhide hln], tg_cs (unhide hcs2), by rw [unhide hln]; omega, own_ge (unhide T8).own, kls_tail (unhide T8).own, (unhide T8).ds.cur, (unhide T8).ds.gr⟩
              · have hu1 : u = 1 := by omega
                subst hu1
                have e0 : ((1 : Int) == 0) = false := rfl
                have e1 : ((1 : Int) == 1) = true := rfl
                obtain ⟨z0, z1, z2⟩ := own_cells (k := 0) (x := (h0, h1, h2)) rfl (unhide T8).own
                have f0 := (unhide T8).own.frozenAt 0
                rw [Nat.zero_mul] at z0
                have T9 := hide ((unhide T8).bad hB hg 65536)
                have G9 : Hid (TG ((65536, h1, h2) :: l')) := hide (by
                  have := tg_bad (a := 0) (unhide hCs) ((unhide hCs) _ (List.mem_cons_self ..)).2.1 ((unhide hCs) _ (List.mem_cons_self ..)).2.2
                  exact this)
                have N9 : Hid (((65536, h1, h2) :: l').length = N) := hide (by simpa using unhide hl'n)
                clear T8
                go_wp2
                exact bodyPost_ret (v := .tuple #[.int .i64 (2 + x), .slice (some ⟨r, 0, none⟩) N c]) (by simp [results, Try.results37, go_sem]) rfl ⟨(2 + x), r, 0, c, _, by rw [unhide N9], unhide G9, by rw [unhide N9]; omega, own_ge (unhide T9).own, kls_own (unhide T9).own, (unhide T9).ds.cur, (unhide T9).ds.gr⟩
            · have d1 : decide ((0 : Int) < N) = false := by simp; omega
              have d1' : decide (0 < N) = false := by simpa using hN0
              clear hstopx
              go_wp2
              exact bodyPost_ret (v := .tuple #[.int .i64 (2 + x), .slice (some ⟨r, 0, none⟩) N c]) (by simp [results, Try.results37, go_sem]) rfl ⟨(2 + x), r, 0, c, L', by rw [unhide hN'], tg_cs (unhide hCs), by rw [unhide hN']; omega, own_ge (unhide T7).own, kls_own (unhide T7).own, (unhide T7).ds.cur, (unhide T7).ds.gr⟩
  · have gl2 : g < w2.heap.size := (unhide D2).cur.lt
    have hal : Below w2.heap.size w2 (w2.alloc (.cells #[.int .i64 1, .int .i64 9, .int .i64 10, .int .i64 5] 2)) := (Below.refl _ _).alloc (Nat.le_refl _) _
    have D3 := hide ((unhide D2).later hB hal)
    clear hal D2
    go_wp2_with fail
    refine (below_any B g a len cap 4 _ hB hl (unhide D3).cur (unhide D3).rd (by omega)).mono ?_
    rintro e w4 ⟨xx, rfl, xx0, xx1, k1, g1⟩
    obtain ⟨kx, rfl⟩ := Int.eq_ofNat_of_zero_le xx0
    obtain ⟨nv, hcv⟩ := lit4v (w := w2) (T := 2) (k := kx) (by omega)
    have hcv2 := grown_cell g1 (by omega) hcv
    have D4 := hide ((unhide D3).step hB k1 g1)
    clear k1 g1 hcv D3
    go_wp2_with fail
    refine (splain_any nv _).mono ?_
    rintro e w5 ⟨r, c, L, rfl, hLn, hL8, hCs, ho, hb5⟩
    have hsd := (unhide D4).gr.size
    have T5 : Hid (TS w B g a len cap w5 r c L) := hide ⟨own_mono ho hsd, (unhide D4).later hB hb5⟩
    have C5 := hide hCs
    clear ho hb5 hCs D4 hsd
    go_wp2_with fail
    refine (below_any B g a len cap 30 _ hB hl (unhide T5).ds.cur (unhide T5).ds.rd (by omega)).mono ?_
    rintro e w6 ⟨m, rfl, m0, m1, k1, g1⟩
    have T6 := hide ((unhide T5).call hB hg k1 g1)
    clear T5 k1 g1
    obtain ⟨m, rfl⟩ := Int.eq_ofNat_of_zero_le m0
    generalize hN : L.length = N at *
    have hN' := hide hN
    clear hN
    go_wp2
    go_loopw [6] (fun t wr => ∃ (k : Nat) (L' : List Kl), t = .int .i64 k ∧ k ≤ 30 ∧ Hid (L'.length = N) ∧ Hid (CsOk L') ∧ Hid (TS w B g a len cap wr r c L')) (fun t _ => (intOf t).toNat)
    case atStart => exact ⟨m, L, rfl, by omega, hN', C5, T6⟩
    case round =>
      clear T6 C5 hN'
      obtain ⟨k, L', rfl, hk30, hN', hCs, hT⟩ := hrel
      by_cases hgo : 0 < k ∧ 0 < N
      · obtain ⟨hk0, hN0⟩ := hgo
        have d0 : decide ((0 : Int) < k) = true := by simp; omega
        have d0' : decide (0 < k) = true := by simpa using hk0
        have d1 : decide ((0 : Int) < N) = true := by simp; omega
        have d1' : decide (0 < N) = true := by simpa using hN0
        go_wp2_with fail
        refine (below_any B g a len cap N _ hB hl (unhide hT).ds.cur (unhide hT).ds.rd (by omega)).mono ?_
        rintro e w7 ⟨xi, rfl, i0, i1, k1, g1⟩
        have T7 := hide ((unhide hT).call hB hg k1 g1)
        clear hT k1 g1
        obtain ⟨ix, rfl⟩ := Int.eq_ofNat_of_zero_le i0
        go_wp2_with fail
        refine (dval_any B g a len cap _ hB hl (unhide T7).ds.cur (unhide T7).ds.rd).mono ?_
        rintro e w8 ⟨v0, rfl, lv0, k1, g1⟩
        have T8 := hide ((unhide T7).call hB hg k1 g1)
        have L0 := hide lv0
        clear T7 k1 g1 lv0
        go_wp2_with fail
        refine (dval_any B g a len cap _ hB hl (unhide T8).ds.cur (unhide T8).ds.rd).mono ?_
        rintro e w9 ⟨v1, rfl, lv1, k1, g1⟩
        have T9 := hide ((unhide T8).call hB hg k1 g1)
        have L1 := hide lv1
        clear T8 k1 g1 lv1
        go_wp2_with fail
        refine (dval_any B g a len cap _ hB hl (unhide T9).ds.cur (unhide T9).ds.rd).mono ?_
        rintro e w10 ⟨v2, rfl, lv2, k1, g1⟩
        have T10 := hide ((unhide T9).call hB hg k1 g1)
        have L2 := hide lv2
        clear T9 k1 g1 lv2
        have hix : ix < L'.length := by rw [unhide hN']; omega
        obtain ⟨z0, z1, z2⟩ := own_cells (List.getElem?_eq_getElem hix) (unhide T10).own
        have f0 := (unhide T10).own.frozenAt (ix * 3)
        have f1 := (unhide T10).own.frozenAt (ix * 3 + 1)
        have f2 := (unhide T10).own.frozenAt (ix * 3 + 2)
        have T11 := hide ((unhide T10).put (x := (v0, v1, v2)) hB hg hix)
        have N11 : Hid ((L'.set ix (v0, v1, v2)).length = N) := hide (by rw [List.length_set]; exact unhide hN')
        have C11 : Hid (CsOk (L'.set ix (v0, v1, v2))) := hide (cs_set (unhide hCs) ⟨unhide L0, unhide L1, unhide L2⟩)
        generalize L'[ix].1 = y0 at *
        generalize L'[ix].2.1 = y1 at *
        generalize L'[ix].2.2 = y2 at *
        clear hix T10
        go_wp2
        go_roundw
        case rel => exact ⟨k - 1, _, by go_num, by omega, N11, C11, T11⟩
        case measure => simp [intOf]; omega
      · by_cases hk0 : 0 < k
        · have hN00 : N = 0 := by omega
          have d0 : decide ((0 : Int) < k) = true := by simp; omega
          have d0' : decide (0 < k) = true := by simpa using hk0
          have d2 : decide ((0 : Int) < N) = false := by simp; omega
          have d2' : decide (0 < N) = false := by simp; omega
          have hstopx := hgo
          clear hN00
          go_wp2_with fail
          refine (once_any B g a len cap 24 _ hB hl (unhide hT).ds.cur (unhide hT).ds.rd (by omega)).mono ?_
          rintro e w7 ⟨b2, rfl, k1, g1⟩
          have T7 := hide ((unhide hT).call hB hg k1 g1)
          clear hT k1 g1 hstopx
          cases b2
          · go_wp2
            exact bodyPost_ret (v := .tuple #[.int .i64 nv, .slice (some ⟨r, 0, none⟩) N c]) (by simp [results, Try.results37, go_sem]) rfl ⟨nv, r, 0, c, L', by rw [unhide hN'], tg_cs (unhide hCs), by rw [unhide hN']; omega, own_ge (unhide T7).own, kls_own (unhide T7).own, (unhide T7).ds.cur, (unhide T7).ds.gr⟩
          · go_wp2
            exact bodyPost_ret (v := .tuple #[.int .i64 nv, .slice (some ⟨r, 0, none⟩) N c]) (by simp [results, Try.results37, go_sem]) rfl ⟨nv, r, 0, c, L', by rw [unhide hN'], tg_cs (unhide hCs), by rw [unhide hN']; omega, own_ge (unhide T7).own, kls_own (unhide T7).own, (unhide T7).ds.cur, (unhide T7).ds.gr⟩
        · have hk00 : k = 0 := by omega
          subst hk00
          have hstopx := hgo
          go_wp2_with fail
          refine (once_any B g a len cap 24 _ hB hl (unhide hT).ds.cur (unhide hT).ds.rd (by omega)).mono ?_
          rintro e w7 ⟨b2, rfl, k1, g1⟩
          have T7 := hide ((unhide hT).call hB hg k1 g1)
          clear hT k1 g1
          cases b2
          · go_wp2
            exact bodyPost_ret (v := .tuple #[.int .i64 nv, .slice (some ⟨r, 0, none⟩) N c]) (by simp [results, Try.results37, go_sem]) rfl ⟨nv, r, 0, c, L', by rw [unhide hN'], tg_cs (unhide hCs), by rw [unhide hN']; omega, own_ge (unhide T7).own, kls_own (unhide T7).own, (unhide T7).ds.cur, (unhide T7).ds.gr⟩
          · by_cases hN0 : 0 < N
            · have d1 : decide ((0 : Int) < N) = true := by simp; omega
              have d1' : decide (0 < N) = true := by simpa using hN0
              clear hstopx
              have hN8 : 8 ≤ N := by omega
              have s0 : (0 : Int) < N := by omega
              go_wp2_with fail
              refine (below_any B g a len cap 2 _ hB hl (unhide T7).ds.cur (unhide T7).ds.rd (by omega)).mono ?_
              rintro e w8 ⟨u, rfl, u0, u1, k1, g1⟩
              have T8 := hide ((unhide T7).call hB hg k1 g1)
              clear T7 k1 g1
              obtain ⟨⟨h0, h1, h2⟩, l', hL'⟩ : ∃ (h : Kl) (l' : List Kl), L' = h :: l' := by
                cases L' with
                | nil => have := unhide hN'; simp at this; omega
                | cons h l' => exact ⟨h, l', rfl⟩
              subst hL'
              have hl'n : Hid (l'.length + 1 = N) := hide (by have := unhide hN'; simpa using this)
              by_cases hu : u = 0
              · subst hu
                have e0 : ((0 : Int) == 0) = true := rfl
                have hcap := own_cap (unhide T8).own
                have hcn : N ≤ c := by have := unhide hN'; omega
                have hcm : (c : Int) ≤ 9223372036854775807 := by have := hcap.2; unfold maxLen at this; omega
                have s1 : (1 : Int) ≤ N := by omega
                have s2 : (N : Int) ≤ c := by omega
                have s3 : (1 : Int) ≤ c := by omega
                have s4 : ¬ (c = 1) := by omega
                have s5 : ¬ (1 = c) := by omega
                have s6 : ¬ ((c : Int) = 1) := by omega
                have s7 : ¬ ((1 : Int) = c) := by omega
                clear hcap
                have hln : Hid (l'.length = N - 1) := hide (by have := unhide hl'n; omega)
                have hcs2 : Hid (CsOk l') := hide (fun d hd => unhide hCs d (List.mem_cons_of_mem _ hd))
                go_wp2
                exact bodyPost_ret (v := .tuple #[.int .i64 nv, .slice (some ⟨r, 3, none⟩) (N - 1) (c - 1)]) (by simp [results, Try.results37, go_sem]) rfl ⟨nv, r, 3, c - 1, l', by rw [unhide hln], tg_cs (unhide hcs2), by rw [unhide hln]; omega, own_ge (unhide T8).own, kls_tail (unhide T8).own, (unhide T8).ds.cur, (unhide T8).ds.gr⟩
              · have hu1 : u = 1 := by omega
                subst hu1
                have e0 : ((1 : Int) == 0) = false := rfl
                have e1 : ((1 : Int) == 1) = true := rfl
                obtain ⟨z0, z1, z2⟩ := own_cells (k := 0) (x := (h0, h1, h2)) rfl (unhide T8).own
                have f0 := (unhide T8).own.frozenAt 0
                rw [Nat.zero_mul] at z0
                have T9 := hide ((unhide T8).bad hB hg 65536)
                have G9 : Hid (TG ((65536, h1, h2) :: l')) := hide (by
                  have := tg_bad (a := 0) (unhide hCs) ((unhide hCs) _ (List.mem_cons_self ..)).2.1 ((unhide hCs) _ (List.mem_cons_self ..)).2.2
                  exact this)
                have N9 : Hid (((65536, h1, h2) :: l').length = N) := hide (by simpa using unhide hl'n)
                clear T8
                go_wp2
                exact bodyPost_ret (v := .tuple #[.int .i64 nv, .slice (some ⟨r, 0, none⟩) N c]) (by simp [results, Try.results37, go_sem]) rfl ⟨nv, r, 0, c, _, by rw [unhide N9], unhide G9, by rw [unhide N9]; omega, own_ge (unhide T9).own, kls_own (unhide T9).own, (unhide T9).ds.cur, (unhide T9).ds.gr⟩
            · have d1 : decide ((0 : Int) < N) = false := by simp; omega
              have d1' : decide (0 < N) = false := by simpa using hN0
              clear hstopx
              go_wp2
              exact bodyPost_ret (v := .tuple #[.int .i64 nv, .slice (some ⟨r, 0, none⟩) N c]) (by simp [results, Try.results37, go_sem]) rfl ⟨nv, r, 0, c, L', by rw [unhide hN'], tg_cs (unhide hCs), by rw [unhide hN']; omega, own_ge (unhide T7).own, kls_own (unhide T7).own, (unhide T7).ds.cur, (unhide T7).ds.gr⟩
end Go.Proofs.Ytdmcbdogpeidjaa
