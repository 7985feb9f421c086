/-
  The model's draw of tracks and a handle: its contract: a list of tracks of its own, whatever is in it.
-/
import Derived.Test.YtfbifffmieimoaaDrT
import Derived.Test.YtfbifffmieimoaaDrR
import Derived.Test.YtfbifffmieimoaaINd
namespace Go.Proofs.Ytfbifffmieimoaa.Tk
open Go.RowKit
open Go.Proofs.Ytfbifffmieimoaa
open Go.Proofs.Ytfbifffmieimoaa.Rl (Tks)
set_option linter.unusedVariables false
set_option linter.unusedSimpArgs false

theorem info49n : (Try.prog.info? 49).map (fun i => (i.zero, i.size, i.bytes)) = some (some (.slice none 0 0), 1, 24) := by kernel_rfl
/-- one slice more behind an owned list of slices: all blocks but its row stand -/
theorem wpList_tg {ops : Array Oper} {rest : List Oper} {o : Oper} {a : Act} {Q : Exit → Act → World → Prop} (X : World) (v : Value) (hv1 : v.oneCell' = true) (hgd : o.guard = none) (s x : Operand) (ho : o.op = .call { callee := .builtin .append, args := #[s, x], argTypes := #[24, 24] })
    (B r n cap : Nat) (vs : List Value) (hs : a.eval s = .slice (some ⟨r, 0, none⟩) n cap) (hown : X.ownsRow B 49 1 (.slice (some ⟨r, 0, none⟩) n cap) n vs) (E : Nat) (hE : X.heap.size = E) (hx : a.eval x = .slice (some ⟨E, 0, none⟩) 1 1)
    (hl : n ≤ 1000000)
    (h : ∀ r' cap' w', w'.ownsRow B 49 1 (.slice (some ⟨r', 0, none⟩) (n + 1) cap') (n + 1) (vs ++ [v]) → X.grownBy w' (some r) → B ≤ r' → wpList Try.prog ops Q rest (a.put o.dst (.slice (some ⟨r', 0, none⟩) (n + 1) cap')) w') : wpList Try.prog ops Q (o :: rest) a (X.alloc (.cells #[v] 49)) := by
  subst hE
  obtain ⟨i0, hi, hz0, hz1, hz2⟩ := info_parts info49n
  have hBg : B ≤ r := (hown.lt r rfl).1
  have hgX : r < X.heap.size := own_lt hown
  have hal : Below X.heap.size X (X.alloc (.cells #[v] 49)) := (Below.refl _ _).alloc (Nat.le_refl _) _
  refine wpList_append_lies _ hgd s x 24 ho B 49 i0 (.slice none 0 0) 1 24 Try.underlying24 hi hz0 hz1 hz2 rfl (by decide) _ n vs hs (ownsRow_below hown hal) ⟨X.heap.size, 0, none⟩ 1 1 [v] hx rfl (by have := World.news_of_block (heap_alloc_new X (.cells #[v] 49)); simpa using this) (by intro u hu; simp at hu; rw [hu]; exact hv1) (by decide) (by unfold maxLen; omega) (by omega) (by have := hal.size; omega) _ rfl ?_
  intro r' cap' w' h1 h2 h3 h4
  refine h r' cap' w' h1 ?_ ?_
  · refine ⟨h2.os.trans hal.os, h2.tape.trans hal.tape, h2.output.trans hal.output, Nat.le_trans hal.size h2.size, fun k hk hn => ?_⟩
    rw [h2.block k (Nat.lt_of_lt_of_le hk hal.size) (by simpa [Value.ownBlock] using hn)]
    exact hal.block k hk
  · rcases h3 with h3 | h3
    · simp [Value.ownBlock] at h3; omega
    · have := hal.size; omega
/-- a list of tracks of its own -/
structure TL (w wr : World) (r c : Nat) (ts : List (List Kl)) : Prop where
  own : ∃ vs : List Value, wr.ownsRow w.heap.size 49 1 (.slice (some ⟨r, 0, none⟩) ts.length c) ts.length vs ∧ vs.length = ts.length ∧ ∀ (j : Nat) (t : List Kl), ts[j]? = some t → ∃ G cc, vs[j]? = some (.slice (some ⟨G, 0, none⟩) t.length cc) ∧ Own wr w.heap.size G t.length cc t ∧ t.length ≤ 1000
theorem TL.call {w wr w1 : World} {r c g : Nat} {ts : List (List Kl)} (h : TL w wr r c ts) (hg : g < w.heap.size) (hgr : wr.grownBy w1 (some g)) : TL w w1 r c ts := by
  obtain ⟨vs, h1, h2, h3⟩ := h.own
  refine ⟨vs, own_kept h1 hgr (by have := own_ge h1; omega), h2, fun j t ht => ?_⟩
  obtain ⟨G, cc, a1, a2, a3⟩ := h3 j t ht
  exact ⟨G, cc, a1, own_kept a2 hgr (by have := own_ge a2; omega), a3⟩
theorem TL.later {w wr w1 : World} {r c : Nat} {ts : List (List Kl)} (h : TL w wr r c ts) (hb : Below wr.heap.size wr w1) : TL w w1 r c ts := by
  obtain ⟨vs, h1, h2, h3⟩ := h.own
  refine ⟨vs, ownsRow_below h1 hb, h2, fun j t ht => ?_⟩
  obtain ⟨G, cc, a1, a2, a3⟩ := h3 j t ht
  exact ⟨G, cc, a1, ownsRow_below a2 hb, a3⟩
theorem tag_ne {w : World} {B G n c r m k : Nat} {l : List Kl} {vs : List Value} (h : Own w B G n c l) (h2 : w.ownsRow B 49 1 (.slice (some ⟨r, 0, none⟩) m k) m vs) : G ≠ r := by
  rcases h.2 with ⟨hv, _⟩ | ⟨g', cap', cur', hv, _, hh, _⟩
  · cases hv
  · rcases h2.2 with ⟨hv2, _⟩ | ⟨g2, cap2, cur2, hv2, _, hh2, _⟩
    · cases hv2
    · injection hv with e1
      injection e1 with e1
      injection e1 with e1
      injection hv2 with e2
      injection e2 with e2
      injection e2 with e2
      subst e1 e2
      intro e
      rw [e, hh2] at hh
      injection hh with hh
      injection hh with _ hh
      exact absurd hh (by decide)
theorem TL.app {w wr w1 : World} {r c r' c' G cc : Nat} {ts : List (List Kl)} {t : List Kl} {vs : List Value} (h : TL w wr r c ts) (ho : wr.ownsRow w.heap.size 49 1 (.slice (some ⟨r, 0, none⟩) ts.length c) ts.length vs) (hn : w1.ownsRow w.heap.size 49 1 (.slice (some ⟨r', 0, none⟩) (ts.length + 1) c') (ts.length + 1) (vs ++ [.slice (some ⟨G, 0, none⟩) t.length cc])) (hgr : wr.grownBy w1 (some r)) (hG : Own wr w.heap.size G t.length cc t) (ht : t.length ≤ 1000) : TL w w1 r' c' (ts ++ [t]) := by
  obtain ⟨vs0, h1, h2, h3⟩ := h.own
  have evs : vs0 = vs := by
    rcases h1.2 with ⟨hv, _⟩ | ⟨g1, cap1, cur1, hv, _, hh, _, _, _, htk⟩
    · cases hv
    · rcases ho.2 with ⟨hv2, _⟩ | ⟨g2, cap2, cur2, hv2, _, hh2, _, _, _, htk2⟩
      · cases hv2
      · injection hv with e1
        injection e1 with e1
        injection e1 with e1
        injection hv2 with e2
        injection e2 with e2
        injection e2 with e2
        subst e1 e2
        rw [hh] at hh2
        injection hh2 with hh2
        injection hh2 with hh2
        rw [← htk, ← htk2, hh2]
  subst evs
  have e : (ts ++ [t]).length = ts.length + 1 := by simp
  refine ⟨vs0 ++ [.slice (some ⟨G, 0, none⟩) t.length cc], by rw [e]; exact hn, by simp [h2], fun j u hu => ?_⟩
  by_cases hj : j < ts.length
  · rw [List.getElem?_append_left hj] at hu
    obtain ⟨G', c1, a1, a2, a3⟩ := h3 j u hu
    exact ⟨G', c1, by rw [List.getElem?_append_left (by omega)]; exact a1, own_kept a2 hgr (tag_ne a2 h1), a3⟩
  · have hjl := (List.getElem?_eq_some_iff.1 hu).1
    have hje : j = ts.length := by simp at hjl; omega
    subst hje
    simp at hu
    subst hu
    exact ⟨G, cc, by rw [← h2]; simp, own_kept hG hgr (tag_ne hG h1), ht⟩
theorem TL.tks {w wr : World} {r c : Nat} {ts : List (List Kl)} (h : TL w wr r c ts) : Tks wr (some ⟨r, 0, none⟩) ts := by
  obtain ⟨vs, h1, h2, h3⟩ := h.own
  intro j t ht
  have hj : j < ts.length := (List.getElem?_eq_some_iff.1 ht).1
  obtain ⟨G, cc, a1, a2, a3⟩ := h3 j t ht
  refine ⟨r, 0, some ⟨G, 0, none⟩, cc, rfl, own_lt h1, ?_, kls_own a2, by unfold maxLen; omega⟩
  rw [Nat.zero_add]
  exact (h1.cellAt j (by omega)).trans a1
theorem own_lit1 (w : World) (x y z : Int) {B : Nat} (hB : B ≤ w.heap.size) : Own (w.alloc (.cells #[.int .i64 x, .int .i64 y, .int .i64 z] 54)) B w.heap.size 1 1 [(x, y, z)] := by
  have h := World.ownsRow_lit (base := B) (e := 54) (size := 3) w #[.int .i64 x, .int .i64 y, .int .i64 z] 1 hB (by unfold maxLen; omega) rfl
  exact h
theorem below_of_gr {w w1 w2 : World} {g : Nat} (h : w1.grownBy w2 (some g)) (hw : w.heap.size ≤ w1.heap.size) (hg : w.heap.size ≤ g) : Below w.heap.size w1 w2 :=
  ⟨h.os, h.tape, h.output, h.size, fun k hk => h.block k (by omega) (by intro e; injection e with e; omega)⟩
theorem ds_grownT {w wr w1 : World} {B g r n c : Nat} {a : Option Addr} {len cap : Nat} {vs : List Value} (h : DS w B g a len cap wr) (hg : wr.grownBy w1 (some r)) (ho : wr.ownsRow w.heap.size 49 1 (.slice (some ⟨r, 0, none⟩) n c) n vs) (hgl : g < w.heap.size) (hB : B ≤ g) : DS w B g a len cap w1 :=
  Rl.ds_grown h hg (own_ge ho) hgl hB
theorem tl_lit (w : World) : TL w (w.alloc (.cells #[] 49)) w.heap.size 0 [] :=
  ⟨[], World.ownsRow_lit (base := w.heap.size) (e := 49) (size := 1) w #[] 0 (Nat.le_refl _) (by unfold maxLen; omega) rfl, rfl, fun j t ht => by simp at ht⟩

set_option maxRecDepth 100000 in
set_option maxHeartbeats 6400000 in
theorem dnd_any (a : Option Addr) (len cap : Nat) (w : World) (hl : len ≤ 4096) (hr : RdB w w.heap.size a len) :
    Calls Try.prog 9 #[.slice a len cap] w fun e w' => ∃ r c ts h, e = .returned (.tuple #[.slice (some ⟨r, 0, none⟩) (List.length ts) c, .int .i64 h]) ∧ ts.length ≤ 100 ∧ Tks w' (some ⟨r, 0, none⟩) ts ∧ Below w.heap.size w w' := by
  have hl' : len ≤ 9223372036854775807 := by omega
  have hr' := hide hr
  clear hr
  go_enter Try.func9, Try.ntmps9
  go_wp2_with fail
  refine (new_any a len cap _ hl' (by omega) (unhide hr')).mono ?_
  rintro e w1 ⟨g, rfl, hg0, hcur, hb1⟩
  have r1 : RdB w1 w.heap.size a len := by
    intro j hj
    obtain ⟨b, o, z, e, hb, hc, h0, h1⟩ := unhide hr' j hj
    exact ⟨b, o, z, e, hb, ((bcell hb1).1 _ _ hb).trans hc, h0, h1⟩
  have hgl : g < w1.heap.size := hcur.lt
  have hD := hide (show DS w1 w.heap.size g a len cap (w1.alloc (.cells #[] 49)) from Rl.ds_alloc ⟨hcur, r1, World.grownBy.refl _ _⟩ hg0 _)
  have hT := hide (tl_lit w1)
  have H1 := hide hb1
  have hw1 := hb1.size
  clear hcur r1 hb1
  go_wp2_with fail
  refine (below_any w.heap.size g a len cap 4 _ hg0 hl' (unhide hD).cur (unhide hD).rd (by omega)).mono ?_
  rintro e w2 ⟨x, rfl, x0, x1, hcu, hgr⟩
  have hT := hide ((unhide hT).call hgl hgr)
  have hD := hide ((unhide hD).step hg0 hcu hgr)
  clear hcu hgr
  go_wp2
  go_loopw [5, 6] (fun s t wr => ∃ (r c : Nat) (ts : List (List Kl)) (q : Int), t = .int .i64 q ∧ s = .slice (some ⟨r, 0, none⟩) ts.length c ∧ 0 ≤ q ∧ q ≤ 3 ∧ ts.length + q ≤ 3 ∧ Hid (TL w1 wr r c ts ∧ DS w1 w.heap.size g a len cap wr)) (fun _ t _ => (intOf t).toNat)
  case atStart => exact ⟨w1.heap.size, 0, [], x, rfl, rfl, by omega, by omega, by simp; omega, hide ⟨unhide hT, unhide hD⟩⟩
  case round =>
    clear hT hD
    obtain ⟨r, c, ts, q, rfl, rfl, q0, q1, q2, hTD⟩ := hrel
    have hT := hide (unhide hTD).1
    have hD := hide (unhide hTD).2
    clear hTD
    by_cases hq : 0 < q
    · have hqd : decide (0 < q) = true := by simpa using hq
      go_wp2_with fail
      refine (dtrack_any w.heap.size g a len cap _ hg0 hl' (unhide hD).cur (unhide hD).rd).mono ?_
      rintro e w3 ⟨G, cc, t, rfl, htl, T⟩
      have hT := hide ((unhide hT).call hgl T.ds.gr)
      have hG := hide (own_mono T.ow (unhide hD).gr.size)
      have hD := hide ((unhide hD).step hg0 T.ds.cur T.ds.gr)
      obtain ⟨vs, hvo, hvl, hvr⟩ := (unhide hT).own
      have hvo' := hide hvo
      clear hvo hvl hvr T
      go_wp2_with (at_builtin; refine wpList_tg _ _ rfl rfl _ _ rfl w1.heap.size r ts.length c vs rfl (unhide hvo') _ rfl rfl (by omega) ?_)
      intro r' c' w' hown' hgr' hg'
      have hN : Hid (TL w1 w' r' c' (ts ++ [t]) ∧ DS w1 w.heap.size g a len cap w') := hide ⟨(unhide hT).app (unhide hvo') hown' hgr' (unhide hG) htl, ds_grownT (unhide hD) hgr' (unhide hvo') hgl hg0⟩
      have hl9 : Hid ((ts ++ [t]).length = ts.length + 1) := hide (by simp)
      clear hown' hgr' hT hD hG hvo'
      go_wp2
      go_roundw
      case rel => exact ⟨r', c', ts ++ [t], q - 1, by go_num, by rw [unhide hl9], by omega, by omega, by rw [unhide hl9]; omega, hN⟩
      case measure => simp [intOf]; omega
    · have hqd : decide (0 < q) = false := by simpa using hq
      have hq0 : q = 0 := by omega
      have hq' := hide hq0
      clear hq hq0
      go_wp2_with fail
      refine (below_any w.heap.size g a len cap 12 _ hg0 hl' (unhide hD).cur (unhide hD).rd (by omega)).mono ?_
      rintro e w4 ⟨h, rfl, h0, h1, hcu, hgr⟩
      have hT := hide ((unhide hT).call hgl hgr)
      have hD := hide ((unhide hD).step hg0 hcu hgr)
      clear hcu hgr
      go_wp2_with fail
      refine (once_any w.heap.size g a len cap 12 _ hg0 hl' (unhide hD).cur (unhide hD).rd (by omega)).mono ?_
      rintro e w5 ⟨v, rfl, hcu, hgr⟩
      have hT := hide ((unhide hT).call hgl hgr)
      have hD := hide ((unhide hD).step hg0 hcu hgr)
      clear hcu hgr
      cases v with
      | false =>
        go_wp2_with fail
        refine (once_any w.heap.size g a len cap 40 _ hg0 hl' (unhide hD).cur (unhide hD).rd (by omega)).mono ?_
        rintro e w8 ⟨v2, rfl, hcu, hgr⟩
        have hT := hide ((unhide hT).call hgl hgr)
        have hD := hide ((unhide hD).step hg0 hcu hgr)
        clear hcu hgr
        cases v2 with
        | false =>
          go_wp2
          go_ret2
          exact ⟨r, c, ts, h, rfl, by omega, (unhide hT).tks, (unhide H1).trans (below_of_gr (unhide hD).gr hw1 hg0)⟩
        | true =>
          have hst : Hid (TL w1 w8 r c ts ∧ DS w1 w.heap.size g a len cap w8) := hide ⟨unhide hT, unhide hD⟩
          clear hT hD
          go_wp2
          go_loopw [5] (fun s wr => ∃ (r c : Nat) (ts : List (List Kl)), s = .slice (some ⟨r, 0, none⟩) ts.length c ∧ ts.length ≤ 52 ∧ Hid (TL w1 wr r c ts ∧ DS w1 w.heap.size g a len cap wr)) (fun s _ => 100 - Rl.lenV s)
          case atStart => exact ⟨r, c, ts, rfl, by omega, hst⟩
          case round =>
            clear hst
            obtain ⟨r, c, ts, rfl, hn, hTD⟩ := hrel
            have hT := hide (unhide hTD).1
            have hD := hide (unhide hTD).2
            clear hTD
            go_wp2_with fail
            refine (below_any w.heap.size g a len cap 2 _ hg0 hl' (unhide hD).cur (unhide hD).rd (by omega)).mono ?_
            rintro e w9 ⟨y, rfl, y0, y1, hcu, hgr⟩
            have hT := hide ((unhide hT).call hgl hgr)
            have hD := hide ((unhide hD).step hg0 hcu hgr)
            clear hcu hgr
            by_cases hlt : (ts.length : Int) < 50 + y
            · have hltd : decide ((ts.length : Int) < 50 + y) = true := by simpa using hlt
              have hAl : Below w9.heap.size w9 (w9.alloc (.cells #[.int .i64 1, .int .i64 0, .int .i64 1] 54)) := (Below.refl _ _).alloc (Nat.le_refl _) _
              have hT2 := hide ((unhide hT).later hAl)
              have hD2 := hide ((unhide hD).later hg0 hAl)
              have hO2 : Hid (Own (w9.alloc (.cells #[.int .i64 1, .int .i64 0, .int .i64 1] 54)) w1.heap.size w9.heap.size 1 1 [(1, 0, 1)]) := hide (own_lit1 w9 1 0 1 (unhide hD).gr.size)
              obtain ⟨vs, hvo, hvl, hvr⟩ := (unhide hT2).own
              have hvo' := hide hvo
              clear hvo hvl hvr hAl
              go_wp2_with (at_builtin; refine wpList_tg _ _ rfl rfl _ _ rfl w1.heap.size r ts.length c vs rfl (unhide hvo') _ (by simp) rfl (by omega) ?_)
              intro r' c' w' hown' hgr' hg'
              have hN : Hid (TL w1 w' r' c' (ts ++ [[(1, 0, 1)]]) ∧ DS w1 w.heap.size g a len cap w') := hide ⟨(unhide hT2).app (unhide hvo') hown' hgr' (unhide hO2) (by simp), ds_grownT (unhide hD2) hgr' (unhide hvo') hgl hg0⟩
              clear hown' hgr' hT hD hT2 hD2 hO2 hvo'
              have hl9 : Hid ((ts ++ [[(1, 0, 1)]] : List (List Kl)).length = ts.length + 1) := hide (by simp)
              go_wp2
              go_roundw
              case rel => exact ⟨r', c', ts ++ [[(1, 0, 1)]], by rw [unhide hl9], by rw [unhide hl9]; omega, hN⟩
              case measure => simp [Rl.lenV]; omega
            · have hltd : decide ((ts.length : Int) < 50 + y) = false := by simpa using hlt
              clear hlt
              go_wp2
              go_ret2
              exact ⟨r, c, ts, h, rfl, by omega, (unhide hT).tks, (unhide H1).trans (below_of_gr (unhide hD).gr hw1 hg0)⟩
      | true =>
        have hAl : Below w5.heap.size w5 (w5.alloc (.cells #[.int .i64 (-1), .int .i64 0, .int .i64 1000, .int .i64 1001] 2)) := (Below.refl _ _).alloc (Nat.le_refl _) _
        have hlg : w5.heap.size ≠ g := by have := (unhide hD).cur.lt; omega
        have hT := hide ((unhide hT).later hAl)
        have hD := hide ((unhide hD).later hg0 hAl)
        have hl5 := fun k hk => lit4 (w := w5) (T := 2) (k := k) (a0 := -1) (a1 := 0) (a2 := 1000) (a3 := 1001) hk
        clear hAl
        go_wp2_with fail
        refine (below_any w.heap.size g a len cap 4 _ hg0 hl' (unhide hD).cur (unhide hD).rd (by omega)).mono ?_
        rintro e w7 ⟨d, rfl, d0, d1, hcu, hgr⟩
        obtain ⟨m, rfl⟩ : ∃ m : Nat, d = m := ⟨d.toNat, by omega⟩
        obtain ⟨u, hu⟩ := hl5 m (by omega)
        have hu2 := grown_cell hgr hlg hu
        have hT := hide ((unhide hT).call hgl hgr)
        have hD := hide ((unhide hD).step hg0 hcu hgr)
        clear hcu hgr hu hl5
        go_wp2_with fail
        refine (once_any w.heap.size g a len cap 40 _ hg0 hl' (unhide hD).cur (unhide hD).rd (by omega)).mono ?_
        rintro e w8 ⟨v2, rfl, hcu, hgr⟩
        have hT := hide ((unhide hT).call hgl hgr)
        have hD := hide ((unhide hD).step hg0 hcu hgr)
        clear hcu hgr
        cases v2 with
        | false =>
          go_wp2
          go_ret2
          exact ⟨r, c, ts, u, rfl, by omega, (unhide hT).tks, (unhide H1).trans (below_of_gr (unhide hD).gr hw1 hg0)⟩
        | true =>
          have hst : Hid (TL w1 w8 r c ts ∧ DS w1 w.heap.size g a len cap w8) := hide ⟨unhide hT, unhide hD⟩
          clear hT hD
          go_wp2
          go_loopw [5] (fun s wr => ∃ (r c : Nat) (ts : List (List Kl)), s = .slice (some ⟨r, 0, none⟩) ts.length c ∧ ts.length ≤ 52 ∧ Hid (TL w1 wr r c ts ∧ DS w1 w.heap.size g a len cap wr)) (fun s _ => 100 - Rl.lenV s)
          case atStart => exact ⟨r, c, ts, rfl, by omega, hst⟩
          case round =>
            clear hst
            obtain ⟨r, c, ts, rfl, hn, hTD⟩ := hrel
            have hT := hide (unhide hTD).1
            have hD := hide (unhide hTD).2
            clear hTD
            go_wp2_with fail
            refine (below_any w.heap.size g a len cap 2 _ hg0 hl' (unhide hD).cur (unhide hD).rd (by omega)).mono ?_
            rintro e w9 ⟨y, rfl, y0, y1, hcu, hgr⟩
            have hT := hide ((unhide hT).call hgl hgr)
            have hD := hide ((unhide hD).step hg0 hcu hgr)
            clear hcu hgr
            by_cases hlt : (ts.length : Int) < 50 + y
            · have hltd : decide ((ts.length : Int) < 50 + y) = true := by simpa using hlt
              have hAl : Below w9.heap.size w9 (w9.alloc (.cells #[.int .i64 1, .int .i64 0, .int .i64 1] 54)) := (Below.refl _ _).alloc (Nat.le_refl _) _
              have hT2 := hide ((unhide hT).later hAl)
              have hD2 := hide ((unhide hD).later hg0 hAl)
              have hO2 : Hid (Own (w9.alloc (.cells #[.int .i64 1, .int .i64 0, .int .i64 1] 54)) w1.heap.size w9.heap.size 1 1 [(1, 0, 1)]) := hide (own_lit1 w9 1 0 1 (unhide hD).gr.size)
              obtain ⟨vs, hvo, hvl, hvr⟩ := (unhide hT2).own
              have hvo' := hide hvo
              clear hvo hvl hvr hAl
              go_wp2_with (at_builtin; refine wpList_tg _ _ rfl rfl _ _ rfl w1.heap.size r ts.length c vs rfl (unhide hvo') _ (by simp) rfl (by omega) ?_)
              intro r' c' w' hown' hgr' hg'
              have hN : Hid (TL w1 w' r' c' (ts ++ [[(1, 0, 1)]]) ∧ DS w1 w.heap.size g a len cap w') := hide ⟨(unhide hT2).app (unhide hvo') hown' hgr' (unhide hO2) (by simp), ds_grownT (unhide hD2) hgr' (unhide hvo') hgl hg0⟩
              clear hown' hgr' hT hD hT2 hD2 hO2 hvo'
              have hl9 : Hid ((ts ++ [[(1, 0, 1)]] : List (List Kl)).length = ts.length + 1) := hide (by simp)
              go_wp2
              go_roundw
              case rel => exact ⟨r', c', ts ++ [[(1, 0, 1)]], by rw [unhide hl9], by rw [unhide hl9]; omega, hN⟩
              case measure => simp [Rl.lenV]; omega
            · have hltd : decide ((ts.length : Int) < 50 + y) = false := by simpa using hlt
              clear hlt
              go_wp2
              go_ret2
              exact ⟨r, c, ts, u, rfl, by omega, (unhide hT).tks, (unhide H1).trans (below_of_gr (unhide hD).gr hw1 hg0)⟩

end Go.Proofs.Ytfbifffmieimoaa.Tk
