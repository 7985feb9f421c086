/-
  Contracts of the law's functions that weigh, copy and hold against each other lists of tracks, and write marks into them.
-/
import Derived.Test.YtfbifffmieimoaaINd
namespace Go.Proofs.Ytfbifffmieimoaa.Tk
open Go.RowKit
open Go.Proofs.Ytfbifffmieimoaa
open Go.Proofs.Ytfbifffmieimoaa.Rl (Tks blk_below)
set_option linter.unusedVariables false
set_option linter.unusedSimpArgs false

def tot (ts : List (List Kl)) : Nat := (ts.map List.length).sum
theorem tot_snoc {ts : List (List Kl)} {k : Nat} {t : List Kl} (h : ts[k]? = some t) : tot (ts.take (k + 1)) = tot (ts.take k) + t.length := by
  rw [List.take_add_one, h]; simp [tot]
theorem tot_append (a b : List (List Kl)) : tot (a ++ b) = tot a + tot b := by simp [tot]
set_option maxHeartbeats 400000 in
theorem szk3_any (a : Option Addr) (len cap : Nat) (q : Int) (w : World) (hl : len ≤ maxLen) (q0 : 0 ≤ q) (q1 : q ≤ 1048576) :
    Calls Try.prog 43 #[.slice a len cap, .int .i64 q] w fun e w' => ∃ r, e = .returned (.int .i64 r) ∧ ((r = -1 ∧ q < len) ∨ (0 ≤ r ∧ r = q - len)) ∧ w' = w := by
  unfold maxLen at hl
  by_cases h : q - len < 0
  · go_enter Try.func43, Try.ntmps43
    go_wp2
    go_ret
    exact ⟨_, rfl, by omega, rfl⟩
  · go_enter Try.func43, Try.ntmps43
    go_wp2
    go_ret
    exact ⟨_, rfl, by omega, rfl⟩

set_option maxHeartbeats 1600000 in
theorem szt_any (a : Option Addr) (cap : Nat) (ts : List (List Kl)) (w : World) (hl : ts.length ≤ maxLen) (hk : Tks w a ts) :
    Calls Try.prog 18 #[.slice a ts.length cap, .int .i64 1048576] w fun e w' => ∃ r, e = .returned (.int .i64 r) ∧ (r = -1 ∨ (0 ≤ r ∧ ts.length + tot ts ≤ 1048576)) ∧ w' = w := by
  unfold maxLen at hl
  have hk' := hide hk
  clear hk
  by_cases hbig : (1048576 : Int) - ts.length < 0
  · go_enter Try.func18, Try.ntmps18
    go_wp2
    go_ret
    exact ⟨_, rfl, Or.inl rfl, rfl⟩
  · have hbd : decide ((1048576 : Int) - ts.length < 0) = false := by simpa using hbig
    go_enter Try.func18, Try.ntmps18
    go_wp2
    go_loop [1, 5] (fun s t => ∃ (k : Nat) (q : Int), k ≤ ts.length ∧ t = .int .i64 k ∧ s = .int .i64 q ∧ 0 ≤ q ∧ q ≤ 1048576 ∧ Hid (q = 1048576 - ts.length - tot (ts.take k))) (fun _ t => ts.length - (intOf t).toNat)
    case atStart => exact ⟨0, 1048576 - ts.length, by omega, rfl, rfl, by omega, by omega, hide (by simp [tot])⟩
    case round =>
      obtain ⟨k, q, hkl, rfl, rfl, q0, q1, hq⟩ := hrel
      by_cases hlt : k < ts.length
      · obtain ⟨t, hx⟩ : ∃ t, ts[k]? = some t := ⟨ts[k], List.getElem?_eq_getElem hlt⟩
        obtain ⟨b, o, p, c, rfl, hb, hc, hK, hm⟩ := unhide hk' k t hx
        have hsn := hide (tot_snoc hx)
        clear hx hK
        go_wp2_with fail
        refine (szk3_any p t.length c q _ hm q0 q1).mono ?_
        rintro e w1 ⟨r, rfl, hr, hw0⟩
        have hw1 := hw0.symm
        subst hw1
        rcases hr with ⟨rfl, hr⟩ | ⟨hr0, hr⟩
        · go_wp2
          go_ret
          exact ⟨_, rfl, Or.inl rfl, rfl⟩
        · have hr1 : decide (r < 0) = false := by simp; omega
          have hr' := hide hr
          have hrb : r ≤ 1048576 := by omega
          clear hr
          go_wp2
          go_round
          case rel => exact ⟨k + 1, r, by omega, by go_num, rfl, hr0, hrb, hide (by have h1 := unhide hsn; have h2 := unhide hq; have h3 := unhide hr'; omega)⟩
          case measure => simp [intOf]; omega
      · have hke : k = ts.length := by omega
        have hfin : Hid (ts.length + tot ts ≤ 1048576) := hide (by have h2 := unhide hq; rw [hke, List.take_length] at h2; omega)
        have hke' := hide hke
        clear hke
        go_wp2
        go_ret
        exact ⟨_, rfl, Or.inr ⟨q0, unhide hfin⟩, rfl⟩

/-- an owned list of owned tracks: its rows lie from lo on, below hi -/
structure TO (lo hi : Nat) (w : World) (B : Nat) (ts : List (List Kl)) (k : Nat) : Prop where
  ge : lo ≤ B
  lt : B < hi
  blk : ∃ cur : Array Value, w.heap[B]? = some (.cells cur 49 (0, 0)) ∧ cur.size = ts.length ∧ ∀ j t, ts[j]? = some t → j < k → ∃ g, g < hi ∧ cur[j]? = some (.slice (some ⟨g, 0, none⟩) t.length t.length) ∧ Own w lo g t.length t.length t
theorem TO.later {lo hi : Nat} {w w1 : World} {B : Nat} {ts : List (List Kl)} {k : Nat} (h : TO lo hi w B ts k) (hb : Below w.heap.size w w1) : TO lo hi w1 B ts k := by
  obtain ⟨cur, h1, h2, h3⟩ := h.blk
  refine ⟨h.ge, h.lt, cur, blk_below h1 hb, h2, fun j t ht hj => ?_⟩
  obtain ⟨g, g1, g2, g3⟩ := h3 j t ht hj
  exact ⟨g, g1, g2, ownsRow_below g3 hb⟩
theorem TO.mono {lo hi hi' : Nat} {w : World} {B : Nat} {ts : List (List Kl)} {k : Nat} (h : TO lo hi w B ts k) (hh : hi ≤ hi') : TO lo hi' w B ts k := by
  obtain ⟨cur, h1, h2, h3⟩ := h.blk
  refine ⟨h.ge, Nat.lt_of_lt_of_le h.lt hh, cur, h1, h2, fun j t ht hj => ?_⟩
  obtain ⟨g, g1, g2, g3⟩ := h3 j t ht hj
  exact ⟨g, Nat.lt_of_lt_of_le g1 hh, g2, g3⟩
theorem TO.tks {lo hi : Nat} {w : World} {B : Nat} {ts : List (List Kl)} (h : TO lo hi w B ts ts.length) (hm : ∀ t ∈ ts, t.length ≤ maxLen) : Tks w (some ⟨B, 0, none⟩) ts := by
  obtain ⟨cur, h1, h2, h3⟩ := h.blk
  intro j t ht
  obtain ⟨g, g1, g2, g3⟩ := h3 j t ht (List.getElem?_eq_some_iff.1 ht).1
  refine ⟨B, 0, some ⟨g, 0, none⟩, t.length, rfl, (Array.getElem?_eq_some_iff.1 h1).1, ?_, kls_own g3, hm t (List.mem_of_getElem? ht)⟩
  rw [Nat.zero_add]
  simp [World.cell?, h1, g2]
theorem own_ne {w : World} {lo g n cap B : Nat} {l : List Kl} {cur : Array Value} (h : Own w lo g n cap l) (hB : w.heap[B]? = some (.cells cur 49 (0, 0))) : g ≠ B := by
  rcases h.2 with ⟨hv, _⟩ | ⟨g', cap', cur', hv, _, hh, _⟩
  · cases hv
  · injection hv with e1
    injection e1 with e1
    injection e1 with e1
    subst e1
    intro e
    rw [e, hB] at hh
    injection hh with hh
    injection hh with _ hh
    exact absurd hh (by decide)
theorem TO.put {lo hi : Nat} {w : World} {B k g : Nat} {ts : List (List Kl)} {t : List Kl} (h : TO lo hi w B ts k) (hx : ts[k]? = some t) (hO : Own w lo g t.length t.length t) (hg : g < hi) :
    TO lo hi (w.setCell ⟨B, k, none⟩ (.slice (some ⟨g, 0, none⟩) t.length t.length)) B ts (k + 1) := by
  obtain ⟨cur, h1, h2, h3⟩ := h.blk
  have hk : k < ts.length := (List.getElem?_eq_some_iff.1 hx).1
  have hkeep : ∀ (v : Value) (g n cap : Nat) (l : List Kl), Own w lo g n cap l → Own (w.setCell ⟨B, k, none⟩ v) lo g n cap l := fun v g n cap l ho => by
    have hne := own_ne ho h1
    exact own_kept (h := B) ho ⟨rfl, rfl, rfl, by simp [World.setCell], fun i hi hn => by
      have : B ≠ i := fun e => hn (by rw [e])
      simp [World.setCell, Array.getElem?_modify, this]⟩ hne
  refine ⟨h.ge, h.lt, cur.setIfInBounds k (.slice (some ⟨g, 0, none⟩) t.length t.length), ?_, by simpa using h2, fun j u hu hj => ?_⟩
  · simp [World.setCell, h1, Array.getElem?_modify]
  · by_cases e : j = k
    · subst e
      rw [hx] at hu
      injection hu with hu
      subst hu
      exact ⟨g, hg, by simp [h2, hk], hkeep _ _ _ _ _ hO⟩
    · obtain ⟨g', g1, g2, g3⟩ := h3 j u hu (by omega)
      exact ⟨g', g1, by rw [Array.getElem?_setIfInBounds_ne (by omega)]; exact g2, hkeep _ _ _ _ _ g3⟩
theorem info49 : (Try.prog.info? 49).map (fun i => (i.zero, i.size, i.bytes)) = some (some (.slice none 0 0), 1, 24) := by kernel_rfl

set_option maxRecDepth 100000 in
set_option maxHeartbeats 1600000 in
theorem tot_any (a : Option Addr) (cap : Nat) (ts : List (List Kl)) (w : World) (hl : ts.length ≤ 1048576) (hm : ∀ t ∈ ts, t.length ≤ 1048576) (hk : Tks w a ts) :
    Calls Try.prog 19 #[.slice a ts.length cap] w fun e w' => ∃ B, e = .returned (.slice (some ⟨B, 0, none⟩) ts.length ts.length) ∧ TO w.heap.size w'.heap.size w' B ts ts.length ∧ Below w.heap.size w w' := by
  obtain ⟨i0, hi, hz0, hz1, hz2⟩ := info_parts info49
  have hk' := hide hk
  have hm' := hide hm
  clear hk hm
  go_enter Try.func19, Try.ntmps19
  go_wp2_with (refine wpList_make_full _ rfl _ _ 24 rfl w.heap.size 49 i0 _ 1 Try.underlying24 hi hz0 hz1 .i64 .i64 _ _ ts.length rfl rfl rfl rfl ?b2 ?b3 (Nat.le_refl _) ?_)
  case b2 => rw [hz2]; omega
  case b3 => unfold maxLen; omega
  intro w1 hown hg
  have hb1 := hide (show Below w.heap.size w w1 from (Below.refl _ _).grown hg (Nat.le_refl _) (fun k hk => by cases hk))
  have hT1 : Hid (TO w.heap.size w1.heap.size w1 w.heap.size ts 0) := hide (by
    rcases hown.2 with ⟨hv, _⟩ | ⟨g', cap', cur, hv, hB, hh, _, _, hcs, _⟩
    · cases hv
    · injection hv with e1 e2 e3
      injection e1 with e1
      injection e1 with e1
      subst e1 e3
      exact ⟨Nat.le_refl _, (Array.getElem?_eq_some_iff.1 hh).1, cur, hh, by omega, fun j t ht hj => by omega⟩)
  clear hown hg
  go_wp2
  go_loopw [4] (fun t wr => ∃ k : Nat, k ≤ ts.length ∧ t = .int .i64 k ∧ Hid (TO w.heap.size wr.heap.size wr w.heap.size ts k) ∧ Hid (Below w.heap.size w wr)) (fun t _ => ts.length - (intOf t).toNat)
  case atStart => exact ⟨0, by omega, rfl, hT1, hb1⟩
  case round =>
    clear hT1 hb1
    obtain ⟨k, hkl, rfl, hT, hB⟩ := hrel
    by_cases hlt : k < ts.length
    · obtain ⟨t, hx⟩ : ∃ t, ts[k]? = some t := ⟨ts[k], List.getElem?_eq_getElem hlt⟩
      obtain ⟨b, o, p, c, rfl, hb, hc, hK, hmx⟩ := unhide hk' k t hx
      have hc' : wr.cell? ⟨b, o + k, none⟩ = some (.slice p t.length c) := ((bcell (unhide hB)).1 b _ hb).trans hc
      have hKr := hide (hK.below (unhide hB))
      have htl : t.length ≤ 1048576 := unhide hm' t (List.mem_of_getElem? hx)
      have hx' := hide hx
      clear hx hc hK
      go_wp2_with fail
      refine (tok_any p c t wr htl (unhide hKr)).mono ?_
      rintro e w3 ⟨B3, rfl, q3, hO3, k3⟩
      have hT3 := (unhide hT).later k3
      obtain ⟨cur, h1, h2, h3⟩ := hT3.blk
      have hc3 : w3.cell? ⟨w.heap.size, k, none⟩ = some (cur[k]'(by omega)) := by simp [World.cell?, h1, (by omega : k < cur.size)]
      have hf3 : w3.frozen? ⟨w.heap.size, k, none⟩ = false := by simp [World.frozen?, h1]
      have hB3 := hide (laterB (unhide hB) k3)
      have hTn := hide (TO.put (hT3.mono (hi' := w3.heap.size) k3.size) (unhide hx') (own_mono hO3 (unhide hB).size) (own_lt hO3))
      generalize cur[k]'(by omega) = u at hc3
      clear k3 hO3 hT3 h1 h2 h3 hT hB hKr hc'
      go_wp2
      go_roundw
      case rel => exact ⟨k + 1, by omega, by go_num, hide (by have h9 := unhide hTn; have e : (w3.setCell ⟨w.heap.size, k, none⟩ (.slice (some ⟨B3, 0, none⟩) t.length t.length)).heap.size = w3.heap.size := (by simp [World.setCell]); rw [e]; exact h9), hide ((unhide hB3).setCell (Nat.le_refl _) _)⟩
      case measure => simp [intOf]; omega
    · have hke : k = ts.length := by omega
      have hT' : Hid (TO w.heap.size wr.heap.size wr w.heap.size ts ts.length) := hide (by have := unhide hT; rw [hke] at this; exact this)
      have hke' := hide hke
      clear hke
      go_wp2
      go_ret
      exact ⟨_, rfl, unhide hT', unhide hB⟩

theorem below_drw {w w1 : World} (h : Below w.heap.size w w1) : Below w.heap.size w w1.drew := h.drew
theorem keep2 {w w0 w1 : World} {a1 a2 : Addr} {v1 v2 : Value} (h : w0.cell? a1 = some v1 ∧ w0.cell? a2 = some v2 ∧ Below w.heap.size w w0) (hb : Below w0.heap.size w0 w1) : w1.cell? a1 = some v1 ∧ w1.cell? a2 = some v2 ∧ Below w.heap.size w w1 :=
  ⟨cell_later hb h.1, cell_later hb h.2.1, h.2.2.trans (hb.mono h.2.2.size)⟩
theorem keep2d {w w0 : World} {a1 a2 : Addr} {v1 v2 : Value} (h : w0.cell? a1 = some v1 ∧ w0.cell? a2 = some v2 ∧ Below w.heap.size w w0) : w0.drew.cell? a1 = some v1 ∧ w0.drew.cell? a2 = some v2 ∧ Below w.heap.size w w0.drew :=
  ⟨h.1, h.2.1, h.2.2.drew⟩
set_option maxHeartbeats 1600000 in
theorem eqt_any (a b : Option Addr) (ca cb : Nat) (ts : List (List Kl)) (w : World) (hl : ts.length ≤ 1048576) (hm : ∀ t ∈ ts, t.length ≤ 1048576) (ha : Tks w a ts) (hb : Tks w b ts) :
    Calls Try.prog 21 #[.slice a ts.length ca, .slice b ts.length cb] w fun e w' => e = .returned (.bool true) ∧ Below w.heap.size w w' := by
  have ha' := hide ha
  have hb' := hide hb
  have hm' := hide hm
  clear ha hb hm
  have hne : ((ts.length : Int) != ts.length) = false := by simp
  go_enter Try.func21, Try.ntmps21
  go_wp2
  go_loopw [5] (fun t wr => ∃ k : Nat, k ≤ ts.length ∧ t = .int .i64 k ∧ Below w.heap.size w wr) (fun t _ => ts.length - (intOf t).toNat)
  case atStart => exact ⟨0, by omega, rfl, Below.refl _ _⟩
  case round =>
    obtain ⟨k, hkl, rfl, hw⟩ := hrel
    by_cases hlt : k < ts.length
    · obtain ⟨t, hx⟩ : ∃ t, ts[k]? = some t := ⟨ts[k], List.getElem?_eq_getElem hlt⟩
      obtain ⟨b1, o1, p1, c1, rfl, i1, e1, K1, _⟩ := unhide ha' k t hx
      obtain ⟨b2, o2, p2, c2, rfl, i2, e2, K2, _⟩ := unhide hb' k t hx
      have htl : t.length ≤ 1048576 := unhide hm' t (List.mem_of_getElem? hx)
      have K1' := hide K1
      have K2' := hide K2
      have hall : Hid (wr.cell? ⟨b1, o1 + k, none⟩ = some (.slice p1 t.length c1) ∧ wr.cell? ⟨b2, o2 + k, none⟩ = some (.slice p2 t.length c2) ∧ Below w.heap.size w wr) := hide ⟨((bcell hw).1 b1 _ i1).trans e1, ((bcell hw).1 b2 _ i2).trans e2, hw⟩
      have hw' := hide hw
      clear hx e1 e2 K1 K2 hw
      go_wp2_with fail
      go_region_held3 (fun w' => w'.cell? ⟨b1, o1 + k, none⟩ = some (.slice p1 t.length c1) ∧ w'.cell? ⟨b2, o2 + k, none⟩ = some (.slice p2 t.length c2) ∧ Below w.heap.size w w')
        (first | (refine keep2 ?_ hb; assumption) | (exact keep2d (unhide hall)))
        ((go_at_call 46; refine (eqks_any p1 p2 c1 c2 t _ htl ((unhide K1').below (below_drw (unhide hw'))) ((unhide K2').below (below_drw (unhide hw')))).mono ?_; rintro e w1 ⟨rfl, hb⟩))
      go_wp2
      go_roundw
      case rel => exact ⟨k + 1, by omega, by go_num, by rename_i hH; exact hH.2.2⟩
      case measure => simp [intOf]; omega
    · have hke : k = ts.length := by omega
      go_wp2
      go_ret
      exact ⟨rfl, hw⟩

/-- all blocks but those from lo on and below hi stand -/
structure Rng (lo hi : Nat) (w w' : World) : Prop where
  os : w'.os = w.os
  tape : w'.tape = w.tape
  output : w'.output = w.output
  size : w.heap.size ≤ w'.heap.size
  block : ∀ k, k < w.heap.size → (k < lo ∨ hi ≤ k) → w'.heap[k]? = w.heap[k]?
theorem Rng.refl (lo hi : Nat) (w : World) : Rng lo hi w w := ⟨rfl, rfl, rfl, Nat.le_refl _, fun _ _ _ => rfl⟩
theorem Rng.more {lo hi g : Nat} {w w1 w2 : World} (h : Rng lo hi w w1) (k : w1.grownBy w2 (some g)) (h1 : lo ≤ g) (h2 : g < hi) : Rng lo hi w w2 :=
  ⟨k.os.trans h.os, k.tape.trans h.tape, k.output.trans h.output, Nat.le_trans h.size k.size, fun i hi' ho => (k.block i (Nat.lt_of_lt_of_le hi' h.size) (by intro e; injection e with e; omega)).trans (h.block i hi' ho)⟩
/-- rows that can be written -/
structure TW (lo hi : Nat) (w : World) (B : Nat) (ts : List (List Kl)) : Prop where
  blk : ∃ cur : Array Value, w.heap[B]? = some (.cells cur 49 (0, 0)) ∧ cur.size = ts.length ∧ ∀ (j : Nat) (t : List Kl), ts[j]? = some t → ∃ g, lo ≤ g ∧ g < hi ∧ cur[j]? = some (.slice (some ⟨g, 0, none⟩) t.length t.length) ∧ ∃ c, w.heap[g]? = some (.cells c 54 (0, 0)) ∧ c.size = t.length * 3 ∧ t.length ≤ maxLen
theorem TO.tw {lo hi : Nat} {w : World} {B : Nat} {ts : List (List Kl)} (h : TO lo hi w B ts ts.length) : TW lo hi w B ts := by
  obtain ⟨cur, h1, h2, h3⟩ := h.blk
  refine ⟨cur, h1, h2, fun j t ht => ?_⟩
  obtain ⟨g, g1, g2, g3⟩ := h3 j t ht (List.getElem?_eq_some_iff.1 ht).1
  rcases g3.2 with ⟨hv, _⟩ | ⟨g', cap', cur', hv, hB, hh, _, hmx, hcs, _⟩
  · cases hv
  · injection hv with e1 e2 e3
    injection e1 with e1
    injection e1 with e1
    subst e1 e3
    exact ⟨g, hB, g1, g2, cur', hh, hcs, hmx⟩
theorem row_own {lo g n : Nat} {w : World} {c : Array Value} (h : w.heap[g]? = some (.cells c 54 (0, 0))) (hc : c.size = n * 3) (hm : n ≤ maxLen) (hg : lo ≤ g) : w.ownsRow lo 54 3 (.slice (some ⟨g, 0, none⟩) n n) n c.toList :=
  ⟨by simpa using hc, Or.inr ⟨g, n, c, rfl, hg, h, Nat.le_refl _, hm, hc, by rw [List.take_of_length_le (by simp [hc])]⟩⟩
theorem TW.marked {lo hi : Nat} {w w1 : World} {B g n : Nat} {ts : List (List Kl)} {ys : List Value} (h : TW lo hi w B ts) (hgr : w.grownBy w1 (some g)) (hg : ∃ c, w.heap[g]? = some (.cells c 54 (0, 0)) ∧ c.size = n * 3) (hy : w1.ownsRow lo 54 3 (.slice (some ⟨g, 0, none⟩) n n) n ys) : TW lo hi w1 B ts := by
  obtain ⟨cur, h1, h2, h3⟩ := h.blk
  obtain ⟨c0, hc0, hn0⟩ := hg
  have hBg : B ≠ g := by
    intro e; rw [e, hc0] at h1; injection h1 with h1; injection h1 with _ h1; exact absurd h1 (by decide)
  refine ⟨cur, ?_, h2, fun j t ht => ?_⟩
  · rw [hgr.block B (Array.getElem?_eq_some_iff.1 h1).1 (by intro e; injection e with e; exact hBg e)]; exact h1
  · obtain ⟨g', a1, a2, a3, c, a4, a5, a6⟩ := h3 j t ht
    refine ⟨g', a1, a2, a3, ?_⟩
    by_cases e : g' = g
    · subst e
      rw [hc0] at a4
      injection a4 with a4
      injection a4 with a4
      subst a4
      rcases hy.2 with ⟨hv, _⟩ | ⟨g'', cap', cur', hv, hB, hh, _, hmx, hcs, _⟩
      · cases hv
      · injection hv with e1 e2 e3
        injection e1 with e1
        injection e1 with e1
        subst e1 e3
        exact ⟨cur', hh, by omega, a6⟩
    · exact ⟨c, by rw [hgr.block g' (Array.getElem?_eq_some_iff.1 a4).1 (by intro e2; injection e2 with e2; exact e e2)]; exact a4, a5, a6⟩

set_option maxHeartbeats 1600000 in
theorem markt_any (lo hi B cap : Nat) (ts : List (List Kl)) (w : World) (hl : ts.length + tot ts ≤ 1048576) (h : TW lo hi w B ts) :
    Calls Try.prog 22 #[.slice (some ⟨B, 0, none⟩) ts.length cap, .int .i64 1] w fun e w' => ∃ r, e = .returned (.int .i64 r) ∧ 0 ≤ r ∧ Rng lo hi w w' := by
  have h' := hide h
  clear h
  have htt : Hid (∀ k, tot (ts.take k) ≤ tot ts) := hide (fun k => by
    have e : tot ts = tot (ts.take k) + tot (ts.drop k) := by rw [← tot_append, List.take_append_drop]
    omega)
  go_enter Try.func22, Try.ntmps22
  go_wp2
  go_loopw [1, 5] (fun s t wr => ∃ (k : Nat) (q : Int), k ≤ ts.length ∧ t = .int .i64 k ∧ s = .int .i64 q ∧ 1 ≤ q ∧ q ≤ 4000000 ∧ Hid (q = 1 + 3 * tot (ts.take k)) ∧ Hid (TW lo hi wr B ts) ∧ Hid (Rng lo hi w wr)) (fun _ t _ => ts.length - (intOf t).toNat)
  case atStart => exact ⟨0, 1, by omega, rfl, rfl, by omega, by omega, hide (by simp [tot]), h', hide (Rng.refl _ _ _)⟩
  case round =>
    obtain ⟨k, q, hkl, rfl, rfl, q0, q1, hq, hT, hR⟩ := hrel
    by_cases hlt : k < ts.length
    · obtain ⟨t, hx⟩ : ∃ t, ts[k]? = some t := ⟨ts[k], List.getElem?_eq_getElem hlt⟩
      obtain ⟨cur, h1, h2, h3⟩ := (unhide hT).blk
      obtain ⟨g, a1, a2, a3, c, a4, a5, a6⟩ := h3 k t hx
      have hc : wr.cell? ⟨B, k, none⟩ = some (.slice (some ⟨g, 0, none⟩) t.length t.length) := by simp [World.cell?, h1, a3]
      have hsn := tot_snoc hx
      have hto := unhide htt (k + 1)
      have htl : t.length ≤ 1048576 := by omega
      have hrow := hide (row_own a4 a5 a6 a1)
      have hgc := hide (show ∃ c, wr.heap[g]? = some (.cells c 54 (0, 0)) ∧ c.size = t.length * 3 from ⟨c, a4, a5⟩)
      have hsn' := hide hsn
      have hto' := hide hto
      clear hx h1 h2 h3 a3 a4 a5 hsn hto
      go_wp2_with fail
      refine (markk_any lo g t.length t.length q _ _ (by omega) (by omega) (by omega) (unhide hrow)).mono ?_
      rintro e w1 ⟨rfl, ⟨ys, hy, _⟩, hgr⟩
      have hT1 := hide ((unhide hT).marked hgr (unhide hgc) hy)
      have hR1 := hide ((unhide hR).more hgr a1 a2)
      have hqn : q + (t.length : Int) * 3 ≤ 4000000 := by have h5 := unhide hq; have h6 := unhide hsn'; have h7 := unhide hto'; omega
      clear hy hgr hT hR
      go_wp2
      go_roundw
      case rel => exact ⟨k + 1, q + t.length * 3, by omega, by go_num, rfl, by omega, hqn, hide (by have h5 := unhide hq; have h6 := unhide hsn'; omega), hT1, hR1⟩
      case measure => simp [intOf]; omega
    · have hke : k = ts.length := by omega
      have hke' := hide hke
      clear hke
      go_wp2
      go_ret
      exact ⟨q, rfl, by omega, unhide hR⟩

end Go.Proofs.Ytfbifffmieimoaa.Tk
