/-
  Contracts of the law's functions that weigh, copy and hold against each other lists of lists of bytes, and write marks into them.
  Lists of strings in memory: owned rows and lists that are read, and contracts of the law's functions that copy them and hold them against each other.
-/
import Derived.Test.YtpdnceeniokemaaZCopyL
namespace Go.Proofs.Ytpdnceeniokemaa.Bb
open Go.RowKit
open Go.Proofs.Ytpdnceeniokemaa
set_option linter.unusedVariables false
set_option linter.unusedSimpArgs false

/-- lists of bytes behind the address a -/
def Tks (w : World) (a : Option Addr) (ts : List (List Int)) : Prop :=
  ∀ j t, ts[j]? = some t → ∃ b o p c, a = some ⟨b, o, none⟩ ∧ b < w.heap.size ∧ w.cell? ⟨b, o + j, none⟩ = some (.slice p t.length c) ∧ Bys w p t ∧ t.length ≤ maxLen
theorem Tks.below {w w' : World} {a : Option Addr} {ts : List (List Int)} (h : Tks w a ts) (s : Below w.heap.size w w') : Tks w' a ts := by
  intro j t ht
  obtain ⟨b, o, p, c, e, h1, h2, h3, h4⟩ := h j t ht
  exact ⟨b, o, p, c, e, Nat.lt_of_lt_of_le h1 s.size, ((bcell s).1 b _ h1).trans h2, h3.below s, h4⟩
theorem blk_below {X Y : World} {b : Nat} {o : Obj} (h : X.heap[b]? = some o) (hb : Below X.heap.size X Y) : Y.heap[b]? = some o := by
  rw [hb.block b (Array.getElem?_eq_some_iff.1 h).1]; exact h
def tot (ts : List (List Int)) : Nat := (ts.map List.length).sum
theorem tot_snoc {ts : List (List Int)} {k : Nat} {t : List Int} (h : ts[k]? = some t) : tot (ts.take (k + 1)) = tot (ts.take k) + t.length := by
  rw [List.take_add_one, h]; simp [tot]
theorem tot_append (a b : List (List Int)) : tot (a ++ b) = tot a + tot b := by simp [tot]
set_option maxHeartbeats 400000 in
theorem szb_any (a : Option Addr) (len cap : Nat) (q : Int) (w : World) (hl : len ≤ maxLen) (q0 : 0 ≤ q) (q1 : q ≤ 1048576) :
    Calls Try.prog 65 #[.slice a len cap, .int .i64 q] w fun e w' => ∃ r, e = .returned (.int .i64 r) ∧ ((r = -1 ∧ q < len) ∨ (0 ≤ r ∧ r = q - len)) ∧ w' = w := by
  unfold maxLen at hl
  by_cases h : q - len < 0
  · go_enter Try.func65, Try.ntmps65
    go_wp2
    go_ret
    exact ⟨_, rfl, by omega, rfl⟩
  · go_enter Try.func65, Try.ntmps65
    go_wp2
    go_ret
    exact ⟨_, rfl, by omega, rfl⟩

set_option maxHeartbeats 1600000 in
theorem szbb_any (a : Option Addr) (cap : Nat) (ts : List (List Int)) (w : World) (hl : ts.length ≤ maxLen) (hk : Tks w a ts) (N : Int) (N0 : 0 ≤ N) (N1 : N ≤ 1048576) :
    Calls Try.prog 27 #[.slice a ts.length cap, .int .i64 N] w fun e w' => ∃ r, e = .returned (.int .i64 r) ∧ (r = -1 ∨ (0 ≤ r ∧ ts.length + tot ts ≤ N)) ∧ w' = w := by
  unfold maxLen at hl
  have hk' := hide hk
  clear hk
  by_cases hbig : N - ts.length < 0
  · go_enter Try.func27, Try.ntmps27
    go_wp2
    go_ret
    exact ⟨_, rfl, Or.inl rfl, rfl⟩
  · have hbd : decide (N - ts.length < 0) = false := by simpa using hbig
    go_enter Try.func27, Try.ntmps27
    go_wp2
    go_loop [1, 5] (fun s t => ∃ (k : Nat) (q : Int), k ≤ ts.length ∧ t = .int .i64 k ∧ s = .int .i64 q ∧ 0 ≤ q ∧ q ≤ 1048576 ∧ Hid (q = N - ts.length - tot (ts.take k))) (fun _ t => ts.length - (intOf t).toNat)
    case atStart => exact ⟨0, N - ts.length, by omega, rfl, rfl, by omega, by omega, hide (by simp [tot])⟩
    case round =>
      obtain ⟨k, q, hkl, rfl, rfl, q0, q1, hq⟩ := hrel
      by_cases hlt : k < ts.length
      · obtain ⟨t, hx⟩ : ∃ t, ts[k]? = some t := ⟨ts[k], List.getElem?_eq_getElem hlt⟩
        obtain ⟨b, o, p, c, rfl, hb, hc, hK, hm⟩ := unhide hk' k t hx
        have hsn := hide (tot_snoc hx)
        clear hx hK
        go_wp2_with fail
        refine (szb_any p t.length c q _ hm q0 q1).mono ?_
        rintro e w1 ⟨r, rfl, hr, hw0⟩
        have hw1 := hw0.symm
        subst hw1
        rcases hr with ⟨rfl, hr⟩ | ⟨hr0, hr⟩
        · go_wp2
          go_ret
          exact ⟨_, rfl, Or.inl rfl, rfl⟩
        · have hr1 : decide (r < 0) = false := by simp; omega
          have hr' := hide hr
          have hrb : r ≤ 1048576 := by omega
          clear hr
          go_wp2
          go_round
          case rel => exact ⟨k + 1, r, by omega, by go_num, rfl, hr0, hrb, hide (by have h1 := unhide hsn; have h2 := unhide hq; have h3 := unhide hr'; omega)⟩
          case measure => simp [intOf]; omega
      · have hke : k = ts.length := by omega
        have hfin : Hid (ts.length + tot ts ≤ N) := hide (by have h2 := unhide hq; rw [hke, List.take_length] at h2; omega)
        have hke' := hide hke
        clear hke
        go_wp2
        go_ret
        exact ⟨_, rfl, Or.inr ⟨q0, unhide hfin⟩, rfl⟩

/-- an owned list of owned lists of bytes: its rows lie from lo on, below hi -/
structure TO (lo hi : Nat) (w : World) (B : Nat) (ts : List (List Int)) (k : Nat) : Prop where
  ge : lo ≤ B
  lt : B < hi
  blk : ∃ cur : Array Value, w.heap[B]? = some (.cells cur 22 (0, 0)) ∧ cur.size = ts.length ∧ ∀ j t, ts[j]? = some t → j < k → ∃ g, g < hi ∧ cur[j]? = some (.slice (some ⟨g, 0, none⟩) t.length t.length) ∧ OwnB w lo g t.length t.length t
theorem TO.later {lo hi : Nat} {w w1 : World} {B : Nat} {ts : List (List Int)} {k : Nat} (h : TO lo hi w B ts k) (hb : Below w.heap.size w w1) : TO lo hi w1 B ts k := by
  obtain ⟨cur, h1, h2, h3⟩ := h.blk
  refine ⟨h.ge, h.lt, cur, blk_below h1 hb, h2, fun j t ht hj => ?_⟩
  obtain ⟨g, g1, g2, g3⟩ := h3 j t ht hj
  exact ⟨g, g1, g2, ownsRow_below g3 hb⟩
theorem TO.mono {lo hi hi' : Nat} {w : World} {B : Nat} {ts : List (List Int)} {k : Nat} (h : TO lo hi w B ts k) (hh : hi ≤ hi') : TO lo hi' w B ts k := by
  obtain ⟨cur, h1, h2, h3⟩ := h.blk
  refine ⟨h.ge, Nat.lt_of_lt_of_le h.lt hh, cur, h1, h2, fun j t ht hj => ?_⟩
  obtain ⟨g, g1, g2, g3⟩ := h3 j t ht hj
  exact ⟨g, Nat.lt_of_lt_of_le g1 hh, g2, g3⟩
theorem TO.tks {lo hi : Nat} {w : World} {B : Nat} {ts : List (List Int)} (h : TO lo hi w B ts ts.length) (hm : ∀ t ∈ ts, t.length ≤ maxLen) : Tks w (some ⟨B, 0, none⟩) ts := by
  obtain ⟨cur, h1, h2, h3⟩ := h.blk
  intro j t ht
  obtain ⟨g, g1, g2, g3⟩ := h3 j t ht (List.getElem?_eq_some_iff.1 ht).1
  refine ⟨B, 0, some ⟨g, 0, none⟩, t.length, rfl, (Array.getElem?_eq_some_iff.1 h1).1, ?_, bys_own g3, hm t (List.mem_of_getElem? ht)⟩
  rw [Nat.zero_add]
  simp [World.cell?, h1, g2]
theorem own_ne {w : World} {lo g n cap B : Nat} {l : List Int} {cur : Array Value} (h : OwnB w lo g n cap l) (hB : w.heap[B]? = some (.cells cur 22 (0, 0))) : g ≠ B := by
  rcases h.2 with ⟨hv, _⟩ | ⟨g', cap', cur', hv, _, hh, _⟩
  · cases hv
  · injection hv with e1
    injection e1 with e1
    injection e1 with e1
    subst e1
    intro e
    rw [e, hB] at hh
    injection hh with hh
    injection hh with _ hh
    exact absurd hh (by decide)
theorem TO.put {lo hi : Nat} {w : World} {B k g : Nat} {ts : List (List Int)} {t : List Int} (h : TO lo hi w B ts k) (hx : ts[k]? = some t) (hO : OwnB w lo g t.length t.length t) (hg : g < hi) :
    TO lo hi (w.setCell ⟨B, k, none⟩ (.slice (some ⟨g, 0, none⟩) t.length t.length)) B ts (k + 1) := by
  obtain ⟨cur, h1, h2, h3⟩ := h.blk
  have hk : k < ts.length := (List.getElem?_eq_some_iff.1 hx).1
  have hkeep : ∀ (v : Value) (g n cap : Nat) (l : List Int), OwnB w lo g n cap l → OwnB (w.setCell ⟨B, k, none⟩ v) lo g n cap l := fun v g n cap l ho => by
    have hne := own_ne ho h1
    exact own_kept (h := B) ho ⟨rfl, rfl, rfl, by simp [World.setCell], fun i hi hn => by
      have : B ≠ i := fun e => hn (by rw [e])
      simp [World.setCell, Array.getElem?_modify, this]⟩ hne
  refine ⟨h.ge, h.lt, cur.setIfInBounds k (.slice (some ⟨g, 0, none⟩) t.length t.length), ?_, by simpa using h2, fun j u hu hj => ?_⟩
  · simp [World.setCell, h1, Array.getElem?_modify]
  · by_cases e : j = k
    · subst e
      rw [hx] at hu
      injection hu with hu
      subst hu
      exact ⟨g, hg, by simp [h2, hk], hkeep _ _ _ _ _ hO⟩
    · obtain ⟨g', g1, g2, g3⟩ := h3 j u hu (by omega)
      exact ⟨g', g1, by rw [Array.getElem?_setIfInBounds_ne (by omega)]; exact g2, hkeep _ _ _ _ _ g3⟩
theorem info22 : (Try.prog.info? 22).map (fun i => (i.zero, i.size, i.bytes)) = some (some (.slice none 0 0), 1, 24) := by kernel_rfl

set_option maxRecDepth 100000 in
set_option maxHeartbeats 1600000 in
theorem tobb_any (a : Option Addr) (cap : Nat) (ts : List (List Int)) (w : World) (hl : ts.length ≤ 1048576) (hm : ∀ t ∈ ts, t.length ≤ 1048576) (hk : Tks w a ts) :
    Calls Try.prog 30 #[.slice a ts.length cap] w fun e w' => ∃ B, e = .returned (.slice (some ⟨B, 0, none⟩) ts.length ts.length) ∧ TO w.heap.size w'.heap.size w' B ts ts.length ∧ Below w.heap.size w w' := by
  obtain ⟨i0, hi, hz0, hz1, hz2⟩ := info_parts info22
  have hk' := hide hk
  have hm' := hide hm
  clear hk hm
  go_enter Try.func30, Try.ntmps30
  go_wp2_with (refine wpList_make_full _ rfl _ _ 42 rfl w.heap.size 22 i0 _ 1 Try.underlying42 hi hz0 hz1 .i64 .i64 _ _ ts.length rfl rfl rfl rfl ?b2 ?b3 (Nat.le_refl _) ?_)
  case b2 => rw [hz2]; omega
  case b3 => unfold maxLen; omega
  intro w1 hown hg
  have hb1 := hide (show Below w.heap.size w w1 from (Below.refl _ _).grown hg (Nat.le_refl _) (fun k hk => by cases hk))
  have hT1 : Hid (TO w.heap.size w1.heap.size w1 w.heap.size ts 0) := hide (by
    rcases hown.2 with ⟨hv, _⟩ | ⟨g', cap', cur, hv, hB, hh, _, _, hcs, _⟩
    · cases hv
    · injection hv with e1 e2 e3
      injection e1 with e1
      injection e1 with e1
      subst e1 e3
      exact ⟨Nat.le_refl _, (Array.getElem?_eq_some_iff.1 hh).1, cur, hh, by omega, fun j t ht hj => by omega⟩)
  clear hown hg
  go_wp2
  go_loopw [4] (fun t wr => ∃ k : Nat, k ≤ ts.length ∧ t = .int .i64 k ∧ Hid (TO w.heap.size wr.heap.size wr w.heap.size ts k) ∧ Hid (Below w.heap.size w wr)) (fun t _ => ts.length - (intOf t).toNat)
  case atStart => exact ⟨0, by omega, rfl, hT1, hb1⟩
  case round =>
    clear hT1 hb1
    obtain ⟨k, hkl, rfl, hT, hB⟩ := hrel
    by_cases hlt : k < ts.length
    · obtain ⟨t, hx⟩ : ∃ t, ts[k]? = some t := ⟨ts[k], List.getElem?_eq_getElem hlt⟩
      obtain ⟨b, o, p, c, rfl, hb, hc, hK, hmx⟩ := unhide hk' k t hx
      have hc' : wr.cell? ⟨b, o + k, none⟩ = some (.slice p t.length c) := ((bcell (unhide hB)).1 b _ hb).trans hc
      have hKr := hide (hK.below (unhide hB))
      have htl : t.length ≤ 1048576 := unhide hm' t (List.mem_of_getElem? hx)
      have hx' := hide hx
      clear hx hc hK
      go_wp2_with fail
      refine (tob_any p c t wr htl (unhide hKr)).mono ?_
      rintro e w3 ⟨B3, rfl, q3, hO3, k3⟩
      have hT3 := (unhide hT).later k3
      obtain ⟨cur, h1, h2, h3⟩ := hT3.blk
      have hc3 : w3.cell? ⟨w.heap.size, k, none⟩ = some (cur[k]'(by omega)) := by simp [World.cell?, h1, (by omega : k < cur.size)]
      have hf3 : w3.frozen? ⟨w.heap.size, k, none⟩ = false := by simp [World.frozen?, h1]
      have hB3 := hide (laterB (unhide hB) k3)
      have hTn := hide (TO.put (hT3.mono (hi' := w3.heap.size) k3.size) (unhide hx') (own_mono hO3 (unhide hB).size) (own_lt hO3))
      generalize cur[k]'(by omega) = u at hc3
      clear k3 hO3 hT3 h1 h2 h3 hT hB hKr hc'
      go_wp2
      go_roundw
      case rel => exact ⟨k + 1, by omega, by go_num, hide (by have h9 := unhide hTn; have e : (w3.setCell ⟨w.heap.size, k, none⟩ (.slice (some ⟨B3, 0, none⟩) t.length t.length)).heap.size = w3.heap.size := (by simp [World.setCell]); rw [e]; exact h9), hide ((unhide hB3).setCell (Nat.le_refl _) _)⟩
      case measure => simp [intOf]; omega
    · have hke : k = ts.length := by omega
      have hT' : Hid (TO w.heap.size wr.heap.size wr w.heap.size ts ts.length) := hide (by have := unhide hT; rw [hke] at this; exact this)
      have hke' := hide hke
      clear hke
      go_wp2
      go_ret
      exact ⟨_, rfl, unhide hT', unhide hB⟩

theorem below_drw {w w1 : World} (h : Below w.heap.size w w1) : Below w.heap.size w w1.drew := h.drew
theorem keep2 {w w0 w1 : World} {a1 a2 : Addr} {v1 v2 : Value} (h : w0.cell? a1 = some v1 ∧ w0.cell? a2 = some v2 ∧ Below w.heap.size w w0) (hb : Below w0.heap.size w0 w1) : w1.cell? a1 = some v1 ∧ w1.cell? a2 = some v2 ∧ Below w.heap.size w w1 :=
  ⟨cell_later hb h.1, cell_later hb h.2.1, h.2.2.trans (hb.mono h.2.2.size)⟩
theorem keep2d {w w0 : World} {a1 a2 : Addr} {v1 v2 : Value} (h : w0.cell? a1 = some v1 ∧ w0.cell? a2 = some v2 ∧ Below w.heap.size w w0) : w0.drew.cell? a1 = some v1 ∧ w0.drew.cell? a2 = some v2 ∧ Below w.heap.size w w0.drew :=
  ⟨h.1, h.2.1, h.2.2.drew⟩
set_option maxHeartbeats 1600000 in
theorem eqbb_any (a b : Option Addr) (ca cb : Nat) (ts : List (List Int)) (w : World) (hl : ts.length ≤ 1048576) (hm : ∀ t ∈ ts, t.length ≤ 1048576) (ha : Tks w a ts) (hb : Tks w b ts) :
    Calls Try.prog 33 #[.slice a ts.length ca, .slice b ts.length cb] w fun e w' => e = .returned (.bool true) ∧ Below w.heap.size w w' := by
  have ha' := hide ha
  have hb' := hide hb
  have hm' := hide hm
  clear ha hb hm
  have hne : ((ts.length : Int) != ts.length) = false := by simp
  go_enter Try.func33, Try.ntmps33
  go_wp2
  go_loopw [5] (fun t wr => ∃ k : Nat, k ≤ ts.length ∧ t = .int .i64 k ∧ Below w.heap.size w wr) (fun t _ => ts.length - (intOf t).toNat)
  case atStart => exact ⟨0, by omega, rfl, Below.refl _ _⟩
  case round =>
    obtain ⟨k, hkl, rfl, hw⟩ := hrel
    by_cases hlt : k < ts.length
    · obtain ⟨t, hx⟩ : ∃ t, ts[k]? = some t := ⟨ts[k], List.getElem?_eq_getElem hlt⟩
      obtain ⟨b1, o1, p1, c1, rfl, i1, e1, K1, _⟩ := unhide ha' k t hx
      obtain ⟨b2, o2, p2, c2, rfl, i2, e2, K2, _⟩ := unhide hb' k t hx
      have htl : t.length ≤ 1048576 := unhide hm' t (List.mem_of_getElem? hx)
      have K1' := hide K1
      have K2' := hide K2
      have hall : Hid (wr.cell? ⟨b1, o1 + k, none⟩ = some (.slice p1 t.length c1) ∧ wr.cell? ⟨b2, o2 + k, none⟩ = some (.slice p2 t.length c2) ∧ Below w.heap.size w wr) := hide ⟨((bcell hw).1 b1 _ i1).trans e1, ((bcell hw).1 b2 _ i2).trans e2, hw⟩
      have hw' := hide hw
      clear hx e1 e2 K1 K2 hw
      go_wp2_with fail
      go_region_held3 (fun w' => w'.cell? ⟨b1, o1 + k, none⟩ = some (.slice p1 t.length c1) ∧ w'.cell? ⟨b2, o2 + k, none⟩ = some (.slice p2 t.length c2) ∧ Below w.heap.size w w')
        (first | (refine keep2 ?_ hb; assumption) | (exact keep2d (unhide hall)))
        ((go_at_call 20; refine (eqb_any p1 p2 c1 c2 t _ htl ((unhide K1').below (below_drw (unhide hw'))) ((unhide K2').below (below_drw (unhide hw')))).mono ?_; rintro e w1 ⟨rfl, hb⟩))
      go_wp2
      go_roundw
      case rel => exact ⟨k + 1, by omega, by go_num, by rename_i hH; exact hH.2.2⟩
      case measure => simp [intOf]; omega
    · have hke : k = ts.length := by omega
      go_wp2
      go_ret
      exact ⟨rfl, hw⟩

/-- all blocks but those from lo on and below hi stand -/
structure Rng (lo hi : Nat) (w w' : World) : Prop where
  os : w'.os = w.os
  tape : w'.tape = w.tape
  output : w'.output = w.output
  size : w.heap.size ≤ w'.heap.size
  block : ∀ k, k < w.heap.size → (k < lo ∨ hi ≤ k) → w'.heap[k]? = w.heap[k]?
  empt : ∀ (k : Nat) (e : TypeId), w.heap[k]? = some (.cells #[] e (0, 0)) → w'.heap[k]? = some (.cells #[] e (0, 0))
theorem Rng.refl (lo hi : Nat) (w : World) : Rng lo hi w w := ⟨rfl, rfl, rfl, Nat.le_refl _, fun _ _ _ => rfl, fun _ _ h => h⟩
theorem Rng.more {lo hi g : Nat} {w w1 w2 : World} (h : Rng lo hi w w1) (k : w1.grownBy w2 (some g)) (h1 : lo ≤ g) (h2 : g < hi) (hn : ∀ e : TypeId, w1.heap[g]? = some (.cells #[] e (0, 0)) → w2.heap[g]? = some (.cells #[] e (0, 0))) : Rng lo hi w w2 :=
  ⟨k.os.trans h.os, k.tape.trans h.tape, k.output.trans h.output, Nat.le_trans h.size k.size, fun i hi' ho => (k.block i (Nat.lt_of_lt_of_le hi' h.size) (by intro e; injection e with e; omega)).trans (h.block i hi' ho), fun i e he => by
    have h3 := h.empt i e he
    by_cases hg : i = g
    · rw [hg] at h3 ⊢; exact hn e h3
    · exact (k.block i (Array.getElem?_eq_some_iff.1 h3).1 (by intro e2; injection e2 with e2; exact hg e2)).trans h3⟩
/-- rows that can be written -/
structure TW (lo hi : Nat) (w : World) (B : Nat) (ts : List (List Int)) : Prop where
  blk : ∃ cur : Array Value, w.heap[B]? = some (.cells cur 22 (0, 0)) ∧ cur.size = ts.length ∧ ∀ (j : Nat) (t : List Int), ts[j]? = some t → ∃ g, lo ≤ g ∧ g < hi ∧ cur[j]? = some (.slice (some ⟨g, 0, none⟩) t.length t.length) ∧ ∃ c, w.heap[g]? = some (.cells c 5 (0, 0)) ∧ c.size = t.length ∧ t.length ≤ maxLen
theorem TO.tw {lo hi : Nat} {w : World} {B : Nat} {ts : List (List Int)} (h : TO lo hi w B ts ts.length) : TW lo hi w B ts := by
  obtain ⟨cur, h1, h2, h3⟩ := h.blk
  refine ⟨cur, h1, h2, fun j t ht => ?_⟩
  obtain ⟨g, g1, g2, g3⟩ := h3 j t ht (List.getElem?_eq_some_iff.1 ht).1
  rcases g3.2 with ⟨hv, _⟩ | ⟨g', cap', cur', hv, hB, hh, _, hmx, hcs, _⟩
  · cases hv
  · injection hv with e1 e2 e3
    injection e1 with e1
    injection e1 with e1
    subst e1 e3
    exact ⟨g, hB, g1, g2, cur', hh, by simpa using hcs, hmx⟩
theorem row_own {lo g n : Nat} {w : World} {c : Array Value} (h : w.heap[g]? = some (.cells c 5 (0, 0))) (hc : c.size = n) (hm : n ≤ maxLen) (hg : lo ≤ g) : w.ownsRow lo 5 1 (.slice (some ⟨g, 0, none⟩) n n) n c.toList :=
  ⟨by simpa using hc, Or.inr ⟨g, n, c, rfl, hg, h, Nat.le_refl _, hm, by simpa using hc, by rw [List.take_of_length_le (by simp [hc])]⟩⟩
theorem TW.marked {lo hi : Nat} {w w1 : World} {B g n : Nat} {ts : List (List Int)} {ys : List Value} (h : TW lo hi w B ts) (hgr : w.grownBy w1 (some g)) (hg : ∃ c, w.heap[g]? = some (.cells c 5 (0, 0)) ∧ c.size = n) (hy : w1.ownsRow lo 5 1 (.slice (some ⟨g, 0, none⟩) n n) n ys) : TW lo hi w1 B ts := by
  obtain ⟨cur, h1, h2, h3⟩ := h.blk
  obtain ⟨c0, hc0, hn0⟩ := hg
  have hBg : B ≠ g := by
    intro e; rw [e, hc0] at h1; injection h1 with h1; injection h1 with _ h1; exact absurd h1 (by decide)
  refine ⟨cur, ?_, h2, fun j t ht => ?_⟩
  · rw [hgr.block B (Array.getElem?_eq_some_iff.1 h1).1 (by intro e; injection e with e; exact hBg e)]; exact h1
  · obtain ⟨g', a1, a2, a3, c, a4, a5, a6⟩ := h3 j t ht
    refine ⟨g', a1, a2, a3, ?_⟩
    by_cases e : g' = g
    · subst e
      rw [hc0] at a4
      injection a4 with a4
      injection a4 with a4
      subst a4
      rcases hy.2 with ⟨hv, _⟩ | ⟨g'', cap', cur', hv, hB, hh, _, hmx, hcs, _⟩
      · cases hv
      · injection hv with e1 e2 e3
        injection e1 with e1
        injection e1 with e1
        subst e1 e3
        exact ⟨cur', hh, by omega, a6⟩
    · exact ⟨c, by rw [hgr.block g' (Array.getElem?_eq_some_iff.1 a4).1 (by intro e2; injection e2 with e2; exact e e2)]; exact a4, a5, a6⟩

set_option maxHeartbeats 1600000 in
theorem markbb_any (lo hi B cap : Nat) (ts : List (List Int)) (w : World) (hl : ts.length + tot ts ≤ 1048576) (q9 : Int) (h0 : 1 ≤ q9) (h9 : q9 ≤ 4000000) (h : TW lo hi w B ts) :
    Calls Try.prog 35 #[.slice (some ⟨B, 0, none⟩) ts.length cap, .int .i64 q9] w fun e w' => ∃ r, e = .returned (.int .i64 r) ∧ 0 ≤ r ∧ Rng lo hi w w' := by
  have h' := hide h
  clear h
  have htt : Hid (∀ k, tot (ts.take k) ≤ tot ts) := hide (fun k => by
    have e : tot ts = tot (ts.take k) + tot (ts.drop k) := by rw [← tot_append, List.take_append_drop]
    omega)
  go_enter Try.func35, Try.ntmps35
  go_wp2
  go_loopw [1, 5] (fun s t wr => ∃ (k : Nat) (q : Int), k ≤ ts.length ∧ t = .int .i64 k ∧ s = .int .i64 q ∧ 1 ≤ q ∧ q ≤ 8000000 ∧ Hid (q = q9 + tot (ts.take k)) ∧ Hid (TW lo hi wr B ts) ∧ Hid (Rng lo hi w wr)) (fun _ t _ => ts.length - (intOf t).toNat)
  case atStart => exact ⟨0, q9, by omega, rfl, rfl, by omega, by omega, hide (by simp [tot]), h', hide (Rng.refl _ _ _)⟩
  case round =>
    obtain ⟨k, q, hkl, rfl, rfl, q0, q1, hq, hT, hR⟩ := hrel
    by_cases hlt : k < ts.length
    · obtain ⟨t, hx⟩ : ∃ t, ts[k]? = some t := ⟨ts[k], List.getElem?_eq_getElem hlt⟩
      obtain ⟨cur, h1, h2, h3⟩ := (unhide hT).blk
      obtain ⟨g, a1, a2, a3, c, a4, a5, a6⟩ := h3 k t hx
      have hc : wr.cell? ⟨B, k, none⟩ = some (.slice (some ⟨g, 0, none⟩) t.length t.length) := by simp [World.cell?, h1, a3]
      have hsn := tot_snoc hx
      have hto := unhide htt (k + 1)
      have htl : t.length ≤ 1048576 := by omega
      have hrow := hide (row_own a4 a5 a6 a1)
      have hgc := hide (show ∃ c, wr.heap[g]? = some (.cells c 5 (0, 0)) ∧ c.size = t.length from ⟨c, a4, a5⟩)
      have hsn' := hide hsn
      have hto' := hide hto
      clear hx h1 h2 h3 a3 a4 a5 hsn hto
      go_wp2_with fail
      refine (markb_any lo g t.length t.length q _ _ (by omega) (by omega) (by omega) (unhide hrow)).mono ?_
      rintro e w1 ⟨rfl, ⟨ys, hy, _⟩, hgr⟩
      have hT1 := hide ((unhide hT).marked hgr (unhide hgc) hy)
      have hR1 := hide ((unhide hR).more hgr a1 a2 (fun e he => by
        obtain ⟨c, hc1, hc2⟩ := unhide hgc
        rw [he] at hc1
        injection hc1 with hc1
        injection hc1 with e1 e2
        subst e1 e2
        have ht0 : t.length = 0 := by rw [← hc2]; rfl
        rcases hy.2 with ⟨hv, _⟩ | ⟨g'', cap', cur', hv, hB, hh, _, hmx, hcs, _⟩
        · cases hv
        · injection hv with e1 e2 e3
          injection e1 with e1
          injection e1 with e1
          subst e1
          have : cur' = #[] := by
            have : cur'.size = 0 := by rw [hcs, ← e3, ht0]
            simpa using this
          rw [this] at hh
          exact hh))
      have hqn : q + (t.length : Int) ≤ 8000000 := by have h5 := unhide hq; have h6 := unhide hsn'; have h7 := unhide hto'; omega
      clear hy hgr hT hR
      go_wp2
      go_roundw
      case rel => exact ⟨k + 1, q + t.length, by omega, by go_num, rfl, by omega, hqn, hide (by have h5 := unhide hq; have h6 := unhide hsn'; omega), hT1, hR1⟩
      case measure => simp [intOf]; omega
    · have hke : k = ts.length := by omega
      have hke' := hide hke
      clear hke
      go_wp2
      go_ret
      exact ⟨q, rfl, by omega, unhide hR⟩

end Go.Proofs.Ytpdnceeniokemaa.Bb

namespace Go.Proofs.Ytpdnceeniokemaa
open Go.RowKit
set_option linter.unusedVariables false
set_option linter.unusedSimpArgs false

theorem infoS : (Try.prog.info? 9).map (fun i => (i.zero, i.size, i.bytes)) = some (some (.string ⟨#[]⟩), 1, 16) := by kernel_rfl
/-- the numbers l behind the address a -/
def Sts (w : World) (a : Option Addr) (l : List ByteArray) : Prop :=
  ∀ j x, l[j]? = some x → ∃ b o, a = some ⟨b, o, none⟩ ∧ b < w.heap.size ∧ w.cell? ⟨b, o + j, none⟩ = some (.string x)
theorem Sts.nil {w : World} {a : Option Addr} : Sts w a [] := by intro j z hz; simp at hz
theorem Sts.below {w w' : World} {a : Option Addr} {l : List ByteArray} (h : Sts w a l) (s : Below w.heap.size w w') : Sts w' a l := by
  intro j x hx
  obtain ⟨b, o, e, h1, c0⟩ := h j x hx
  exact ⟨b, o, e, Nat.lt_of_lt_of_le h1 s.size, ((bcell s).1 b _ h1).trans c0⟩
theorem sts_at {w wr : World} {a : Option Addr} {l : List ByteArray} {k : Nat} (h : Sts w a l) (hw : Below w.heap.size w wr) (hk : k < l.length) : ∃ b o x, a = some ⟨b, o, none⟩ ∧ l[k]? = some x ∧ b < w.heap.size ∧ wr.cell? ⟨b, o + k, none⟩ = some (.string x) := by
  obtain ⟨b, o, e, h1, c0⟩ := h k l[k] (List.getElem?_eq_getElem hk)
  exact ⟨b, o, _, e, List.getElem?_eq_getElem hk, h1, ((bcell hw).1 b _ h1).trans c0⟩
/-- an owned list of numbers -/
abbrev OwnS (w : World) (B g n cap : Nat) (l : List ByteArray) : Prop := w.ownsRow B 9 1 (.slice (some ⟨g, 0, none⟩) n cap) n (l.map sv)
theorem ownS_len {w : World} {B g n cap : Nat} {l : List ByteArray} (h : OwnS w B g n cap l) : l.length = n := by
  have hl : (l.map sv).length = n * 1 := h.1
  simpa using hl
theorem ownS_at {w : World} {B g n cap k : Nat} {l : List ByteArray} {x : ByteArray} (hk : l[k]? = some x) (h : OwnS w B g n cap l) : w.cell? ⟨g, k, none⟩ = some (.string x) := by
  have hl := ownS_len h
  have hj : k < l.length := (List.getElem?_eq_some_iff.1 hk).1
  have := h.cellAt k (by omega)
  rw [this, List.getElem?_map, hk]; rfl
theorem ownS_put {w : World} {B g n cap : Nat} {l : List ByteArray} (k : Nat) (x : ByteArray) (h : OwnS w B g n cap l) : OwnS (w.setCell ⟨g, k, none⟩ (.string x)) B g n cap (l.set k x) := by
  have h1 := (h.stored k (sv x)).1
  show World.ownsRow _ _ _ _ _ _ _
  rw [List.map_set]; exact h1
theorem sts_own {w : World} {B g n cap : Nat} {l : List ByteArray} (h : OwnS w B g n cap l) : Sts w (some ⟨g, 0, none⟩) l := by
  intro j z hj
  exact ⟨g, 0, rfl, own_lt h, by rw [Nat.zero_add]; exact ownS_at hj h⟩
theorem ownS_lit0 (w : World) {B : Nat} (hB : B ≤ w.heap.size) : OwnS (w.alloc (.cells #[] 9)) B w.heap.size 0 0 [] := by
  have h := World.ownsRow_lit (base := B) (e := 9) (size := 1) w #[] 0 hB (by unfold maxLen; omega) rfl
  exact h
/-- the copy's list as it stands -/
def midS (l : List ByteArray) (n k : Nat) : List ByteArray := l.take k ++ List.replicate (n - k) ⟨#[]⟩
theorem midS_len {l : List ByteArray} {n k : Nat} (hl : l.length = n) (hk : k ≤ n) : (midS l n k).length = n := by simp [midS]; omega
theorem midS_set {l : List ByteArray} {n k : Nat} {x : ByteArray} (hl : l.length = n) (h : l[k]? = some x) : (midS l n k).set k x = midS l n (k + 1) := by
  have hk : k < l.length := (List.getElem?_eq_some_iff.1 h).1
  unfold midS
  rw [List.take_add_one, h, List.set_append_right _ _ (by simp; omega)]
  have e : n - k = (n - (k + 1)) + 1 := by omega
  rw [e, List.replicate_succ]
  have e2 : k - (l.take k).length = 0 := by simp; omega
  rw [e2]; simp
theorem made_S (n : Nat) : (madeCells #[.string ⟨#[]⟩] n).toList = (List.replicate n (⟨#[]⟩ : ByteArray)).map sv := by
  have := toList_madeCells_one (.string ⟨#[]⟩) n
  simpa [sv] using this

set_option maxHeartbeats 800000 in
theorem tosS_any (a : Option Addr) (cap : Nat) (zs : List ByteArray) (w : World) (hl : zs.length ≤ 1048576) (hr : Sts w a zs) :
    Calls Try.prog 29 #[.slice a zs.length cap] w fun e w' => ∃ B, e = .returned (.slice (some ⟨B, 0, none⟩) zs.length zs.length) ∧ w.heap.size ≤ B ∧ OwnS w' w.heap.size B zs.length zs.length zs ∧ Below w.heap.size w w' := by
  obtain ⟨i0, hi, hz0, hz1, hz2⟩ := info_parts infoS
  go_enter Try.func29, Try.ntmps29
  go_wp2_with (refine wpList_make_full _ rfl _ _ 41 rfl w.heap.size 9 i0 (.string ⟨#[]⟩) 1 Try.underlying41 hi hz0 hz1 .i64 .i64 _ _ zs.length rfl rfl rfl rfl ?b2 ?b3 (Nat.le_refl _) ?_)
  case b2 => rw [hz2]; omega
  case b3 => unfold maxLen; omega
  intro w1 hown hg
  have hb1 : Below w.heap.size w w1 := (Below.refl _ _).grown hg (Nat.le_refl _) (fun k hk => by cases hk)
  have hown1 : OwnS w1 w.heap.size w.heap.size zs.length zs.length (midS zs zs.length 0) := by
    have e : (midS zs zs.length 0).map sv = (madeCells #[.string ⟨#[]⟩] zs.length).toList := by rw [made_S]; simp [midS]
    show World.ownsRow _ _ _ _ _ _ _
    rw [e]; exact hown
  clear hown hg
  go_wp2
  go_loopw [4] (fun t wr => ∃ k : Nat, k ≤ zs.length ∧ t = .int .i64 k ∧ Hid (OwnS wr w.heap.size w.heap.size zs.length zs.length (midS zs zs.length k)) ∧ Hid (Below w.heap.size w wr)) (fun t _ => zs.length - (intOf t).toNat)
  case atStart => exact ⟨0, by omega, rfl, hide hown1, hide hb1⟩
  case round =>
    clear hown1 hb1
    obtain ⟨k, hk, rfl, hown, hb⟩ := hrel
    by_cases hlt : k < zs.length
    · obtain ⟨z, hz⟩ : ∃ z, zs[k]? = some z := ⟨zs[k], List.getElem?_eq_getElem hlt⟩
      obtain ⟨b, o, rfl, h2, c0⟩ := hr k z hz
      have hcw : wr.cell? ⟨b, o + k, none⟩ = some (.string z) := by rw [(bcell (unhide hb)).1 _ _ h2]; exact c0
      have hr' := hide hr
      have hml : k < (midS zs zs.length k).length := by rw [midS_len rfl hk]; exact hlt
      have x0 := ownS_at (List.getElem?_eq_getElem hml) (unhide hown)
      have f0 := (unhide hown).frozenAt k
      have hnew := hide (show _ from by have := ownS_put k z (unhide hown); rw [midS_set rfl hz] at this; exact this)
      generalize (midS zs zs.length k)[k] = u0 at *
      clear hr hz c0 hown hml
      go_wp2
      go_roundw
      case rel => exact ⟨k + 1, by omega, by go_num, hnew, hide ((unhide hb).setCell (Nat.le_refl _) _)⟩
      case measure => simp [intOf]; omega
    · have hke : k = zs.length := by omega
      have hr' := hide hr
      clear hr
      go_wp2
      go_ret
      refine ⟨_, rfl, Nat.le_refl _, ?_, unhide hb⟩
      have := unhide hown
      rw [hke] at this
      simpa [midS] using this

set_option maxHeartbeats 800000 in
theorem eqS_any (a b : Option Addr) (ca cb : Nat) (l : List ByteArray) (w : World) (hl : l.length ≤ 1048576) (ha : Sts w a l) (hb : Sts w b l) :
    Calls Try.prog 32 #[.slice a l.length ca, .slice b l.length cb] w fun e w' => e = .returned (.bool true) ∧ Below w.heap.size w w' := by
  have ha' := hide ha
  have hb' := hide hb
  clear ha hb
  have hne : ((l.length : Int) != l.length) = false := by simp
  go_enter Try.func32, Try.ntmps32
  go_wp2
  go_loopw [5] (fun t wr => ∃ k : Nat, k ≤ l.length ∧ t = .int .i64 k ∧ Hid (Below w.heap.size w wr)) (fun t _ => l.length - (intOf t).toNat)
  case atStart => exact ⟨0, by omega, rfl, hide (Below.refl _ _)⟩
  case round =>
    obtain ⟨k, hk, rfl, hw⟩ := hrel
    by_cases hlt : k < l.length
    · obtain ⟨b1, o1, x, rfl, hx, i1, c0⟩ := sts_at (unhide ha') (unhide hw) hlt
      obtain ⟨b2, o2, y, rfl, hy, i2, d0⟩ := sts_at (unhide hb') (unhide hw) hlt
      rw [hx] at hy
      injection hy with hy
      subst hy
      have e1 : (x.toList == x.toList) = true := by simp
      clear hx i1 i2
      go_wp2_with fail
      go_quiet (fail)
      go_wp2
      go_roundw
      case rel => exact ⟨k + 1, by omega, by go_num, hide (below_drewN (unhide hw) _)⟩
      case measure => simp [intOf]; omega
    · have hke : k = l.length := by omega
      go_wp2
      go_ret
      exact ⟨rfl, unhide hw⟩

theorem sv_news {w : World} {E : Nat} {v : ByteArray} {t : TypeId} {m : Nat × Nat} (hblk : w.heap[E]? = some (.cells #[.string v] t m)) : ∀ j u, [sv v][j]? = some u → w.cell? ((⟨E, 0, none⟩ : Addr).add j) = some u := by
  have := World.news_of_block hblk
  simpa [sv] using this
theorem wpList_sG {ops : Array Oper} {rest : List Oper} {o : Oper} {a : Act} {Q : Exit → Act → World → Prop} (w : World) (hgd : o.guard = none) (s x : Operand) (ho : o.op = .call { callee := .builtin .append, args := #[s, x], argTypes := #[41, 41] })
    (B g n cap : Nat) (L : List ByteArray) (v : ByteArray) (hs : a.eval s = .slice (some ⟨g, 0, none⟩) n cap) (hown : OwnS w B g n cap L) (hx : a.eval x = .slice (some ⟨w.heap.size, 0, none⟩) 1 1)
    (hl : n ≤ 1000000) (hB : B ≤ w.heap.size)
    (h : ∀ g' cap' w', OwnS w' B g' (n + 1) cap' (L ++ [v]) → w.grownBy w' (some g) → B ≤ g' → (g' = g ∨ w.heap.size ≤ g') → wpList Try.prog ops Q rest (a.put o.dst (.slice (some ⟨g', 0, none⟩) (n + 1) cap')) w') : wpList Try.prog ops Q (o :: rest) a (w.alloc (.cells #[.string v] 9)) := by
  obtain ⟨i0, hi, hz0, hz1, hz2⟩ := info_parts infoS
  have hb : Below w.heap.size w (w.alloc (.cells #[.string v] 9)) := (Below.refl _ _).alloc (Nat.le_refl _) _
  have hblk : (w.alloc (.cells #[.string v] 9)).heap[w.heap.size]? = some (.cells #[.string v] 9 (0, 0)) := heap_alloc_new w _
  have hnews := sv_news hblk
  have hsz := hb.size
  generalize w.alloc (.cells #[.string v] 9) = W at *
  have hown2 := ownsRow_below hown hb
  have hBg : B ≤ g := (hown.lt g rfl).1
  refine wpList_append_lies W hgd s x 41 ho B 9 i0 (.string ⟨#[]⟩) 1 16 Try.underlying41 hi hz0 hz1 hz2 rfl (by decide) _ n (L.map sv) hs hown2 ⟨w.heap.size, 0, none⟩ 1 1 [sv v] hx rfl hnews (by intro u hu; simp at hu; subst hu; rfl) (by decide) (by unfold maxLen; omega) (by omega) (by omega) W.heap.size rfl ?_
  intro g' cap' w' h1 h2 h3 h4
  refine h g' cap' w' (by show World.ownsRow _ _ _ _ _ _ _; rw [List.map_append]; exact h1) ?_ (own_ge h1) ?_
  · exact grown_trans ⟨hb.os, hb.tape, hb.output, hb.size, fun j hj _ => hb.block j hj⟩ h2
  · rcases h3 with h3 | h3
    · simp [Value.ownBlock] at h3; exact .inl h3.symm
    · exact .inr (by omega)

end Go.Proofs.Ytpdnceeniokemaa
