/-
  Contracts of the law's functions that weigh, copy and hold against each other lists of lists of bytes, and write marks into them.
-/
import Derived.Test.YtcgdcabmjihijaaCopyL
namespace Go.Proofs.Ytcgdcabmjihijaa.Bb
open Go.RowKit
open Go.Proofs.Ytcgdcabmjihijaa
set_option linter.unusedVariables false
set_option linter.unusedSimpArgs false

/-- lists of bytes behind the address a -/
def Tks (w : World) (a : Option Addr) (ts : List (List Int)) : Prop :=
  ∀ j t, ts[j]? = some t → ∃ b o p c, a = some ⟨b, o, none⟩ ∧ b < w.heap.size ∧ w.cell? ⟨b, o + j, none⟩ = some (.slice p t.length c) ∧ Bys w p t ∧ t.length ≤ maxLen
theorem Tks.below {w w' : World} {a : Option Addr} {ts : List (List Int)} (h : Tks w a ts) (s : Below w.heap.size w w') : Tks w' a ts := by
  intro j t ht
  obtain ⟨b, o, p, c, e, h1, h2, h3, h4⟩ := h j t ht
  exact ⟨b, o, p, c, e, Nat.lt_of_lt_of_le h1 s.size, ((bcell s).1 b _ h1).trans h2, h3.below s, h4⟩
theorem blk_below {X Y : World} {b : Nat} {o : Obj} (h : X.heap[b]? = some o) (hb : Below X.heap.size X Y) : Y.heap[b]? = some o := by
  rw [hb.block b (Array.getElem?_eq_some_iff.1 h).1]; exact h
def tot (ts : List (List Int)) : Nat := (ts.map List.length).sum
theorem tot_snoc {ts : List (List Int)} {k : Nat} {t : List Int} (h : ts[k]? = some t) : tot (ts.take (k + 1)) = tot (ts.take k) + t.length := by
  rw [List.take_add_one, h]; simp [tot]
theorem tot_append (a b : List (List Int)) : tot (a ++ b) = tot a + tot b := by simp [tot]
/-- an owned list of owned lists of bytes: its rows lie from lo on, below hi -/
structure TO (lo hi : Nat) (w : World) (B : Nat) (ts : List (List Int)) (k : Nat) : Prop where
  ge : lo ≤ B
  lt : B < hi
  blk : ∃ cur : Array Value, w.heap[B]? = some (.cells cur 22 (0, 0)) ∧ cur.size = ts.length ∧ ∀ j t, ts[j]? = some t → j < k → ∃ g, g < hi ∧ cur[j]? = some (.slice (some ⟨g, 0, none⟩) t.length t.length) ∧ OwnB w lo g t.length t.length t
theorem TO.later {lo hi : Nat} {w w1 : World} {B : Nat} {ts : List (List Int)} {k : Nat} (h : TO lo hi w B ts k) (hb : Below w.heap.size w w1) : TO lo hi w1 B ts k := by
  obtain ⟨cur, h1, h2, h3⟩ := h.blk
  refine ⟨h.ge, h.lt, cur, blk_below h1 hb, h2, fun j t ht hj => ?_⟩
  obtain ⟨g, g1, g2, g3⟩ := h3 j t ht hj
  exact ⟨g, g1, g2, ownsRow_below g3 hb⟩
theorem TO.mono {lo hi hi' : Nat} {w : World} {B : Nat} {ts : List (List Int)} {k : Nat} (h : TO lo hi w B ts k) (hh : hi ≤ hi') : TO lo hi' w B ts k := by
  obtain ⟨cur, h1, h2, h3⟩ := h.blk
  refine ⟨h.ge, Nat.lt_of_lt_of_le h.lt hh, cur, h1, h2, fun j t ht hj => ?_⟩
  obtain ⟨g, g1, g2, g3⟩ := h3 j t ht hj
  exact ⟨g, Nat.lt_of_lt_of_le g1 hh, g2, g3⟩
theorem TO.tks {lo hi : Nat} {w : World} {B : Nat} {ts : List (List Int)} (h : TO lo hi w B ts ts.length) (hm : ∀ t ∈ ts, t.length ≤ maxLen) : Tks w (some ⟨B, 0, none⟩) ts := by
  obtain ⟨cur, h1, h2, h3⟩ := h.blk
  intro j t ht
  obtain ⟨g, g1, g2, g3⟩ := h3 j t ht (List.getElem?_eq_some_iff.1 ht).1
  refine ⟨B, 0, some ⟨g, 0, none⟩, t.length, rfl, (Array.getElem?_eq_some_iff.1 h1).1, ?_, bys_own g3, hm t (List.mem_of_getElem? ht)⟩
  rw [Nat.zero_add]
  simp [World.cell?, h1, g2]
theorem own_ne {w : World} {lo g n cap B : Nat} {l : List Int} {cur : Array Value} (h : OwnB w lo g n cap l) (hB : w.heap[B]? = some (.cells cur 22 (0, 0))) : g ≠ B := by
  rcases h.2 with ⟨hv, _⟩ | ⟨g', cap', cur', hv, _, hh, _⟩
  · cases hv
  · injection hv with e1
    injection e1 with e1
    injection e1 with e1
    subst e1
    intro e
    rw [e, hB] at hh
    injection hh with hh
    injection hh with _ hh
    exact absurd hh (by decide)
theorem TO.put {lo hi : Nat} {w : World} {B k g : Nat} {ts : List (List Int)} {t : List Int} (h : TO lo hi w B ts k) (hx : ts[k]? = some t) (hO : OwnB w lo g t.length t.length t) (hg : g < hi) :
    TO lo hi (w.setCell ⟨B, k, none⟩ (.slice (some ⟨g, 0, none⟩) t.length t.length)) B ts (k + 1) := by
  obtain ⟨cur, h1, h2, h3⟩ := h.blk
  have hk : k < ts.length := (List.getElem?_eq_some_iff.1 hx).1
  have hkeep : ∀ (v : Value) (g n cap : Nat) (l : List Int), OwnB w lo g n cap l → OwnB (w.setCell ⟨B, k, none⟩ v) lo g n cap l := fun v g n cap l ho => by
    have hne := own_ne ho h1
    exact own_kept (h := B) ho ⟨rfl, rfl, rfl, by simp [World.setCell], fun i hi hn => by
      have : B ≠ i := fun e => hn (by rw [e])
      simp [World.setCell, Array.getElem?_modify, this]⟩ hne
  refine ⟨h.ge, h.lt, cur.setIfInBounds k (.slice (some ⟨g, 0, none⟩) t.length t.length), ?_, by simpa using h2, fun j u hu hj => ?_⟩
  · simp [World.setCell, h1, Array.getElem?_modify]
  · by_cases e : j = k
    · subst e
      rw [hx] at hu
      injection hu with hu
      subst hu
      exact ⟨g, hg, by simp [h2, hk], hkeep _ _ _ _ _ hO⟩
    · obtain ⟨g', g1, g2, g3⟩ := h3 j u hu (by omega)
      exact ⟨g', g1, by rw [Array.getElem?_setIfInBounds_ne (by omega)]; exact g2, hkeep _ _ _ _ _ g3⟩
theorem info22 : (Try.prog.info? 22).map (fun i => (i.zero, i.size, i.bytes)) = some (some (.slice none 0 0), 1, 24) := by kernel_rfl

theorem below_drw {w w1 : World} (h : Below w.heap.size w w1) : Below w.heap.size w w1.drew := h.drew
theorem keep2 {w w0 w1 : World} {a1 a2 : Addr} {v1 v2 : Value} (h : w0.cell? a1 = some v1 ∧ w0.cell? a2 = some v2 ∧ Below w.heap.size w w0) (hb : Below w0.heap.size w0 w1) : w1.cell? a1 = some v1 ∧ w1.cell? a2 = some v2 ∧ Below w.heap.size w w1 :=
  ⟨cell_later hb h.1, cell_later hb h.2.1, h.2.2.trans (hb.mono h.2.2.size)⟩
theorem keep2d {w w0 : World} {a1 a2 : Addr} {v1 v2 : Value} (h : w0.cell? a1 = some v1 ∧ w0.cell? a2 = some v2 ∧ Below w.heap.size w w0) : w0.drew.cell? a1 = some v1 ∧ w0.drew.cell? a2 = some v2 ∧ Below w.heap.size w w0.drew :=
  ⟨h.1, h.2.1, h.2.2.drew⟩
/-- all blocks but those from lo on and below hi stand -/
structure Rng (lo hi : Nat) (w w' : World) : Prop where
  os : w'.os = w.os
  tape : w'.tape = w.tape
  output : w'.output = w.output
  size : w.heap.size ≤ w'.heap.size
  block : ∀ k, k < w.heap.size → (k < lo ∨ hi ≤ k) → w'.heap[k]? = w.heap[k]?
theorem Rng.refl (lo hi : Nat) (w : World) : Rng lo hi w w := ⟨rfl, rfl, rfl, Nat.le_refl _, fun _ _ _ => rfl⟩
theorem Rng.more {lo hi g : Nat} {w w1 w2 : World} (h : Rng lo hi w w1) (k : w1.grownBy w2 (some g)) (h1 : lo ≤ g) (h2 : g < hi) : Rng lo hi w w2 :=
  ⟨k.os.trans h.os, k.tape.trans h.tape, k.output.trans h.output, Nat.le_trans h.size k.size, fun i hi' ho => (k.block i (Nat.lt_of_lt_of_le hi' h.size) (by intro e; injection e with e; omega)).trans (h.block i hi' ho)⟩
/-- rows that can be written -/
structure TW (lo hi : Nat) (w : World) (B : Nat) (ts : List (List Int)) : Prop where
  blk : ∃ cur : Array Value, w.heap[B]? = some (.cells cur 22 (0, 0)) ∧ cur.size = ts.length ∧ ∀ (j : Nat) (t : List Int), ts[j]? = some t → ∃ g, lo ≤ g ∧ g < hi ∧ cur[j]? = some (.slice (some ⟨g, 0, none⟩) t.length t.length) ∧ ∃ c, w.heap[g]? = some (.cells c 5 (0, 0)) ∧ c.size = t.length ∧ t.length ≤ maxLen
theorem TO.tw {lo hi : Nat} {w : World} {B : Nat} {ts : List (List Int)} (h : TO lo hi w B ts ts.length) : TW lo hi w B ts := by
  obtain ⟨cur, h1, h2, h3⟩ := h.blk
  refine ⟨cur, h1, h2, fun j t ht => ?_⟩
  obtain ⟨g, g1, g2, g3⟩ := h3 j t ht (List.getElem?_eq_some_iff.1 ht).1
  rcases g3.2 with ⟨hv, _⟩ | ⟨g', cap', cur', hv, hB, hh, _, hmx, hcs, _⟩
  · cases hv
  · injection hv with e1 e2 e3
    injection e1 with e1
    injection e1 with e1
    subst e1 e3
    exact ⟨g, hB, g1, g2, cur', hh, by simpa using hcs, hmx⟩
theorem row_own {lo g n : Nat} {w : World} {c : Array Value} (h : w.heap[g]? = some (.cells c 5 (0, 0))) (hc : c.size = n) (hm : n ≤ maxLen) (hg : lo ≤ g) : w.ownsRow lo 5 1 (.slice (some ⟨g, 0, none⟩) n n) n c.toList :=
  ⟨by simpa using hc, Or.inr ⟨g, n, c, rfl, hg, h, Nat.le_refl _, hm, by simpa using hc, by rw [List.take_of_length_le (by simp [hc])]⟩⟩
theorem TW.marked {lo hi : Nat} {w w1 : World} {B g n : Nat} {ts : List (List Int)} {ys : List Value} (h : TW lo hi w B ts) (hgr : w.grownBy w1 (some g)) (hg : ∃ c, w.heap[g]? = some (.cells c 5 (0, 0)) ∧ c.size = n) (hy : w1.ownsRow lo 5 1 (.slice (some ⟨g, 0, none⟩) n n) n ys) : TW lo hi w1 B ts := by
  obtain ⟨cur, h1, h2, h3⟩ := h.blk
  obtain ⟨c0, hc0, hn0⟩ := hg
  have hBg : B ≠ g := by
    intro e; rw [e, hc0] at h1; injection h1 with h1; injection h1 with _ h1; exact absurd h1 (by decide)
  refine ⟨cur, ?_, h2, fun j t ht => ?_⟩
  · rw [hgr.block B (Array.getElem?_eq_some_iff.1 h1).1 (by intro e; injection e with e; exact hBg e)]; exact h1
  · obtain ⟨g', a1, a2, a3, c, a4, a5, a6⟩ := h3 j t ht
    refine ⟨g', a1, a2, a3, ?_⟩
    by_cases e : g' = g
    · subst e
      rw [hc0] at a4
      injection a4 with a4
      injection a4 with a4
      subst a4
      rcases hy.2 with ⟨hv, _⟩ | ⟨g'', cap', cur', hv, hB, hh, _, hmx, hcs, _⟩
      · cases hv
      · injection hv with e1 e2 e3
        injection e1 with e1
        injection e1 with e1
        subst e1 e3
        exact ⟨cur', hh, by omega, a6⟩
    · exact ⟨c, by rw [hgr.block g' (Array.getElem?_eq_some_iff.1 a4).1 (by intro e2; injection e2 with e2; exact e e2)]; exact a4, a5, a6⟩

end Go.Proofs.Ytcgdcabmjihijaa.Bb
