/-
  The contract of the law's function that writes marks into a list of tasks: it writes into the list's own blocks alone.
-/
import Derived.Test.YtpmmimcafkillaaZJbP
import Derived.Deep.CutRange
import Derived.Deep.CutBlock
namespace Go.Proofs.Ytpmmimcafkillaa
open Go.RowKit
set_option linter.unusedVariables false
set_option linter.unusedSimpArgs false

/-- all blocks but those of X stand -/
structure Rnx (X : Nat → Prop) (w w' : World) : Prop where
  os : w'.os = w.os
  tape : w'.tape = w.tape
  output : w'.output = w.output
  size : w.heap.size ≤ w'.heap.size
  block : ∀ k, k < w.heap.size → ¬ X k → w'.heap[k]? = w.heap[k]?
theorem Rnx.refl (X : Nat → Prop) (w : World) : Rnx X w w := ⟨rfl, rfl, rfl, Nat.le_refl _, fun _ _ _ => rfl⟩
theorem Rnx.more {X : Nat → Prop} {g : Nat} {w w1 w2 : World} (h : Rnx X w w1) (k : w1.grownBy w2 (some g)) (hx : X g ∨ w2.heap[g]? = w1.heap[g]?) : Rnx X w w2 :=
  ⟨k.os.trans h.os, k.tape.trans h.tape, k.output.trans h.output, Nat.le_trans h.size k.size, fun i hi' ho => by
    by_cases e : i = g
    · subst e
      rcases hx with hx | hx
      · exact absurd hx ho
      · exact hx.trans (h.block i hi' ho)
    · exact (k.block i (Nat.lt_of_lt_of_le hi' h.size) (by intro e2; injection e2 with e2; exact e e2)).trans (h.block i hi' ho)⟩
theorem Rnx.set {X : Nat → Prop} {g i : Nat} {v : Value} {w w1 : World} (h : Rnx X w w1) (h1 : X g) : Rnx X w (w1.setCell ⟨g, i, none⟩ v) := h.more (grown_set (grown_refl _ _)) (.inl h1)
/-- tasks that can be written, with rows that can be -/
structure TX (lo : Nat) (X : Nat → Prop) (w : World) (B : Nat) (ts : List Tv) : Prop where
  ge : lo ≤ B
  lt : 0 < ts.length → X B
  blk : ∃ cur : Array Value, w.heap[B]? = some (.cells cur 33 (0, 0)) ∧ cur.size = ts.length * 4 ∧ ∀ (j : Nat) (t : Tv), ts[j]? = some t → ∃ g, lo ≤ g ∧ (0 < t.2.2.1.length → X g) ∧ cur[j * 4 + 2]? = some (.slice (some ⟨g, 0, none⟩) t.2.2.1.length t.2.2.1.length) ∧ ∃ c, w.heap[g]? = some (.cells c 2 (0, 0)) ∧ c.size = t.2.2.1.length ∧ t.2.2.1.length ≤ maxLen
theorem TO.tx {lo hi : Nat} {w : World} {B : Nat} {ts : List Tv} {X : Nat → Prop} (h : TO lo hi w B ts ts.length) (hB : 0 < ts.length → X B) (hX : ∀ g c, lo ≤ g → g < hi → w.heap[g]? = some (.cells c 2 (0, 0)) → 0 < c.size → X g) : TX lo X w B ts := by
  obtain ⟨cur, h1, h2, h3⟩ := h.blk
  refine ⟨h.ge, hB, cur, h1, h2, fun j t ht => ?_⟩
  obtain ⟨g, g1, _, _, g2, _, g3⟩ := h3 j t ht (List.getElem?_eq_some_iff.1 ht).1
  rcases g3.2 with ⟨hv, _⟩ | ⟨g', cap', cur', hv, hB', hh, _, hmx, hcs, _⟩
  · cases hv
  · injection hv with e1 e2 e3
    injection e1 with e1
    injection e1 with e1
    subst e1 e3
    exact ⟨g, hB', fun hn => hX g cur' hB' g1 hh (by have : cur'.size = t.2.2.1.length := by simpa using hcs
                                                     omega), g2, cur', hh, by simpa using hcs, hmx⟩
theorem TX.set {lo B i : Nat} {v : Value} {w : World} {ts : List Tv} {X : Nat → Prop} (h : TX lo X w B ts) (hi4 : i % 4 ≠ 2) : TX lo X (w.setCell ⟨B, i, none⟩ v) B ts := by
  obtain ⟨cur, h1, h2, h3⟩ := h.blk
  refine ⟨h.ge, h.lt, _, heap_set_at h1, by simpa using h2, fun j t ht => ?_⟩
  obtain ⟨g, a1, a2, a3, c, a4, a5, a6⟩ := h3 j t ht
  have hne : g ≠ B := by intro e; rw [e, h1] at a4; injection a4 with a4; injection a4 with _ a4; exact absurd a4 (by decide)
  exact ⟨g, a1, a2, by rw [Array.getElem?_setIfInBounds_ne (by omega)]; exact a3, c, by rw [heap_set_ne hne]; exact a4, a5, a6⟩
theorem row_ownX {lo g n : Nat} {w : World} {c : Array Value} (h : w.heap[g]? = some (.cells c 2 (0, 0))) (hc : c.size = n) (hm : n ≤ maxLen) (hg : lo ≤ g) : w.ownsRow lo 2 1 (.slice (some ⟨g, 0, none⟩) n n) n c.toList :=
  ⟨by simpa using hc, Or.inr ⟨g, n, c, rfl, hg, h, Nat.le_refl _, hm, by simpa using hc, by rw [List.take_of_length_le (by simp [hc])]⟩⟩
theorem TX.marked {lo : Nat} {X : Nat → Prop} {w w1 : World} {B g n : Nat} {ts : List Tv} {ys : List Value} (h : TX lo X w B ts) (hgr : w.grownBy w1 (some g)) (hg : ∃ c, w.heap[g]? = some (.cells c 2 (0, 0)) ∧ c.size = n) (hy : w1.ownsRow lo 2 1 (.slice (some ⟨g, 0, none⟩) n n) n ys) : TX lo X w1 B ts := by
  obtain ⟨cur, h1, h2, h3⟩ := h.blk
  obtain ⟨c0, hc0, hn0⟩ := hg
  have hBg : B ≠ g := by
    intro e; rw [e, hc0] at h1; injection h1 with h1; injection h1 with _ h1; exact absurd h1 (by decide)
  refine ⟨h.ge, h.lt, cur, ?_, h2, fun j t ht => ?_⟩
  · rw [hgr.block B (Array.getElem?_eq_some_iff.1 h1).1 (by intro e; injection e with e; exact hBg e)]; exact h1
  · obtain ⟨g', a1, a2, a3, c, a4, a5, a6⟩ := h3 j t ht
    refine ⟨g', a1, a2, a3, ?_⟩
    by_cases e : g' = g
    · subst e
      rw [hc0] at a4
      injection a4 with a4
      injection a4 with a4
      subst a4
      rcases hy.2 with ⟨hv, _⟩ | ⟨g'', cap', cur', hv, hB, hh, _, hmx, hcs, _⟩
      · cases hv
      · injection hv with e1 e2 e3
        injection e1 with e1
        injection e1 with e1
        subst e1 e3
        exact ⟨cur', hh, by omega, a6⟩
    · exact ⟨c, by rw [hgr.block g' (Array.getElem?_eq_some_iff.1 a4).1 (by intro e2; injection e2 with e2; exact e e2)]; exact a4, a5, a6⟩
theorem TX.cells {lo : Nat} {X : Nat → Prop} {w : World} {B k : Nat} {ts : List Tv} (h : TX lo X w B ts) (hk : k < ts.length) (i : Nat) (hi4 : i < 4) : ∃ v, w.cell? ⟨B, k * 4 + i, none⟩ = some v ∧ w.frozen? ⟨B, k * 4 + i, none⟩ = false := by
  obtain ⟨cur, h1, h2, h3⟩ := h.blk
  exact ⟨cur[k * 4 + i]'(by omega), by simp [World.cell?, h1, (by omega : k * 4 + i < cur.size)], by simp [World.frozen?, h1]⟩

set_option maxRecDepth 100000 in
set_option maxHeartbeats 3200000 in
theorem marktx_any (lo : Nat) (X : Nat → Prop) (B cap : Nat) (ts : List Tv) (w : World) (hl : ts.length + tot ts ≤ 1048576) (h : TX lo X w B ts) :
    Calls Try.prog 27 #[.slice (some ⟨B, 0, none⟩) ts.length cap, .int .i64 1] w fun e w' => ∃ r, e = .returned (.int .i64 r) ∧ 0 ≤ r ∧ Rnx X w w' := by
  have h' := hide h
  have hge := h.ge
  have hlt0 := h.lt
  have htt : Hid (∀ k, tot (ts.take k) ≤ tot ts) := hide (tot_take ts)
  clear h
  go_enter Try.func27, Try.ntmps27
  go_wp2
  go_loopw [1, 5] (fun s t wr => ∃ (k : Nat) (q : Int), k ≤ ts.length ∧ t = .int .i64 k ∧ s = .int .i64 q ∧ 1 ≤ q ∧ q ≤ 8000000 ∧ Hid (q = 1 + 3 * k + tot (ts.take k)) ∧ Hid (TX lo X wr B ts) ∧ Hid (Rnx X w wr)) (fun _ t _ => ts.length - (intOf t).toNat)
  case atStart => exact ⟨0, 1, by omega, rfl, rfl, by omega, by omega, hide (by simp [tot]), h', hide (Rnx.refl _ _)⟩
  case round =>
    obtain ⟨k, q, hkl, rfl, rfl, q0, q1, hq, hT, hR⟩ := hrel
    by_cases hlt : k < ts.length
    · obtain ⟨t, hx⟩ : ∃ t, ts[k]? = some t := ⟨ts[k], List.getElem?_eq_getElem hlt⟩
      obtain ⟨v0, x0, f0⟩ := (unhide hT).cells hlt 0 (by omega)
      obtain ⟨v1, x1, f1⟩ := (unhide hT).cells hlt 1 (by omega)
      rw [Nat.add_zero] at x0 f0
      have hT2 := hide (TX.set (i := k * 4 + 1) (v := .int .i64 (q + 1)) (TX.set (i := k * 4) (v := .int .i64 q) (unhide hT) (by omega)) (by omega))
      have hR2 := hide (Rnx.set (i := k * 4 + 1) (v := .int .i64 (q + 1)) (Rnx.set (i := k * 4) (v := .int .i64 q) (unhide hR) (hlt0 (by omega))) (hlt0 (by omega)))
      have hsn := tot_snoc hx
      have hto := unhide htt (k + 1)
      have htl : t.2.2.1.length ≤ 1048576 := by omega
      have hqn : q + 3 + (t.2.2.1.length : Int) ≤ 8000000 := by have h5 := unhide hq; omega
      have hsn' := hide hsn
      have hx' := hide hx
      clear hx hsn hto hT hR
      go_upto_region 8 with fail
      generalize (wr.setCell ⟨B, k * 4, none⟩ (.int .i64 q)).setCell ⟨B, k * 4 + 1, none⟩ (.int .i64 (q + 1)) = w2 at *
      obtain ⟨cur, h1, h2, h3⟩ := (unhide hT2).blk
      obtain ⟨g, a1, a2, a3, c, a4, a5, a6⟩ := h3 k t (unhide hx')
      have hc : w2.cell? ⟨B, k * 4 + 2, none⟩ = some (.slice (some ⟨g, 0, none⟩) t.2.2.1.length t.2.2.1.length) := by simp [World.cell?, h1, a3]
      have hrow := hide (row_ownX a4 a5 a6 a1)
      have hgc := hide (show ∃ c, w2.heap[g]? = some (.cells c 2 (0, 0)) ∧ c.size = t.2.2.1.length from ⟨c, a4, a5⟩)
      clear h1 h2 h3 a3 a4 a5 x0 f0 x1 f1
      go_wp2_with fail
      refine (marki_any lo g t.2.2.1.length t.2.2.1.length _ _ _ (by omega) (by omega) (by omega) (unhide hrow)).mono ?_
      rintro e w3 ⟨rfl, ⟨ys, hy, _⟩, hgr⟩
      have hT3 := hide ((unhide hT2).marked hgr (unhide hgc) hy)
      have hR3 := hide ((unhide hR2).more hgr (by
        rcases Nat.eq_zero_or_pos t.2.2.1.length with hz | hz
        · right
          obtain ⟨c2, hc2, hs2⟩ := unhide hgc
          rcases hy.2 with ⟨hv, _⟩ | ⟨g', cap', cur', hv, _, hh, _, _, hcs, _⟩
          · cases hv
          · injection hv with e1 e2 e3
            injection e1 with e1
            injection e1 with e1
            subst e1 e3
            have h1 : c2 = #[] := Array.size_eq_zero_iff.1 (by omega)
            have h2 : cur' = #[] := Array.size_eq_zero_iff.1 (by omega)
            rw [hh, hc2, h1, h2]
        · exact .inl (a2 hz)))
      obtain ⟨v3, x3, f3⟩ := (unhide hT3).cells hlt 3 (by omega)
      clear hy hgr hT2 hR2 hc
      go_wp2
      go_roundw
      case rel => exact ⟨k + 1, q + 1 + 1 + t.2.2.1.length + 1, by omega, by go_num, by go_num, by omega, by omega, hide (by have h5 := unhide hq; have h6 := unhide hsn'; omega), hide (TX.set (unhide hT3) (by omega)), hide (Rnx.set (unhide hR3) (hlt0 (by omega)))⟩
      case measure => simp [intOf]; omega
    · have hke : k = ts.length := by omega
      have hke' := hide hke
      clear hke
      go_wp2
      go_ret
      exact ⟨q, rfl, by omega, unhide hR⟩

end Go.Proofs.Ytpmmimcafkillaa
