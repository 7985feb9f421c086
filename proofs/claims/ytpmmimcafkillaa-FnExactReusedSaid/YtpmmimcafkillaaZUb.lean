/-
  The contract of the law's function that writes marks into a list of tasks: it writes into the list's own blocks alone.
  What the laws' lone functions answer, whatever the draws; rows with room behind.
-/
import Derived.Test.YtpmmimcafkillaaZJbP
import Derived.Deep.CutRange
import Derived.Deep.CutBlock
import Derived.Test.YtpmmimcafkillaaZUa
namespace Go.Proofs.Ytpmmimcafkillaa
open Go.RowKit
set_option linter.unusedVariables false
set_option linter.unusedSimpArgs false

/-- all blocks but those of X stand -/
structure Rnx (X : Nat → Prop) (w w' : World) : Prop where
  os : w'.os = w.os
  tape : w'.tape = w.tape
  output : w'.output = w.output
  size : w.heap.size ≤ w'.heap.size
  block : ∀ k, k < w.heap.size → ¬ X k → w'.heap[k]? = w.heap[k]?
theorem Rnx.refl (X : Nat → Prop) (w : World) : Rnx X w w := ⟨rfl, rfl, rfl, Nat.le_refl _, fun _ _ _ => rfl⟩
theorem Rnx.more {X : Nat → Prop} {g : Nat} {w w1 w2 : World} (h : Rnx X w w1) (k : w1.grownBy w2 (some g)) (hx : X g ∨ w2.heap[g]? = w1.heap[g]?) : Rnx X w w2 :=
  ⟨k.os.trans h.os, k.tape.trans h.tape, k.output.trans h.output, Nat.le_trans h.size k.size, fun i hi' ho => by
    by_cases e : i = g
    · subst e
      rcases hx with hx | hx
      · exact absurd hx ho
      · exact hx.trans (h.block i hi' ho)
    · exact (k.block i (Nat.lt_of_lt_of_le hi' h.size) (by intro e2; injection e2 with e2; exact e e2)).trans (h.block i hi' ho)⟩
theorem Rnx.set {X : Nat → Prop} {g i : Nat} {v : Value} {w w1 : World} (h : Rnx X w w1) (h1 : X g) : Rnx X w (w1.setCell ⟨g, i, none⟩ v) := h.more (grown_set (grown_refl _ _)) (.inl h1)
/-- tasks that can be written, with rows that can be -/
structure TX (lo : Nat) (X : Nat → Prop) (w : World) (B : Nat) (ts : List Tv) : Prop where
  ge : lo ≤ B
  lt : 0 < ts.length → X B
  blk : ∃ cur : Array Value, w.heap[B]? = some (.cells cur 33 (0, 0)) ∧ cur.size = ts.length * 4 ∧ ∀ (j : Nat) (t : Tv), ts[j]? = some t → ∃ g, lo ≤ g ∧ (0 < t.2.2.1.length → X g) ∧ cur[j * 4 + 2]? = some (.slice (some ⟨g, 0, none⟩) t.2.2.1.length t.2.2.1.length) ∧ ∃ c, w.heap[g]? = some (.cells c 2 (0, 0)) ∧ c.size = t.2.2.1.length ∧ t.2.2.1.length ≤ maxLen
theorem TO.tx {lo hi : Nat} {w : World} {B : Nat} {ts : List Tv} {X : Nat → Prop} (h : TO lo hi w B ts ts.length) (hB : 0 < ts.length → X B) (hX : ∀ g c, lo ≤ g → g < hi → w.heap[g]? = some (.cells c 2 (0, 0)) → 0 < c.size → X g) : TX lo X w B ts := by
  obtain ⟨cur, h1, h2, h3⟩ := h.blk
  refine ⟨h.ge, hB, cur, h1, h2, fun j t ht => ?_⟩
  obtain ⟨g, g1, _, _, g2, _, g3⟩ := h3 j t ht (List.getElem?_eq_some_iff.1 ht).1
  rcases g3.2 with ⟨hv, _⟩ | ⟨g', cap', cur', hv, hB', hh, _, hmx, hcs, _⟩
  · cases hv
  · injection hv with e1 e2 e3
    injection e1 with e1
    injection e1 with e1
    subst e1 e3
    exact ⟨g, hB', fun hn => hX g cur' hB' g1 hh (by have : cur'.size = t.2.2.1.length := by simpa using hcs
                                                     omega), g2, cur', hh, by simpa using hcs, hmx⟩
theorem TX.set {lo B i : Nat} {v : Value} {w : World} {ts : List Tv} {X : Nat → Prop} (h : TX lo X w B ts) (hi4 : i % 4 ≠ 2) : TX lo X (w.setCell ⟨B, i, none⟩ v) B ts := by
  obtain ⟨cur, h1, h2, h3⟩ := h.blk
  refine ⟨h.ge, h.lt, _, heap_set_at h1, by simpa using h2, fun j t ht => ?_⟩
  obtain ⟨g, a1, a2, a3, c, a4, a5, a6⟩ := h3 j t ht
  have hne : g ≠ B := by intro e; rw [e, h1] at a4; injection a4 with a4; injection a4 with _ a4; exact absurd a4 (by decide)
  exact ⟨g, a1, a2, by rw [Array.getElem?_setIfInBounds_ne (by omega)]; exact a3, c, by rw [heap_set_ne hne]; exact a4, a5, a6⟩
theorem row_ownX {lo g n : Nat} {w : World} {c : Array Value} (h : w.heap[g]? = some (.cells c 2 (0, 0))) (hc : c.size = n) (hm : n ≤ maxLen) (hg : lo ≤ g) : w.ownsRow lo 2 1 (.slice (some ⟨g, 0, none⟩) n n) n c.toList :=
  ⟨by simpa using hc, Or.inr ⟨g, n, c, rfl, hg, h, Nat.le_refl _, hm, by simpa using hc, by rw [List.take_of_length_le (by simp [hc])]⟩⟩
theorem TX.marked {lo : Nat} {X : Nat → Prop} {w w1 : World} {B g n : Nat} {ts : List Tv} {ys : List Value} (h : TX lo X w B ts) (hgr : w.grownBy w1 (some g)) (hg : ∃ c, w.heap[g]? = some (.cells c 2 (0, 0)) ∧ c.size = n) (hy : w1.ownsRow lo 2 1 (.slice (some ⟨g, 0, none⟩) n n) n ys) : TX lo X w1 B ts := by
  obtain ⟨cur, h1, h2, h3⟩ := h.blk
  obtain ⟨c0, hc0, hn0⟩ := hg
  have hBg : B ≠ g := by
    intro e; rw [e, hc0] at h1; injection h1 with h1; injection h1 with _ h1; exact absurd h1 (by decide)
  refine ⟨h.ge, h.lt, cur, ?_, h2, fun j t ht => ?_⟩
  · rw [hgr.block B (Array.getElem?_eq_some_iff.1 h1).1 (by intro e; injection e with e; exact hBg e)]; exact h1
  · obtain ⟨g', a1, a2, a3, c, a4, a5, a6⟩ := h3 j t ht
    refine ⟨g', a1, a2, a3, ?_⟩
    by_cases e : g' = g
    · subst e
      rw [hc0] at a4
      injection a4 with a4
      injection a4 with a4
      subst a4
      rcases hy.2 with ⟨hv, _⟩ | ⟨g'', cap', cur', hv, hB, hh, _, hmx, hcs, _⟩
      · cases hv
      · injection hv with e1 e2 e3
        injection e1 with e1
        injection e1 with e1
        subst e1 e3
        exact ⟨cur', hh, by omega, a6⟩
    · exact ⟨c, by rw [hgr.block g' (Array.getElem?_eq_some_iff.1 a4).1 (by intro e2; injection e2 with e2; exact e e2)]; exact a4, a5, a6⟩
theorem TX.cells {lo : Nat} {X : Nat → Prop} {w : World} {B k : Nat} {ts : List Tv} (h : TX lo X w B ts) (hk : k < ts.length) (i : Nat) (hi4 : i < 4) : ∃ v, w.cell? ⟨B, k * 4 + i, none⟩ = some v ∧ w.frozen? ⟨B, k * 4 + i, none⟩ = false := by
  obtain ⟨cur, h1, h2, h3⟩ := h.blk
  exact ⟨cur[k * 4 + i]'(by omega), by simp [World.cell?, h1, (by omega : k * 4 + i < cur.size)], by simp [World.frozen?, h1]⟩

set_option maxRecDepth 100000 in
set_option maxHeartbeats 3200000 in
theorem marktx_any (lo : Nat) (X : Nat → Prop) (B cap : Nat) (ts : List Tv) (w : World) (s0 : Int) (s1 : 1 ≤ s0) (s2 : s0 ≤ 20000000) (hl : ts.length + tot ts ≤ 1048576) (h : TX lo X w B ts) :
    Calls Try.prog 27 #[.slice (some ⟨B, 0, none⟩) ts.length cap, .int .i64 s0] w fun e w' => ∃ r, e = .returned (.int .i64 r) ∧ (1 ≤ r ∧ r ≤ s0 + 4000000) ∧ Rnx X w w' := by
  have h' := hide h
  have hge := h.ge
  have hlt0 := h.lt
  have htt : Hid (∀ k, tot (ts.take k) ≤ tot ts) := hide (tot_take ts)
  clear h
  go_enter Try.func27, Try.ntmps27
  go_wp2
  go_loopw [1, 5] (fun s t wr => ∃ (k : Nat) (q : Int), k ≤ ts.length ∧ t = .int .i64 k ∧ s = .int .i64 q ∧ 1 ≤ q ∧ q ≤ s0 + 4000000 ∧ Hid (q = s0 + 3 * k + tot (ts.take k)) ∧ Hid (TX lo X wr B ts) ∧ Hid (Rnx X w wr)) (fun _ t _ => ts.length - (intOf t).toNat)
  case atStart => exact ⟨0, s0, by omega, rfl, rfl, by omega, by omega, hide (by simp [tot]), h', hide (Rnx.refl _ _)⟩
  case round =>
    obtain ⟨k, q, hkl, rfl, rfl, q0, q1, hq, hT, hR⟩ := hrel
    by_cases hlt : k < ts.length
    · obtain ⟨t, hx⟩ : ∃ t, ts[k]? = some t := ⟨ts[k], List.getElem?_eq_getElem hlt⟩
      obtain ⟨v0, x0, f0⟩ := (unhide hT).cells hlt 0 (by omega)
      obtain ⟨v1, x1, f1⟩ := (unhide hT).cells hlt 1 (by omega)
      rw [Nat.add_zero] at x0 f0
      have hT2 := hide (TX.set (i := k * 4 + 1) (v := .int .i64 (q + 1)) (TX.set (i := k * 4) (v := .int .i64 q) (unhide hT) (by omega)) (by omega))
      have hR2 := hide (Rnx.set (i := k * 4 + 1) (v := .int .i64 (q + 1)) (Rnx.set (i := k * 4) (v := .int .i64 q) (unhide hR) (hlt0 (by omega))) (hlt0 (by omega)))
      have hsn := tot_snoc hx
      have hto := unhide htt (k + 1)
      have htl : t.2.2.1.length ≤ 1048576 := by omega
      have hqn : q + 3 + (t.2.2.1.length : Int) ≤ s0 + 4000000 := by have h5 := unhide hq; omega
      have hsn' := hide hsn
      have hx' := hide hx
      clear hx hsn hto hT hR
      go_upto_region 8 with fail
      generalize (wr.setCell ⟨B, k * 4, none⟩ (.int .i64 q)).setCell ⟨B, k * 4 + 1, none⟩ (.int .i64 (q + 1)) = w2 at *
      obtain ⟨cur, h1, h2, h3⟩ := (unhide hT2).blk
      obtain ⟨g, a1, a2, a3, c, a4, a5, a6⟩ := h3 k t (unhide hx')
      have hc : w2.cell? ⟨B, k * 4 + 2, none⟩ = some (.slice (some ⟨g, 0, none⟩) t.2.2.1.length t.2.2.1.length) := by simp [World.cell?, h1, a3]
      have hrow := hide (row_ownX a4 a5 a6 a1)
      have hgc := hide (show ∃ c, w2.heap[g]? = some (.cells c 2 (0, 0)) ∧ c.size = t.2.2.1.length from ⟨c, a4, a5⟩)
      clear h1 h2 h3 a3 a4 a5 x0 f0 x1 f1
      go_wp2_with fail
      refine (marki_any lo g t.2.2.1.length t.2.2.1.length _ _ _ (by omega) (by omega) (by omega) (unhide hrow)).mono ?_
      rintro e w3 ⟨rfl, ⟨ys, hy, _⟩, hgr⟩
      have hT3 := hide ((unhide hT2).marked hgr (unhide hgc) hy)
      have hR3 := hide ((unhide hR2).more hgr (by
        rcases Nat.eq_zero_or_pos t.2.2.1.length with hz | hz
        · right
          obtain ⟨c2, hc2, hs2⟩ := unhide hgc
          rcases hy.2 with ⟨hv, _⟩ | ⟨g', cap', cur', hv, _, hh, _, _, hcs, _⟩
          · cases hv
          · injection hv with e1 e2 e3
            injection e1 with e1
            injection e1 with e1
            subst e1 e3
            have h1 : c2 = #[] := Array.size_eq_zero_iff.1 (by omega)
            have h2 : cur' = #[] := Array.size_eq_zero_iff.1 (by omega)
            rw [hh, hc2, h1, h2]
        · exact .inl (a2 hz)))
      obtain ⟨v3, x3, f3⟩ := (unhide hT3).cells hlt 3 (by omega)
      clear hy hgr hT2 hR2 hc
      go_wp2
      go_roundw
      case rel => exact ⟨k + 1, q + 1 + 1 + t.2.2.1.length + 1, by omega, by go_num, by go_num, by omega, by omega, hide (by have h5 := unhide hq; have h6 := unhide hsn'; omega), hide (TX.set (unhide hT3) (by omega)), hide (Rnx.set (unhide hR3) (hlt0 (by omega)))⟩
      case measure => simp [intOf]; omega
    · have hke : k = ts.length := by omega
      have hke' := hide hke
      clear hke
      go_wp2
      go_ret
      exact ⟨q, rfl, ⟨by omega, by omega⟩, unhide hR⟩

end Go.Proofs.Ytpmmimcafkillaa

set_option linter.unusedVariables false
set_option linter.unusedSimpArgs false
namespace Go.Proofs.Ytpmmimcafkillaa.Tr
open Go Go.Conc Go.RowKit
open Go.Proofs.Ytpmmimcafkillaa.Br (BT BTS Hd Hid Pz Pst Shn Thr EvN bt_ctl bt_cons bt_skip bt_call bt_callB bt_enter CallsB rt AtEnd0)
open Go.Proofs.Ytpmmimcafkillaa.Rs (Rule outOf out_at out_len resR crR dtR hst gmx)
open Go.Proofs.Ytpmmimcafkillaa (Tv Tks Ins jobOk job_tok TOk job_short tot szts_any tots_any eqts_any tot_mem toi_any RSd TO TX OwnI Mkd eqi_any marki_any heldi_any marktx_any row_ownX ownsRow_below)
/-- below, as if neither tape nor clock had gone on -/
theorem bel_as {N : Nat} {w w1 : World} (h : BelL N w w1) : Below N w { w1 with tape := w.tape, os := w.os } := ⟨rfl, rfl, h.output, h.size, h.block⟩
theorem to_belL {lo hi k B : Nat} {ts : List Tv} {w w1 : World} (h : TO lo hi w B ts k) (hb : BelL w.heap.size w w1) : TO lo hi w1 B ts k :=
  let h' := h.later (bel_as hb)
  ⟨h'.ge, h'.lt, h'.blk⟩
theorem own_belL {B e m g n cap : Nat} {xs : List Value} {w w1 : World} (h : w.ownsRow B e m (.slice (some ⟨g, 0, none⟩) n cap) n xs) (hb : BelL w.heap.size w w1) : w1.ownsRow B e m (.slice (some ⟨g, 0, none⟩) n cap) n xs := by
  have h1 := ownsRow_below (w1 := { w1 with tape := w.tape, os := w.os }) h (bel_as hb)
  exact h1
/-- all blocks but those of X stand; of those none is empty -/
structure RngL (X : Nat → Prop) (w w' : World) : Prop where
  os : Later w.os w'.os
  output : w'.output = w.output
  size : w.heap.size ≤ w'.heap.size
  block : ∀ k, k < w.heap.size → ¬ X k → w'.heap[k]? = w.heap[k]?
  ne : ∀ k, X k → ¬ Pz w k
theorem RngL.rtt {X : Nat → Prop} {w w' : World} {T : Nat → Question → Nat} {d : Nat} (h : RngL X w w') : RngL X w (Br.rt T d w') := ⟨h.os, h.output, h.size, h.block, h.ne⟩
theorem RngL.pz {X : Nat → Prop} {w w' : World} (h : RngL X w w') : ∀ b, Pz w b → Pz w' b := fun b hb => by
  have hx : ¬ X b := fun hx => h.ne b hx hb
  obtain ⟨e, he⟩ := hb
  exact ⟨e, (h.block b (Array.getElem?_eq_some_iff.1 he).1 hx).trans he⟩
theorem RngL.belL {X : Nat → Prop} {w w' : World} (h : RngL X w w') {N : Nat} (hN : ∀ k, X k → N ≤ k) (hs : N ≤ w.heap.size) : BelL N w w' := ⟨h.os, h.output, h.size, fun k hk => h.block k (by omega) fun hx => by have := hN k hx; omega⟩
def RToX (w : World) (ts : List Tv) (v : Value) (w' : World) : Prop := ∃ B, v = .slice (some ⟨B, 0, none⟩) ts.length ts.length ∧ TO w.heap.size w'.heap.size w' B ts ts.length ∧ BelL w.heap.size w w'
theorem RToX.rt {w w' : World} {ts : List Tv} {v : Value} {T : Nat → Question → Nat} {d : Nat} (h : RToX w ts v w') : RToX w ts v (Br.rt T d w') := let ⟨r, h1, h2, h3⟩ := h; ⟨r, h1, ⟨h2.ge, h2.lt, h2.blk⟩, h3.rtt⟩
def RRow (w : World) (l : List Int) (v : Value) (w' : World) : Prop := ∃ B c, v = .slice (some ⟨B, 0, none⟩) l.length c ∧ Ins w' (some ⟨B, 0, none⟩) l ∧ BelL w.heap.size w w'
theorem RRow.rt {w w' : World} {l : List Int} {v : Value} {T : Nat → Question → Nat} {d : Nat} (h : RRow w l v w') : RRow w l v (Br.rt T d w') := let ⟨r, c, h1, h2, h3⟩ := h; ⟨r, c, h1, h2, h3.rtt⟩
def RMt (X : Nat → Prop) (s : Int) (w : World) (v : Value) (w' : World) : Prop := ∃ r, v = .int .i64 r ∧ (1 ≤ r ∧ r ≤ s + 4000000) ∧ RngL X w w'
theorem RMt.rt {X : Nat → Prop} {s : Int} {w w' : World} {v : Value} {T : Nat → Question → Nat} {d : Nat} (h : RMt X s w v w') : RMt X s w v (Br.rt T d w') := let ⟨r, h1, h2, h3⟩ := h; ⟨r, h1, h2, h3.rtt⟩
def RMi (B g n cap : Nat) (q : Int) (w : World) (v : Value) (w' : World) : Prop := v = .int .i64 (q + n) ∧ (∃ ys, w'.ownsRow B 2 1 (.slice (some ⟨g, 0, none⟩) n cap) n ys ∧ Mkd q n ys) ∧ RngL (fun k => k = g ∧ 0 < cap) w w'
theorem RMi.rt {B g n cap : Nat} {q : Int} {w w' : World} {v : Value} {T : Nat → Question → Nat} {d : Nat} (h : RMi B g n cap q w v w') : RMi B g n cap q w v (Br.rt T d w') := ⟨h.1, h.2.1, h.2.2.rtt⟩
def RToI (w : World) (l : List Int) (v : Value) (w' : World) : Prop := ∃ B, v = .slice (some ⟨B, 0, none⟩) l.length l.length ∧ w.heap.size ≤ B ∧ OwnI w' w.heap.size B l.length l.length l ∧ BelL w.heap.size w w'
theorem RToI.rt {w w' : World} {l : List Int} {v : Value} {T : Nat → Question → Nat} {d : Nat} (h : RToI w l v w') : RToI w l v (Br.rt T d w') := let ⟨r, h1, h0, h2, h3⟩ := h; ⟨r, h1, h0, h2, h3.rtt⟩
def RSs (s : Int) (w : World) (ts : List Tv) (v : Value) (w' : World) : Prop := ∃ r, v = .int .i64 r ∧ (r = -1 ∨ (0 ≤ r ∧ r = s - ts.length - tot ts)) ∧ BelL w.heap.size w w'
theorem RSs.rt {s : Int} {w w' : World} {ts : List Tv} {v : Value} {T : Nat → Question → Nat} {d : Nat} (h : RSs s w ts v w') : RSs s w ts v (Br.rt T d w') := let ⟨r, h1, h2, h3⟩ := h; ⟨r, h1, h2, h3.rtt⟩
theorem own_rng {X : Nat → Prop} {B e m g n cap : Nat} {xs : List Value} {w w1 : World} (h : w.ownsRow B e m (.slice (some ⟨g, 0, none⟩) n cap) n xs) (hb : RngL X w w1) (hg : ¬ X g) : w1.ownsRow B e m (.slice (some ⟨g, 0, none⟩) n cap) n xs := by
  obtain ⟨h1, h2⟩ := h
  refine ⟨h1, ?_⟩
  rcases h2 with h2 | ⟨g', cap', cur, hv, hB, hh, r⟩
  · exact Or.inl h2
  · refine Or.inr ⟨g', cap', cur, hv, hB, ?_, r⟩
    injection hv with e1
    injection e1 with e1
    injection e1 with e1
    subst e1
    exact (hb.block _ (Array.getElem?_eq_some_iff.1 hh).1 hg).trans hh
section
variable {ts : List Tv} {w : World} {a : Option Addr} {cap : Nat} {T : Nat → Question → Nat} {d : Nat}
theorem totsX_B (hl : ts.length ≤ 1048576) (hm : ∀ t ∈ ts, t.2.2.1.length ≤ 1048576) (hT : Tks w a ts) : Calls Try.prog 24 #[.slice a ts.length cap] (Br.rt T d w) fun e w' => ∃ v, e = .returned v ∧ RToX w ts v w' :=
  calls_imp (tots_any a cap ts (Br.rt T d w) hl hm hT) fun e w' ⟨B, h1, h2, h3⟩ => ⟨_, h1, B, rfl, h2, belL_any (w := w) h3⟩
theorem eqi_B {l : List Int} {b : Option Addr} {cb : Nat} (hl : l.length ≤ 1048576) (ha : Ins w a l) (hb : Ins w b l) : Calls Try.prog 25 #[.slice a l.length cap, .slice b l.length cb] (Br.rt T d w) fun e w' => ∃ v, e = .returned v ∧ RTr w v w' :=
  calls_imp (eqi_any a b cap cb l (Br.rt T d w) hl ha hb) fun e w' ⟨h1, h3⟩ => ⟨_, h1, rfl, belL_any (w := w) h3⟩
theorem markts_B {lo hi B : Nat} {s : Int} (s1 : 1 ≤ s) (s2 : s ≤ 20000000) (hl : ts.length + tot ts ≤ 1048576) (h : TO lo hi w B ts ts.length) : Calls Try.prog 27 #[.slice (some ⟨B, 0, none⟩) ts.length cap, .int .i64 s] (Br.rt T d w) fun e w' => ∃ v, e = .returned v ∧ RMt (fun k => lo ≤ k ∧ (k < hi ∧ ¬ Pz w k)) s w v w' := by
  have hx : TX lo (fun k => lo ≤ k ∧ (k < hi ∧ ¬ Pz w k)) (Br.rt T d w) B ts := by
    have h' : TX lo (fun k => lo ≤ k ∧ (k < hi ∧ ¬ Pz w k)) w B ts := h.tx (fun hn => ⟨h.ge, h.lt, fun ⟨e, he⟩ => by
      obtain ⟨cur, h1, h2, _⟩ := h.blk
      rw [h1] at he
      simp at he
      rw [he.1] at h2
      simp at h2
      omega⟩) (fun g c h1 h2 h3 h4 => ⟨h1, h2, fun ⟨e, he⟩ => by
      rw [h3] at he
      simp at he
      rw [he.1] at h4
      simp at h4⟩)
    exact ⟨h'.ge, h'.lt, h'.blk⟩
  exact calls_imp (marktx_any lo _ B cap ts (Br.rt T d w) s s1 s2 hl hx) fun e w' ⟨r, h1, h2, h3⟩ => ⟨_, h1, r, rfl, h2, ⟨by rw [h3.os]; exact .refl _, h3.output, h3.size, h3.block, fun k hk => hk.2.2⟩⟩
theorem own_curX {B n : Nat} {g : Nat} {xs : List Value} (h : w.ownsRow B 2 1 (.slice (some ⟨g, 0, none⟩) n cap) n xs) : ∃ cur : Array Value, w.heap[g]? = some (.cells cur 2 (0, 0)) ∧ cur.size = cap := by
  rcases h.2 with ⟨hv, _⟩ | ⟨g', cap', cur', hv, _, hh, _, _, hcs, _⟩
  · cases hv
  · injection hv with e1 e2 e3
    injection e1 with e1
    injection e1 with e1
    subst e1 e3
    exact ⟨cur', hh, by simpa using hcs⟩
theorem marki_B {B g n : Nat} {q : Int} {xs : List Value} (hn : n ≤ 10000000) (q0 : 0 ≤ q) (q1 : q ≤ 100000000) (h : w.ownsRow B 2 1 (.slice (some ⟨g, 0, none⟩) n cap) n xs) : Calls Try.prog 28 #[.slice (some ⟨g, 0, none⟩) n cap, .int .i64 q] (Br.rt T d w) fun e w' => ∃ v, e = .returned v ∧ RMi B g n cap q w v w' :=
  calls_imp (marki_any B g n cap q xs (Br.rt T d w) hn q0 q1 h) fun e w' ⟨h1, ⟨ys, h2, h2'⟩, h3⟩ => ⟨_, h1, rfl, ⟨ys, h2, h2'⟩, ⟨by rw [h3.os]; exact .refl _, h3.output, h3.size, fun k hk ho => by
    by_cases e : k = g
    · subst e
      obtain ⟨c1, hc1, s1⟩ := own_curX h
      obtain ⟨c2, hc2, s2⟩ := own_curX h2
      have hz : cap = 0 := Nat.eq_zero_of_not_pos fun hp => ho ⟨rfl, hp⟩
      have e1 : c1 = #[] := Array.size_eq_zero_iff.1 (by omega)
      have e2 : c2 = #[] := Array.size_eq_zero_iff.1 (by omega)
      rw [hc1, hc2, e1, e2]
    · exact h3.block k hk (by intro e2; injection e2 with e2; exact e e2), fun k ⟨hk, hp⟩ ⟨x, hx⟩ => by
      subst hk
      obtain ⟨c1, hc1, s1⟩ := own_curX h
      rw [hc1] at hx
      simp at hx
      rw [hx.1] at s1
      simp at s1
      omega⟩⟩
theorem toi_B {l : List Int} (hl : l.length ≤ 1048576) (hr : Ins w a l) : Calls Try.prog 32 #[.slice a l.length cap] (Br.rt T d w) fun e w' => ∃ v, e = .returned v ∧ RToI w l v w' :=
  calls_imp (toi_any a cap l (Br.rt T d w) hl hr) fun e w' ⟨B, h1, h2, h3, h4⟩ => ⟨_, h1, B, rfl, h2, h3, belL_any (w := w) h4⟩
theorem rsd_B {f : FuncId} {args : Array Value} {D : List Int} (h : Calls Try.prog f args (Br.rt T d w) (RSd (Br.rt T d w) D)) : Calls Try.prog f args (Br.rt T d w) fun e w' => ∃ v, e = .returned v ∧ RRow w D v w' :=
  calls_imp h fun e w' ⟨B, c, h1, h2, h3⟩ => ⟨_, h1, B, c, rfl, h2, belL_any (w := w) h3⟩
theorem szs_B {s : Int} (s1 : 0 ≤ s) (s2 : s ≤ 1048576) (hl : ts.length ≤ maxLen) (hT : Tks w a ts) : Calls Try.prog 23 #[.slice a ts.length cap, .int .i64 s] (Br.rt T d w) fun e w' => ∃ v, e = .returned v ∧ RSs s w ts v w' :=
  calls_imp (szts_any a cap ts (Br.rt T d w) hl hT s s1 s2) fun e w' ⟨r, h1, h2, h3⟩ => ⟨_, h1, r, rfl, h2, belL_any (w := w) h3⟩
theorem heldi_B {B g n : Nat} {q : Int} {xs : List Value} (hn : n ≤ 10000000) (q0 : 0 ≤ q) (q1 : q ≤ 100000000) (h : w.ownsRow B 2 1 (.slice (some ⟨g, 0, none⟩) n cap) n xs) (hm : Mkd q n xs) : Calls Try.prog 29 #[.slice (some ⟨g, 0, none⟩) n cap, .int .i64 q] (Br.rt T d w) fun e w' => ∃ v, e = .returned v ∧ PInt w (q + n) v w' :=
  calls_imp (heldi_any B g n cap q xs (Br.rt T d w) hn q0 q1 h hm) fun e w' ⟨h1, h2⟩ => ⟨_, h1, rfl, by rw [h2]; exact belL_any (w := w) (Below.refl _ _)⟩
end
theorem zF25 : Zg.F 25 = true := by kernel_rfl
theorem zF27 : Zg.F 27 = true := by kernel_rfl
theorem zF28 : Zg.F 28 = true := by kernel_rfl
theorem zF29 : Zg.F 29 = true := by kernel_rfl
theorem zF32 : Zg.F 32 = true := by kernel_rfl
/-- the answer: a list in new memory, of which more may be set aside -/
def RDtB (w : World) (l : List Int) (v : Value) (w' : World) : Prop := ∃ g c, v = .slice (some ⟨g, 0, none⟩) l.length c ∧ OwnI w' w.heap.size g l.length c l ∧ BelL w.heap.size w w'
theorem RDtB.rt {w w' : World} {l : List Int} {v : Value} {T : Nat → Question → Nat} {d : Nat} (h : RDtB w l v w') : RDtB w l v (Br.rt T d w') := let ⟨g, c, h1, h2, h3⟩ := h; ⟨g, c, h1, h2, ⟨h3.os, h3.output, h3.size, h3.block⟩⟩
end Go.Proofs.Ytpmmimcafkillaa.Tr
