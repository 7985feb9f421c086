/-
  The contract of the law's function that writes marks into a list of tasks: it writes into the list's own blocks alone.
  What the laws' lone functions answer, whatever the draws; rows with room behind.
-/
import Derived.Test.YtpmmimcafkillaaZJbP
import Derived.Deep.CutRange
import Derived.Deep.CutBlock
import Derived.Test.YtpmmimcafkillaaZUe
namespace Go.Proofs.Ytpmmimcafkillaa
open Go.RowKit
set_option linter.unusedVariables false
set_option linter.unusedSimpArgs false

/-- all blocks but those of X stand -/
structure Rnx (X : Nat → Prop) (w w' : World) : Prop where
  os : w'.os = w.os
  tape : w'.tape = w.tape
  output : w'.output = w.output
  size : w.heap.size ≤ w'.heap.size
  block : ∀ k, k < w.heap.size → ¬ X k → w'.heap[k]? = w.heap[k]?
theorem Rnx.refl (X : Nat → Prop) (w : World) : Rnx X w w := ⟨rfl, rfl, rfl, Nat.le_refl _, fun _ _ _ => rfl⟩
theorem Rnx.more {X : Nat → Prop} {g : Nat} {w w1 w2 : World} (h : Rnx X w w1) (k : w1.grownBy w2 (some g)) (hx : X g ∨ w2.heap[g]? = w1.heap[g]?) : Rnx X w w2 :=
  ⟨k.os.trans h.os, k.tape.trans h.tape, k.output.trans h.output, Nat.le_trans h.size k.size, fun i hi' ho => by
    by_cases e : i = g
    · subst e
      rcases hx with hx | hx
      · exact absurd hx ho
      · exact hx.trans (h.block i hi' ho)
    · exact (k.block i (Nat.lt_of_lt_of_le hi' h.size) (by intro e2; injection e2 with e2; exact e e2)).trans (h.block i hi' ho)⟩
theorem Rnx.set {X : Nat → Prop} {g i : Nat} {v : Value} {w w1 : World} (h : Rnx X w w1) (h1 : X g) : Rnx X w (w1.setCell ⟨g, i, none⟩ v) := h.more (grown_set (grown_refl _ _)) (.inl h1)
/-- tasks that can be written, with rows that can be -/
structure TX (lo : Nat) (X : Nat → Prop) (w : World) (B : Nat) (ts : List Tv) : Prop where
  ge : lo ≤ B
  lt : 0 < ts.length → X B
  blk : ∃ cur : Array Value, w.heap[B]? = some (.cells cur 33 (0, 0)) ∧ cur.size = ts.length * 4 ∧ ∀ (j : Nat) (t : Tv), ts[j]? = some t → ∃ g, lo ≤ g ∧ (0 < t.2.2.1.length → X g) ∧ cur[j * 4 + 2]? = some (.slice (some ⟨g, 0, none⟩) t.2.2.1.length t.2.2.1.length) ∧ ∃ c, w.heap[g]? = some (.cells c 2 (0, 0)) ∧ c.size = t.2.2.1.length ∧ t.2.2.1.length ≤ maxLen
theorem TX.set {lo B i : Nat} {v : Value} {w : World} {ts : List Tv} {X : Nat → Prop} (h : TX lo X w B ts) (hi4 : i % 4 ≠ 2) : TX lo X (w.setCell ⟨B, i, none⟩ v) B ts := by
  obtain ⟨cur, h1, h2, h3⟩ := h.blk
  refine ⟨h.ge, h.lt, _, heap_set_at h1, by simpa using h2, fun j t ht => ?_⟩
  obtain ⟨g, a1, a2, a3, c, a4, a5, a6⟩ := h3 j t ht
  have hne : g ≠ B := by intro e; rw [e, h1] at a4; injection a4 with a4; injection a4 with _ a4; exact absurd a4 (by decide)
  exact ⟨g, a1, a2, by rw [Array.getElem?_setIfInBounds_ne (by omega)]; exact a3, c, by rw [heap_set_ne hne]; exact a4, a5, a6⟩
theorem row_ownX {lo g n : Nat} {w : World} {c : Array Value} (h : w.heap[g]? = some (.cells c 2 (0, 0))) (hc : c.size = n) (hm : n ≤ maxLen) (hg : lo ≤ g) : w.ownsRow lo 2 1 (.slice (some ⟨g, 0, none⟩) n n) n c.toList :=
  ⟨by simpa using hc, Or.inr ⟨g, n, c, rfl, hg, h, Nat.le_refl _, hm, by simpa using hc, by rw [List.take_of_length_le (by simp [hc])]⟩⟩
theorem TX.marked {lo : Nat} {X : Nat → Prop} {w w1 : World} {B g n : Nat} {ts : List Tv} {ys : List Value} (h : TX lo X w B ts) (hgr : w.grownBy w1 (some g)) (hg : ∃ c, w.heap[g]? = some (.cells c 2 (0, 0)) ∧ c.size = n) (hy : w1.ownsRow lo 2 1 (.slice (some ⟨g, 0, none⟩) n n) n ys) : TX lo X w1 B ts := by
  obtain ⟨cur, h1, h2, h3⟩ := h.blk
  obtain ⟨c0, hc0, hn0⟩ := hg
  have hBg : B ≠ g := by
    intro e; rw [e, hc0] at h1; injection h1 with h1; injection h1 with _ h1; exact absurd h1 (by decide)
  refine ⟨h.ge, h.lt, cur, ?_, h2, fun j t ht => ?_⟩
  · rw [hgr.block B (Array.getElem?_eq_some_iff.1 h1).1 (by intro e; injection e with e; exact hBg e)]; exact h1
  · obtain ⟨g', a1, a2, a3, c, a4, a5, a6⟩ := h3 j t ht
    refine ⟨g', a1, a2, a3, ?_⟩
    by_cases e : g' = g
    · subst e
      rw [hc0] at a4
      injection a4 with a4
      injection a4 with a4
      subst a4
      rcases hy.2 with ⟨hv, _⟩ | ⟨g'', cap', cur', hv, hB, hh, _, hmx, hcs, _⟩
      · cases hv
      · injection hv with e1 e2 e3
        injection e1 with e1
        injection e1 with e1
        subst e1 e3
        exact ⟨cur', hh, by omega, a6⟩
    · exact ⟨c, by rw [hgr.block g' (Array.getElem?_eq_some_iff.1 a4).1 (by intro e2; injection e2 with e2; exact e e2)]; exact a4, a5, a6⟩
theorem TX.cells {lo : Nat} {X : Nat → Prop} {w : World} {B k : Nat} {ts : List Tv} (h : TX lo X w B ts) (hk : k < ts.length) (i : Nat) (hi4 : i < 4) : ∃ v, w.cell? ⟨B, k * 4 + i, none⟩ = some v ∧ w.frozen? ⟨B, k * 4 + i, none⟩ = false := by
  obtain ⟨cur, h1, h2, h3⟩ := h.blk
  exact ⟨cur[k * 4 + i]'(by omega), by simp [World.cell?, h1, (by omega : k * 4 + i < cur.size)], by simp [World.frozen?, h1]⟩

end Go.Proofs.Ytpmmimcafkillaa

set_option linter.unusedVariables false
set_option linter.unusedSimpArgs false
namespace Go.Proofs.Ytpmmimcafkillaa.Tr
open Go Go.Conc Go.RowKit
open Go.Proofs.Ytpmmimcafkillaa.Br (BT BTS Hd Hid Pz Pst Shn Thr EvN bt_ctl bt_cons bt_skip bt_call bt_callB bt_enter CallsB rt AtEnd0)
open Go.Proofs.Ytpmmimcafkillaa.Rs (Rule outOf out_at out_len resR dtR hst)
open Go.Proofs.Ytpmmimcafkillaa (Tv Tks Ins jobOk job_tok TOk job_short tot RSd TO TX OwnI Mkd row_ownX ownsRow_below)
/-- below, as if neither tape nor clock had gone on -/
theorem bel_as {N : Nat} {w w1 : World} (h : BelL N w w1) : Below N w { w1 with tape := w.tape, os := w.os } := ⟨rfl, rfl, h.output, h.size, h.block⟩
theorem own_belL {B e m g n cap : Nat} {xs : List Value} {w w1 : World} (h : w.ownsRow B e m (.slice (some ⟨g, 0, none⟩) n cap) n xs) (hb : BelL w.heap.size w w1) : w1.ownsRow B e m (.slice (some ⟨g, 0, none⟩) n cap) n xs := by
  have h1 := ownsRow_below (w1 := { w1 with tape := w.tape, os := w.os }) h (bel_as hb)
  exact h1
/-- all blocks but those of X stand; of those none is empty -/
structure RngL (X : Nat → Prop) (w w' : World) : Prop where
  os : Later w.os w'.os
  output : w'.output = w.output
  size : w.heap.size ≤ w'.heap.size
  block : ∀ k, k < w.heap.size → ¬ X k → w'.heap[k]? = w.heap[k]?
  ne : ∀ k, X k → ¬ Pz w k
theorem RngL.rtt {X : Nat → Prop} {w w' : World} {T : Nat → Question → Nat} {d : Nat} (h : RngL X w w') : RngL X w (Br.rt T d w') := ⟨h.os, h.output, h.size, h.block, h.ne⟩
theorem RngL.pz {X : Nat → Prop} {w w' : World} (h : RngL X w w') : ∀ b, Pz w b → Pz w' b := fun b hb => by
  have hx : ¬ X b := fun hx => h.ne b hx hb
  obtain ⟨e, he⟩ := hb
  exact ⟨e, (h.block b (Array.getElem?_eq_some_iff.1 he).1 hx).trans he⟩
def RToX (w : World) (ts : List Tv) (v : Value) (w' : World) : Prop := ∃ B, v = .slice (some ⟨B, 0, none⟩) ts.length ts.length ∧ TO w.heap.size w'.heap.size w' B ts ts.length ∧ BelL w.heap.size w w'
theorem RToX.rt {w w' : World} {ts : List Tv} {v : Value} {T : Nat → Question → Nat} {d : Nat} (h : RToX w ts v w') : RToX w ts v (Br.rt T d w') := let ⟨r, h1, h2, h3⟩ := h; ⟨r, h1, ⟨h2.ge, h2.lt, h2.blk⟩, h3.rtt⟩
def RRow (w : World) (l : List Int) (v : Value) (w' : World) : Prop := ∃ B c, v = .slice (some ⟨B, 0, none⟩) l.length c ∧ Ins w' (some ⟨B, 0, none⟩) l ∧ BelL w.heap.size w w'
theorem RRow.rt {w w' : World} {l : List Int} {v : Value} {T : Nat → Question → Nat} {d : Nat} (h : RRow w l v w') : RRow w l v (Br.rt T d w') := let ⟨r, c, h1, h2, h3⟩ := h; ⟨r, c, h1, h2, h3.rtt⟩
def RMt (X : Nat → Prop) (s : Int) (w : World) (v : Value) (w' : World) : Prop := ∃ r, v = .int .i64 r ∧ (1 ≤ r ∧ r ≤ s + 4000000) ∧ RngL X w w'
theorem RMt.rt {X : Nat → Prop} {s : Int} {w w' : World} {v : Value} {T : Nat → Question → Nat} {d : Nat} (h : RMt X s w v w') : RMt X s w v (Br.rt T d w') := let ⟨r, h1, h2, h3⟩ := h; ⟨r, h1, h2, h3.rtt⟩
def RMi (B g n cap : Nat) (q : Int) (w : World) (v : Value) (w' : World) : Prop := v = .int .i64 (q + n) ∧ (∃ ys, w'.ownsRow B 2 1 (.slice (some ⟨g, 0, none⟩) n cap) n ys ∧ Mkd q n ys) ∧ RngL (fun k => k = g ∧ 0 < cap) w w'
theorem RMi.rt {B g n cap : Nat} {q : Int} {w w' : World} {v : Value} {T : Nat → Question → Nat} {d : Nat} (h : RMi B g n cap q w v w') : RMi B g n cap q w v (Br.rt T d w') := ⟨h.1, h.2.1, h.2.2.rtt⟩
def RToI (w : World) (l : List Int) (v : Value) (w' : World) : Prop := ∃ B, v = .slice (some ⟨B, 0, none⟩) l.length l.length ∧ w.heap.size ≤ B ∧ OwnI w' w.heap.size B l.length l.length l ∧ BelL w.heap.size w w'
theorem RToI.rt {w w' : World} {l : List Int} {v : Value} {T : Nat → Question → Nat} {d : Nat} (h : RToI w l v w') : RToI w l v (Br.rt T d w') := let ⟨r, h1, h0, h2, h3⟩ := h; ⟨r, h1, h0, h2, h3.rtt⟩
def RSs (s : Int) (w : World) (ts : List Tv) (v : Value) (w' : World) : Prop := ∃ r, v = .int .i64 r ∧ (r = -1 ∨ (0 ≤ r ∧ r = s - ts.length - tot ts)) ∧ BelL w.heap.size w w'
theorem RSs.rt {s : Int} {w w' : World} {ts : List Tv} {v : Value} {T : Nat → Question → Nat} {d : Nat} (h : RSs s w ts v w') : RSs s w ts v (Br.rt T d w') := let ⟨r, h1, h2, h3⟩ := h; ⟨r, h1, h2, h3.rtt⟩
section
variable {ts : List Tv} {w : World} {a : Option Addr} {cap : Nat} {T : Nat → Question → Nat} {d : Nat}
theorem own_curX {B n : Nat} {g : Nat} {xs : List Value} (h : w.ownsRow B 2 1 (.slice (some ⟨g, 0, none⟩) n cap) n xs) : ∃ cur : Array Value, w.heap[g]? = some (.cells cur 2 (0, 0)) ∧ cur.size = cap := by
  rcases h.2 with ⟨hv, _⟩ | ⟨g', cap', cur', hv, _, hh, _, _, hcs, _⟩
  · cases hv
  · injection hv with e1 e2 e3
    injection e1 with e1
    injection e1 with e1
    subst e1 e3
    exact ⟨cur', hh, by simpa using hcs⟩
end
/-- the answer: a list in new memory, of which more may be set aside -/
def RDtB (w : World) (l : List Int) (v : Value) (w' : World) : Prop := ∃ g c, v = .slice (some ⟨g, 0, none⟩) l.length c ∧ OwnI w' w.heap.size g l.length c l ∧ BelL w.heap.size w w'
theorem RDtB.rt {w w' : World} {l : List Int} {v : Value} {T : Nat → Question → Nat} {d : Nat} (h : RDtB w l v w') : RDtB w l v (Br.rt T d w') := let ⟨g, c, h1, h2, h3⟩ := h; ⟨g, c, h1, h2, ⟨h3.os, h3.output, h3.size, h3.block⟩⟩
end Go.Proofs.Ytpmmimcafkillaa.Tr
