/-
  Who works when, in memory: ends, free workers and runs, and how they are written; no conditions.
-/
import Derived.Test.YtmdkbmnomeampaaFmP
namespace Go.Proofs.Ytmdkbmnomeampaa
open Go.RowKit
set_option linter.unusedVariables false
set_option linter.unusedSimpArgs false

/-- one run more behind an owned list: all blocks but the row stand -/
theorem wpList_kG {ops : Array Oper} {rest : List Oper} {o : Oper} {a : Act} {Q : Exit → Act → World → Prop} (w : World) (hgd : o.guard = none) (s x : Operand) (ho : o.op = .call { callee := .builtin .append, args := #[s, x], argTypes := #[27, 27] })
    (B g n cap : Nat) (L : List Kl) (v0 v1 v2 v3 : Int) (hs : a.eval s = .slice (some ⟨g, 0, none⟩) n cap) (hown : Own w B g n cap L) (hx : a.eval x = .slice (some ⟨w.heap.size, 0, none⟩) 1 1)
    (hl : n ≤ 1000000) (hB : B ≤ w.heap.size)
    (h : ∀ g' cap' w', Own w' B g' (n + 1) cap' (L ++ [(v0, v1, v2, v3)]) → w.grownBy w' (some g) → B ≤ g' → (g' = g ∨ w.heap.size ≤ g') → wpList Try.prog ops Q rest (a.put o.dst (.slice (some ⟨g', 0, none⟩) (n + 1) cap')) w') : wpList Try.prog ops Q (o :: rest) a (w.alloc (.cells #[.int .i64 v0, .int .i64 v1, .int .i64 v2, .int .i64 v3] 31)) := by
  obtain ⟨i0, hi, hz0, hz1, hz2⟩ := info_parts info44
  have hb : Below w.heap.size w (w.alloc (.cells #[.int .i64 v0, .int .i64 v1, .int .i64 v2, .int .i64 v3] 31)) := (Below.refl _ _).alloc (Nat.le_refl _) _
  have hblk : (w.alloc (.cells #[.int .i64 v0, .int .i64 v1, .int .i64 v2, .int .i64 v3] 31)).heap[w.heap.size]? = some (.cells #[.int .i64 v0, .int .i64 v1, .int .i64 v2, .int .i64 v3] 31 (0, 0)) := heap_alloc_new w _
  have hnews := K_news (c := (v0, v1, v2, v3)) hblk
  have hsz := hb.size
  generalize w.alloc (.cells #[.int .i64 v0, .int .i64 v1, .int .i64 v2, .int .i64 v3] 31) = W at *
  have hown2 := ownsRow_below hown hb
  have hBg : B ≤ g := (hown.lt g rfl).1
  refine wpList_append_lies W hgd s x 27 ho B 31 i0 (.agg #[.int .i64 0, .int .i64 0, .int .i64 0, .int .i64 0]) 4 32 Try.underlying27 hi hz0 hz1 hz2 rfl (by decide) _ n (flK L) hs hown2 ⟨w.heap.size, 0, none⟩ 1 1 [iv v0, iv v1, iv v2, iv v3] hx rfl hnews (by intro u hu; simp at hu; rcases hu with rfl | rfl | rfl | rfl <;> rfl) (by decide) (by unfold maxLen; omega) (by omega) (by omega) W.heap.size rfl ?_
  intro g' cap' w' h1 h2 h3 h4
  refine h g' cap' w' (by show World.ownsRow _ _ _ _ _ _ _; rw [flK_append]; exact h1) ?_ (own_ge h1) ?_
  · exact grown_trans ⟨hb.os, hb.tape, hb.output, hb.size, fun j hj _ => hb.block j hj⟩ h2
  · rcases h3 with h3 | h3
    · simp [Value.ownBlock] at h3; exact .inl h3.symm
    · exact .inr (by omega)
/-- two owned rows of unlike elements lie in unlike blocks -/
theorem own_tags {w : World} {B B' g g' n n' m m' cap cap' : Nat} {e e' : TypeId} {xs xs' : List Value} (h : w.ownsRow B e m (.slice (some ⟨g, 0, none⟩) n cap) n xs) (h' : w.ownsRow B' e' m' (.slice (some ⟨g', 0, none⟩) n' cap') n' xs') (hne : e ≠ e') : g ≠ g' := by
  rcases h.2 with ⟨hv, _⟩ | ⟨g1, cap1, cur1, hv, _, hh, _⟩
  · cases hv
  rcases h'.2 with ⟨hv', _⟩ | ⟨g2, cap2, cur2, hv', _, hh', _⟩
  · cases hv'
  injection hv with e1
  injection e1 with e1
  injection e1 with e1
  injection hv' with e2
  injection e2 with e2
  injection e2 with e2
  subst e1 e2
  intro e3
  subst e3
  rw [hh] at hh'
  injection hh' with hh'
  injection hh' with _ hh'
  exact hne hh'
structure FM (W0 wr : World) (gE gF gR cR n V m : Nat) (ends free : List Int) (runs : List Kl) : Prop where
  E : OwnI wr W0.heap.size gE n n ends
  F : OwnI wr W0.heap.size gF V V free
  R : Own wr W0.heap.size gR m cR runs
  ne : gE ≠ gF
  bel : Below W0.heap.size W0 wr
theorem FM.later {W0 wr w1 : World} {gE gF gR cR n V m : Nat} {ends free : List Int} {runs : List Kl} (h : FM W0 wr gE gF gR cR n V m ends free runs) (hb : Below wr.heap.size wr w1) : FM W0 w1 gE gF gR cR n V m ends free runs :=
  ⟨ownsRow_below h.E hb, ownsRow_below h.F hb, ownsRow_below h.R hb, h.ne, laterB h.bel hb⟩
theorem own_setI {w : World} {B g n cap k : Nat} {l : List Int} (h : OwnI w B g n cap l) (e : Int) : OwnI (w.setCell ⟨g, k, none⟩ (.int .i64 e)) B g n cap (l.set k e) := ownI_put k e h
theorem FM.setE {W0 wr : World} {gE gF gR cR n V m : Nat} {ends free : List Int} {runs : List Kl} (h : FM W0 wr gE gF gR cR n V m ends free runs) (i : Nat) (e : Int) : FM W0 (wr.setCell ⟨gE, i, none⟩ (.int .i64 e)) gE gF gR cR n V m (ends.set i e) free runs :=
  ⟨ownI_put i e h.E, own_set h.F h.ne _, own_set h.R (own_tags h.E h.R (by decide)) _, h.ne, h.bel.setCell (own_ge h.E) _⟩
theorem FM.setF {W0 wr : World} {gE gF gR cR n V m : Nat} {ends free : List Int} {runs : List Kl} (h : FM W0 wr gE gF gR cR n V m ends free runs) (i : Nat) (e : Int) : FM W0 (wr.setCell ⟨gF, i, none⟩ (.int .i64 e)) gE gF gR cR n V m ends (free.set i e) runs :=
  ⟨own_set h.E (Ne.symm h.ne) _, ownI_put i e h.F, own_set h.R (own_tags h.F h.R (by decide)) _, h.ne, h.bel.setCell (own_ge h.F) _⟩
theorem FM.app {W0 wr w1 : World} {gE gF gR cR n V m g' c' : Nat} {ends free : List Int} {runs : List Kl} {r : Kl} (h : FM W0 wr gE gF gR cR n V m ends free runs) (ho : Own w1 W0.heap.size g' (m + 1) c' (runs ++ [r])) (hg : wr.grownBy w1 (some gR)) : FM W0 w1 gE gF g' c' n V (m + 1) ends free (runs ++ [r]) :=
  ⟨own_kept h.E hg (own_tags h.E h.R (by decide)), own_kept h.F hg (own_tags h.F h.R (by decide)), ho, h.ne, below_grown h.bel hg (own_ge h.R)⟩
theorem FM.cellE {W0 wr : World} {gE gF gR cR n V m i : Nat} {x : Int} {ends free : List Int} {runs : List Kl} (h : FM W0 wr gE gF gR cR n V m ends free runs) (hx : ends[i]? = some x) : wr.cell? ⟨gE, i, none⟩ = some (.int .i64 x) ∧ wr.frozen? ⟨gE, i, none⟩ = false := ⟨ownI_at hx h.E, h.E.frozenAt i⟩
theorem FM.cellF {W0 wr : World} {gE gF gR cR n V m i : Nat} {x : Int} {ends free : List Int} {runs : List Kl} (h : FM W0 wr gE gF gR cR n V m ends free runs) (hx : free[i]? = some x) : wr.cell? ⟨gF, i, none⟩ = some (.int .i64 x) ∧ wr.frozen? ⟨gF, i, none⟩ = false := ⟨ownI_at hx h.F, h.F.frozenAt i⟩
/-- an answer: new runs -/
def AnR (w : World) (L : List Kl) (e : Ending) (w' : World) : Prop := ∃ G cap, e = .returned (.slice (some ⟨G, 0, none⟩) L.length cap) ∧ w.heap.size ≤ G ∧ Own w' w.heap.size G L.length cap L ∧ Below w.heap.size w w'
theorem grown_none {w w1 : World} (h : w.grownBy w1 none) : Below w.heap.size w w1 := (Below.refl _ _).grown h (Nat.le_refl _) (fun k hk => by cases hk)

end Go.Proofs.Ytmdkbmnomeampaa
