/-
  What abides the steps of an iterator with a block of its own: boxes, blocks, what lies below.
  Plain facts on what a list of changes makes of a track.
-/
import Derived.Test.YtfcjdempigoiiaaStp
namespace Go.Proofs.Ytfcjdempigoiiaa
open Go.RowKit Go.Shelf
set_option linter.unusedVariables false
set_option linter.unusedSimpArgs false

/-- a turn that an iterator and its loop may make -/
abbrev TurnOk (B b : Nat) (X : World) (row : Option Nat) : Prop := ∀ k, row = some k → k = b ∨ (B ≤ k ∧ ∃ o : Obj, X.heap[k]? = some o ∧ o.isCells = false)
theorem blk_ab {B b c : Nat} {X Y : World} {row : Option Nat} {o : Obj} (h : X.heap[c]? = some o) (hc : o.isCells = true) (hg : X.grownBy Y row) (hr : TurnOk B b X row) (hne : c ≠ b) : Y.heap[c]? = some o := by
  refine (hg.block c (Array.getElem?_eq_some_iff.1 h).1 (fun e => ?_)).trans h
  rcases hr c e.symm with e | ⟨_, o', ho', hc'⟩
  · exact hne e
  · rw [h] at ho'; cases ho'; rw [hc] at hc'; cases hc'
theorem boxed_ab {B b c : Nat} {t : TypeId} {v : Value} {X Y : World} {row : Option Nat} (h : Boxed X c t v) (hg : X.grownBy Y row) (hr : TurnOk B b X row) (hne : c ≠ b) : Boxed Y c t v := blk_ab h rfl hg hr hne
theorem below_ab {B b n : Nat} {w X Y : World} {row : Option Nat} (h : Below n w X) (hn : n ≤ w.heap.size) (hg : X.grownBy Y row) (hr : TurnOk B b X row) (hb : n ≤ b) (hB : n ≤ B) : Below n w Y :=
  h.grown hg (Nat.le_trans hn h.size) (fun k e => by rcases hr k e with e | ⟨e, _⟩ <;> omega)
theorem row_ab {B b n g N cap m : Nat} {e : TypeId} {xs : List Value} {X Y : World} {row : Option Nat} (h : X.ownsRow n e m (.slice (some ⟨g, 0, none⟩) N cap) N xs) (hg : X.grownBy Y row) (hr : TurnOk B b X row) (hne : g ≠ b) : Y.ownsRow n e m (.slice (some ⟨g, 0, none⟩) N cap) N xs := by
  obtain ⟨h1, h2⟩ := h
  refine ⟨h1, ?_⟩
  rcases h2 with h2 | ⟨g', cap', cur, hv, hB, hh, r⟩
  · exact Or.inl h2
  · refine Or.inr ⟨g', cap', cur, hv, hB, ?_, r⟩
    injection hv with e1
    injection e1 with e1
    injection e1 with e1
    subst e1
    exact blk_ab hh rfl hg hr hne
theorem blk_put {X : World} {c l : Nat} {o o' p : Obj} (h : X.heap[c]? = some o) (hc : o.isCells = true) (hl : X.heap[l]? = some o') (ho : o'.isCells = false) : (X.putObj l p).heap[c]? = some o := by
  refine (World.putObj_heap_other (fun e => ?_)).trans h
  subst e; rw [h] at hl; cases hl; rw [hc] at ho; cases ho
theorem keepX_alloc {A r : Nat} (W : World) (o : Obj) : KeepX A r W (W.alloc o) := KeepX.grown (World.grownBy_alloc W o none) (fun k e => by cases e)

def chAt (l : List Ch) (k : Nat) : Ch := l.getD k (0, 0, 0, 0)
theorem chAt_eq {l : List Ch} {k : Nat} {c : Ch} (h : l[k]? = some c) : chAt l k = c := by unfold chAt; simp [List.getD, h]
theorem chAt_get {l : List Ch} {k : Nat} (h : k < l.length) : l[k]? = some (chAt l k) := by
  unfold chAt; rw [List.getD_eq_getElem?_getD, List.getElem?_eq_getElem h]; rfl
/-- the block of a step -/
abbrev stBlk (l : List Ch) (k : Nat) : Obj := .cells #[iv (chAt l k).1, iv (chAt l k).2.1, iv (chAt l k).2.2.1, iv (chAt l k).2.2.2, iv (oldL (l.take k)), iv (newL (l.take k))] 71 (0, 0)
theorem stv_gen (l : List Ch) (k : Nat) : ∃ y1 y2 y3 y4 y5 y6 : Int, stv l k = .agg #[.int .i64 y1, .int .i64 y2, .int .i64 y3, .int .i64 y4, .int .i64 y5, .int .i64 y6] ∧ stBlk l k = .cells #[.int .i64 y1, .int .i64 y2, .int .i64 y3, .int .i64 y4, .int .i64 y5, .int .i64 y6] 71 (0, 0) := ⟨_, _, _, _, _, _, rfl, rfl⟩

end Go.Proofs.Ytfcjdempigoiiaa

namespace Go.Proofs.Ytfcjdempigoiiaa
open Go.RowKit
set_option linter.unusedVariables false
set_option linter.unusedSimpArgs false

/-- what change k makes -/
def mk1 (l : List Kl) (o : Int) (c : Ch) : List Kl := if c.1 = 1 then part l o (o + c.2.2.2) else if c.1 = 3 then [c.2] else []
def mkAt (l : List Kl) (cs : List Ch) (k : Nat) : List Kl := mk1 l (oldL (cs.take k)) (chAt cs k)
def madeUp (l : List Kl) (cs : List Ch) (k : Nat) : List Kl := (List.range k).flatMap (mkAt l cs)
theorem madeUp_succ (l : List Kl) (cs : List Ch) (k : Nat) : madeUp l cs (k + 1) = madeUp l cs k ++ mkAt l cs k := by
  unfold madeUp; rw [List.range_succ, List.flatMap_append]; simp
theorem mkAt_eq {l : List Kl} {cs : List Ch} {k : Nat} {c : Ch} (h : cs[k]? = some c) : mkAt l cs k = mk1 l (oldL (cs.take k)) c := by unfold mkAt; rw [chAt_eq h]
theorem mk1_len (l : List Kl) (o : Int) (c : Ch) : (mk1 l o c).length ≤ l.length + 1 := by
  unfold mk1
  split
  · have := part_len l o (o + c.2.2.2); omega
  · split <;> simp
theorem madeUp_len (l : List Kl) (cs : List Ch) (k : Nat) : (madeUp l cs k).length ≤ k * (l.length + 1) := by
  induction k with
  | zero => simp [madeUp]
  | succ k ih =>
    rw [madeUp_succ, List.length_append, Nat.succ_mul]
    have : (mkAt l cs k).length ≤ l.length + 1 := mk1_len _ _ _
    omega
theorem madeUp_bd {l : List Kl} {cs : List Ch} {k : Nat} (hl : l.length ≤ 300) (hk : k ≤ 300) : (madeUp l cs k).length ≤ 100000 := by
  have h := madeUp_len l cs k
  have h2 : k * (l.length + 1) ≤ 300 * 301 := Nat.mul_le_mul hk (by omega)
  omega
theorem mk1_ok {l : List Kl} (h : AOk l) {c : Ch} (hc : HOk c) (o : Int) : AOk (mk1 l o c) := by
  unfold mk1
  split
  · exact part_ok h _ _
  · split
    · rename_i h1 h3
      rcases hc with ⟨h, _⟩ | ⟨_, h⟩
      · omega
      · exact aok_one.2 h
    · exact AOk.nil
theorem madeUp_ok {l : List Kl} (h : AOk l) {cs : List Ch} (hc : LOk cs) (k : Nat) (hk : k ≤ cs.length) : AOk (madeUp l cs k) := by
  induction k with
  | zero => simp [madeUp]; exact AOk.nil
  | succ k ih =>
    rw [madeUp_succ]
    exact (ih (by omega)).append (mk1_ok h (hc.2 _ (List.mem_of_getElem? (chAt_get (by omega)))) _)
/-- what Apply gives -/
def applyOf (l : List Kl) (cs : List Ch) : Option (List Kl) := if TOk l ∧ LOk cs ∧ oldL cs = clen l then edit (madeUp l cs cs.length) else none
theorem apply_no {l : List Kl} {cs : List Ch} (h : ¬ (TOk l ∧ LOk cs ∧ oldL cs = clen l)) : applyOf l cs = none := if_neg h
theorem apply_yes {l : List Kl} {cs : List Ch} (h : TOk l ∧ LOk cs ∧ oldL cs = clen l) : applyOf l cs = edit (madeUp l cs cs.length) := if_pos h
theorem apply_len (l : List Kl) (cs : List Ch) : (outL (applyOf l cs)).length ≤ 300 := by
  unfold applyOf
  split
  · exact edit_len _
  · simp [outL]
theorem fin_val (n : Nat) : (List.finRange n).map (fun x => x.1) = List.range n := by
  apply List.ext_getElem
  · simp
  · intro i h1 h2; simp
theorem fin_made (l : List Kl) (cs : List Ch) : (List.finRange cs.length).flatMap (fun x => mkAt l cs x.1) = madeUp l cs cs.length := by
  unfold madeUp; rw [← fin_val, List.flatMap_map]
/-- frames of the old track that a list takes by change k end inside it -/
theorem old_le {cs : List Ch} (hc : LOk cs) {k : Nat} (hk : k < cs.length) : 0 ≤ oldL (cs.take k) ∧ oldL (cs.take k) + oldC (chAt cs k) ≤ oldL cs := by
  have h1 := sums_take hc k
  have h2 : oldL cs = oldL (cs.take (k + 1)) + oldL (cs.drop (k + 1)) := by rw [← oldL_append, List.take_append_drop]
  rw [oldL_snoc (chAt_get hk)] at h2
  have h3 := (sums_bd (l := cs.drop (k + 1)) (fun c h => hc.2 c (List.mem_of_mem_drop h))).1
  omega

end Go.Proofs.Ytfcjdempigoiiaa
