/-
  The steps of a list of changes: the iterator's contract.
  What abides the steps of an iterator with a block of its own: boxes, blocks, what lies below.
  Plain facts on what a list of changes makes of a track.
  Apply of the program where the changes fit the track.
-/
import Derived.Test.YtioaehjppiodfaaGreatDoorGStp0
import Derived.Test.YtioaehjppiodfaaGreatDoorGCat
import Derived.Test.YtioaehjppiodfaaGreatDoorGITa
import Derived.Test.YtioaehjppiodfaaGreatDoorGPt2
namespace Go.Proofs.YtioaehjppiodfaaGreatDoor
open Go.RowKit Go.Shelf
set_option linter.unusedVariables false
set_option linter.unusedSimpArgs false
attribute [local go_sem] Oper.semAt_some

/-- the cells of a list in a world that keeps blocks below n -/
theorem cell_keepL {X Y : World} {n b o : Nat} {v : Value} (h : ∀ (k : Nat) (x : Obj), k < n → X.heap[k]? = some x → x.isCells = true → Y.heap[k]? = some x) (hb : b < n) (hc : X.cell? ⟨b, o, none⟩ = some v) : Y.cell? ⟨b, o, none⟩ = some v := by
  obtain ⟨x, hx, hcx⟩ := cells_of_cell hc
  exact (World.cell?_of_block (a := ⟨b, o, none⟩) ((h b x hb hx hcx).trans hx.symm)).trans hc
theorem blk6 {X : World} {b : Nat} {t : TypeId} {v0 v1 v2 v3 v4 v5 : Value} (h : X.heap[b]? = some (.cells #[v0, v1, v2, v3, v4, v5] t (0, 0))) :
    X.cell? ⟨b, 0, none⟩ = some v0 ∧ X.cell? ⟨b, 1, none⟩ = some v1 ∧ X.cell? ⟨b, 2, none⟩ = some v2 ∧ X.cell? ⟨b, 3, none⟩ = some v3 ∧ X.cell? ⟨b, 4, none⟩ = some v4 ∧ X.cell? ⟨b, 5, none⟩ = some v5 ∧ (∀ o, X.frozen? ⟨b, o, none⟩ = false) := by
  refine ⟨?_, ?_, ?_, ?_, ?_, ?_, fun o => ?_⟩ <;> simp [World.cell?, World.frozen?, h]
theorem blk4 {X : World} {b : Nat} {t : TypeId} {v0 v1 v2 v3 : Value} (h : X.heap[b]? = some (.cells #[v0, v1, v2, v3] t (0, 0))) :
    X.cell? ⟨b, 0, none⟩ = some v0 ∧ X.cell? ⟨b, 1, none⟩ = some v1 ∧ X.cell? ⟨b, 2, none⟩ = some v2 ∧ X.cell? ⟨b, 3, none⟩ = some v3 := by
  refine ⟨?_, ?_, ?_, ?_⟩ <;> simp [World.cell?, h]

theorem blk6_set {X : World} {b : Nat} {t : TypeId} {v0 v1 v2 v3 v4 v5 u0 u1 u2 u3 : Value} (h : X.heap[b]? = some (.cells #[v0, v1, v2, v3, v4, v5] t (0, 0))) :
    ((((X.setCell ⟨b, 0, none⟩ u0).setCell ⟨b, 1, none⟩ u1).setCell ⟨b, 2, none⟩ u2).setCell ⟨b, 3, none⟩ u3).heap[b]? = some (.cells #[u0, u1, u2, u3, v4, v5] t (0, 0)) := by
  simp [World.setCell, Array.getElem?_modify, h]
theorem blk6_4 {X : World} {b : Nat} {t : TypeId} {v0 v1 v2 v3 v4 v5 u : Value} (h : X.heap[b]? = some (.cells #[v0, v1, v2, v3, v4, v5] t (0, 0))) : (X.setCell ⟨b, 4, none⟩ u).heap[b]? = some (.cells #[v0, v1, v2, v3, u, v5] t (0, 0)) := by
  simp [World.setCell, Array.getElem?_modify, h]
theorem blk6_5 {X : World} {b : Nat} {t : TypeId} {v0 v1 v2 v3 v4 v5 u : Value} (h : X.heap[b]? = some (.cells #[v0, v1, v2, v3, v4, v5] t (0, 0))) : (X.setCell ⟨b, 5, none⟩ u).heap[b]? = some (.cells #[v0, v1, v2, v3, v4, u] t (0, 0)) := by
  simp [World.setCell, Array.getElem?_modify, h]
theorem blk_other {X : World} {b c : Nat} {o : Obj} {u0 u1 u2 u3 : Value} (hne : c ≠ b) (h : X.heap[c]? = some o) :
    ((((X.setCell ⟨b, 0, none⟩ u0).setCell ⟨b, 1, none⟩ u1).setCell ⟨b, 2, none⟩ u2).setCell ⟨b, 3, none⟩ u3).heap[c]? = some o := by
  rw [Below.heap_setCell _ ⟨b, 3, none⟩ _ _ hne, Below.heap_setCell _ ⟨b, 2, none⟩ _ _ hne, Below.heap_setCell _ ⟨b, 1, none⟩ _ _ hne, Below.heap_setCell _ ⟨b, 0, none⟩ _ _ hne]; exact h

end Go.Proofs.YtioaehjppiodfaaGreatDoor

namespace Go.Proofs.YtioaehjppiodfaaGreatDoor
open Go.RowKit Go.Shelf
set_option linter.unusedVariables false
set_option linter.unusedSimpArgs false

/-- a turn that an iterator and its loop may make -/
abbrev TurnOk (B b : Nat) (X : World) (row : Option Nat) : Prop := ∀ k, row = some k → k = b ∨ (B ≤ k ∧ ∃ o : Obj, X.heap[k]? = some o ∧ o.isCells = false)
theorem blk_ab {B b c : Nat} {X Y : World} {row : Option Nat} {o : Obj} (h : X.heap[c]? = some o) (hc : o.isCells = true) (hg : X.grownBy Y row) (hr : TurnOk B b X row) (hne : c ≠ b) : Y.heap[c]? = some o := by
  refine (hg.block c (Array.getElem?_eq_some_iff.1 h).1 (fun e => ?_)).trans h
  rcases hr c e.symm with e | ⟨_, o', ho', hc'⟩
  · exact hne e
  · rw [h] at ho'; cases ho'; rw [hc] at hc'; cases hc'
theorem boxed_ab {B b c : Nat} {t : TypeId} {v : Value} {X Y : World} {row : Option Nat} (h : Boxed X c t v) (hg : X.grownBy Y row) (hr : TurnOk B b X row) (hne : c ≠ b) : Boxed Y c t v := blk_ab h rfl hg hr hne
theorem below_ab {B b n : Nat} {w X Y : World} {row : Option Nat} (h : Below n w X) (hn : n ≤ w.heap.size) (hg : X.grownBy Y row) (hr : TurnOk B b X row) (hb : n ≤ b) (hB : n ≤ B) : Below n w Y :=
  h.grown hg (Nat.le_trans hn h.size) (fun k e => by rcases hr k e with e | ⟨e, _⟩ <;> omega)
theorem row_ab {B b n g N cap m : Nat} {e : TypeId} {xs : List Value} {X Y : World} {row : Option Nat} (h : X.ownsRow n e m (.slice (some ⟨g, 0, none⟩) N cap) N xs) (hg : X.grownBy Y row) (hr : TurnOk B b X row) (hne : g ≠ b) : Y.ownsRow n e m (.slice (some ⟨g, 0, none⟩) N cap) N xs := by
  obtain ⟨h1, h2⟩ := h
  refine ⟨h1, ?_⟩
  rcases h2 with h2 | ⟨g', cap', cur, hv, hB, hh, r⟩
  · exact Or.inl h2
  · refine Or.inr ⟨g', cap', cur, hv, hB, ?_, r⟩
    injection hv with e1
    injection e1 with e1
    injection e1 with e1
    subst e1
    exact blk_ab hh rfl hg hr hne
theorem blk_put {X : World} {c l : Nat} {o o' p : Obj} (h : X.heap[c]? = some o) (hc : o.isCells = true) (hl : X.heap[l]? = some o') (ho : o'.isCells = false) : (X.putObj l p).heap[c]? = some o := by
  refine (World.putObj_heap_other (fun e => ?_)).trans h
  subst e; rw [h] at hl; cases hl; rw [hc] at ho; cases ho
theorem keepX_alloc {A r : Nat} (W : World) (o : Obj) : KeepX A r W (W.alloc o) := KeepX.grown (World.grownBy_alloc W o none) (fun k e => by cases e)

def chAt (l : List Ch) (k : Nat) : Ch := l.getD k (0, 0, 0, 0)
theorem chAt_eq {l : List Ch} {k : Nat} {c : Ch} (h : l[k]? = some c) : chAt l k = c := by unfold chAt; simp [List.getD, h]
theorem chAt_get {l : List Ch} {k : Nat} (h : k < l.length) : l[k]? = some (chAt l k) := by
  unfold chAt; rw [List.getD_eq_getElem?_getD, List.getElem?_eq_getElem h]; rfl
end Go.Proofs.YtioaehjppiodfaaGreatDoor

namespace Go.Proofs.YtioaehjppiodfaaGreatDoor
open Go.RowKit
set_option linter.unusedVariables false
set_option linter.unusedSimpArgs false

/-- what change k makes -/
def mk1 (l : List Kl) (o : Int) (c : Ch) : List Kl := if c.1 = 1 then part l o (o + c.2.2.2) else if c.1 = 3 then [c.2] else []
def mkAt (l : List Kl) (cs : List Ch) (k : Nat) : List Kl := mk1 l (oldL (cs.take k)) (chAt cs k)
def madeUp (l : List Kl) (cs : List Ch) (k : Nat) : List Kl := (List.range k).flatMap (mkAt l cs)
theorem madeUp_succ (l : List Kl) (cs : List Ch) (k : Nat) : madeUp l cs (k + 1) = madeUp l cs k ++ mkAt l cs k := by
  unfold madeUp; rw [List.range_succ, List.flatMap_append]; simp
theorem mkAt_eq {l : List Kl} {cs : List Ch} {k : Nat} {c : Ch} (h : cs[k]? = some c) : mkAt l cs k = mk1 l (oldL (cs.take k)) c := by unfold mkAt; rw [chAt_eq h]
theorem mk1_len (l : List Kl) (o : Int) (c : Ch) : (mk1 l o c).length ≤ l.length + 1 := by
  unfold mk1
  split
  · have := part_len l o (o + c.2.2.2); omega
  · split <;> simp
theorem madeUp_len (l : List Kl) (cs : List Ch) (k : Nat) : (madeUp l cs k).length ≤ k * (l.length + 1) := by
  induction k with
  | zero => simp [madeUp]
  | succ k ih =>
    rw [madeUp_succ, List.length_append, Nat.succ_mul]
    have : (mkAt l cs k).length ≤ l.length + 1 := mk1_len _ _ _
    omega
theorem madeUp_bd {l : List Kl} {cs : List Ch} {k : Nat} (hl : l.length ≤ 300) (hk : k ≤ 300) : (madeUp l cs k).length ≤ 100000 := by
  have h := madeUp_len l cs k
  have h2 : k * (l.length + 1) ≤ 300 * 301 := Nat.mul_le_mul hk (by omega)
  omega
theorem mk1_ok {l : List Kl} (h : AOk l) {c : Ch} (hc : HOk c) (o : Int) : AOk (mk1 l o c) := by
  unfold mk1
  split
  · exact part_ok h _ _
  · split
    · rename_i h1 h3
      rcases hc with ⟨h, _⟩ | ⟨_, h⟩
      · omega
      · exact aok_one.2 h
    · exact AOk.nil
theorem madeUp_ok {l : List Kl} (h : AOk l) {cs : List Ch} (hc : LOk cs) (k : Nat) (hk : k ≤ cs.length) : AOk (madeUp l cs k) := by
  induction k with
  | zero => simp [madeUp]; exact AOk.nil
  | succ k ih =>
    rw [madeUp_succ]
    exact (ih (by omega)).append (mk1_ok h (hc.2 _ (List.mem_of_getElem? (chAt_get (by omega)))) _)
/-- what Apply gives -/
def applyOf (l : List Kl) (cs : List Ch) : Option (List Kl) := if TOk l ∧ LOk cs ∧ oldL cs = clen l then edit (madeUp l cs cs.length) else none
theorem apply_no {l : List Kl} {cs : List Ch} (h : ¬ (TOk l ∧ LOk cs ∧ oldL cs = clen l)) : applyOf l cs = none := if_neg h
theorem apply_yes {l : List Kl} {cs : List Ch} (h : TOk l ∧ LOk cs ∧ oldL cs = clen l) : applyOf l cs = edit (madeUp l cs cs.length) := if_pos h
theorem apply_len (l : List Kl) (cs : List Ch) : (outL (applyOf l cs)).length ≤ 300 := by
  unfold applyOf
  split
  · exact edit_len _
  · simp [outL]
theorem fin_val (n : Nat) : (List.finRange n).map (fun x => x.1) = List.range n := by
  apply List.ext_getElem
  · simp
  · intro i h1 h2; simp
theorem fin_made (l : List Kl) (cs : List Ch) : (List.finRange cs.length).flatMap (fun x => mkAt l cs x.1) = madeUp l cs cs.length := by
  unfold madeUp; rw [← fin_val, List.flatMap_map]
/-- frames of the old track that a list takes by change k end inside it -/
theorem old_le {cs : List Ch} (hc : LOk cs) {k : Nat} (hk : k < cs.length) : 0 ≤ oldL (cs.take k) ∧ oldL (cs.take k) + oldC (chAt cs k) ≤ oldL cs := by
  have h1 := sums_take hc k
  have h2 : oldL cs = oldL (cs.take (k + 1)) + oldL (cs.drop (k + 1)) := by rw [← oldL_append, List.take_append_drop]
  rw [oldL_snoc (chAt_get hk)] at h2
  have h3 := (sums_bd (l := cs.drop (k + 1)) (fun c h => hc.2 c (List.mem_of_mem_drop h))).1
  omega

end Go.Proofs.YtioaehjppiodfaaGreatDoor

namespace Go.Proofs.YtioaehjppiodfaaGreatDoor
open Go.RowKit Go.Shelf
set_option linter.unusedVariables false
set_option linter.unusedSimpArgs false
attribute [local go_sem] Oper.semAt_some

theorem blk2 {X : World} {b : Nat} {t : TypeId} {v0 v1 : Value} (h : X.heap[b]? = some (.cells #[v0, v1] t (0, 0))) : X.cell? ⟨b, 0, none⟩ = some v0 ∧ X.cell? ⟨b, 1, none⟩ = some v1 := by
  refine ⟨?_, ?_⟩ <;> simp [World.cell?, h]
/-- clips behind an owned list, at a step of a region that draws its order: it lies where it lay, or in a new block -/
theorem step_apps {T : TypeId} (hT : Tryz.prog.underlying T = some (.slice 94)) {ops : Array Oper} {o : Oper} {a : Act} {K : Act → World → Prop} {Q : Exit → Act → World → Prop} {E : Prop} (w : World) (hgd : o.guard = none) (s x : Operand) (ho : o.op = .call { callee := .builtin .append, args := #[s, x], argTypes := #[T, T] })
    (B g cap : Nat) (L1 L2 : List Kl) (b2 o2 c2 : Nat) (hs : a.eval s = .slice (some ⟨g, 0, none⟩) L1.length cap) (hown : Own w B g L1.length cap L1) (hx : a.eval x = .slice (some ⟨b2, o2, none⟩) L2.length c2) (hK : Kls w (some ⟨b2, o2, none⟩) L2) (hne : 0 < L2.length) (hl1 : L1.length ≤ 1000000) (hl2 : L2.length ≤ 1000000) (hB : B ≤ w.heap.size)
    (h : ∀ g' cap' w', Own w' B g' (L1 ++ L2).length cap' (L1 ++ L2) → w.grownBy w' (some g) → (g' = g ∨ g' = w.heap.size) → K (a.put o.dst (.slice (some ⟨g', 0, none⟩) (L1 ++ L2).length cap')) w') :
    if Region.wanted o (yielded ops a.tmps) = true then Oper.wp Tryz.prog o a w K Q else E := by
  obtain ⟨i0, hi, hz0, hz1, hz2⟩ := info_parts info44
  refine step_append_lies w hgd s x T ho B 94 i0 (.agg #[.int .i64 0, .int .i64 0, .int .i64 0]) 3 24 hT hi hz0 hz1 hz2 rfl (by decide) _ L1.length (flK L1) hs hown ⟨b2, o2, none⟩ L2.length c2 (flK L2) hx (flK_len _) (kls_news hK) (flK_one _) hne (by unfold maxLen; omega) (by omega) hB w.heap.size rfl ?_
  intro g' cap' w' h1 h2 h3 h4
  have := h g' cap' w' (by show World.ownsRow _ _ _ _ _ _ _; rw [flK_append, List.length_append]; exact h1) (by simpa [Value.ownBlock] using h2) (Or.imp (fun h3 => by simp [Value.ownBlock] at h3; exact h3.symm) id h3)
  rw [List.length_append] at this
  exact this
theorem part_pos {l : List Kl} (h : AOk l) {o n : Int} (h0 : 0 ≤ o) (h1 : 1 ≤ n) (h2 : o + n ≤ clen l) : 0 < (part l o (o + n)).length := by
  have hc := clen_part h o (o + n)
  cases hp : part l o (o + n) with
  | nil => rw [hp] at hc; simp [clen] at hc; omega
  | cons x m => simp

theorem own_ne {W : World} {B g n cap m b : Nat} {e t : TypeId} {xs : List Value} {c : Array Value} {f : Nat × Nat} (h : W.ownsRow B e m (.slice (some ⟨g, 0, none⟩) n cap) n xs) (hb : W.heap[b]? = some (.cells c t f)) (ht : t ≠ e) : b ≠ g := by
  intro hbg
  subst hbg
  rcases h.2 with ⟨hv, _⟩ | ⟨g', cap', cur, hv, _, hh, _⟩
  · cases hv
  · injection hv with e1
    injection e1 with e1
    injection e1 with e1
    subst e1
    rw [hb] at hh
    injection hh with hh
    injection hh with _ hh _
    exact ht hh
theorem below_undrew {n : Nat} {W X : World} (h : Below n W.drew X) : Below n W X := ⟨h.os, h.tape, h.output, h.size, h.block⟩
theorem cell_gr {X Y : World} {r b o : Nat} {v : Value} (hg : X.grownBy Y (some r)) (hne : b ≠ r) (h : X.cell? ⟨b, o, none⟩ = some v) : Y.cell? ⟨b, o, none⟩ = some v := by
  obtain ⟨x, hx, _⟩ := cells_of_cell h
  exact (World.cell?_of_block (a := ⟨b, o, none⟩) (hg.block b (Array.getElem?_eq_some_iff.1 hx).1 (by intro e; injection e with e; exact hne e))).trans h
theorem cell_set {X : World} {c p b o : Nat} {v u : Value} (hne : b ≠ c) (h : X.cell? ⟨b, o, none⟩ = some v) : (X.setCell ⟨c, p, none⟩ u).cell? ⟨b, o, none⟩ = some v :=
  (World.cell?_of_block (a := ⟨b, o, none⟩) (Below.heap_setCell X ⟨c, p, none⟩ u b hne)).trans h
/-- a variable's row, appended to in a round -/
theorem app_fin {w W w3 w4 : World} {s0 M r g' N cap N' cap' m bb : Nat} {t e : TypeId} {xs ys : List Value} (hte : t ≠ e)
    (iM : Boxed W M t (.slice (some ⟨r, 0, none⟩) N cap)) (iO : W.ownsRow s0 e m (.slice (some ⟨r, 0, none⟩) N cap) N xs) (iB : Below s0 w W) (hs : s0 = w.heap.size) (hM : s0 ≤ M)
    (hbb : bb < W.heap.size) (hrb : r ≠ bb) (k3 : Below W.heap.size W w3) (n4 : w4.ownsRow s0 e m (.slice (some ⟨g', 0, none⟩) N' cap') N' ys) (k4 : w3.grownBy w4 (some r)) (hg : g' = r ∨ w3.heap.size ≤ g') :
    Boxed w4 M t (.slice (some ⟨r, 0, none⟩) N cap) ∧ KeepsOthers W (w4.setCell ⟨M, 0, none⟩ (.slice (some ⟨g', 0, none⟩) N' cap')) ∧ KeepX M r W (w4.setCell ⟨M, 0, none⟩ (.slice (some ⟨g', 0, none⟩) N' cap')) ∧
    Boxed (w4.setCell ⟨M, 0, none⟩ (.slice (some ⟨g', 0, none⟩) N' cap')) M t (.slice (some ⟨g', 0, none⟩) N' cap') ∧ (w4.setCell ⟨M, 0, none⟩ (.slice (some ⟨g', 0, none⟩) N' cap')).ownsRow s0 e m (.slice (some ⟨g', 0, none⟩) N' cap') N' ys ∧
    Below s0 w (w4.setCell ⟨M, 0, none⟩ (.slice (some ⟨g', 0, none⟩) N' cap')) ∧ g' ≠ bb ∧ (∀ c o, W.heap[c]? = some o → c ≠ M → c ≠ r → (w4.setCell ⟨M, 0, none⟩ (.slice (some ⟨g', 0, none⟩) N' cap')).heap[c]? = some o) := by
  have hMr : M ≠ r := own_ne iO iM hte
  have hlt := own_lt iO
  have hge := own_ge iO
  have hMlt := iM.lt
  have b4 : Boxed w4 M t (.slice (some ⟨r, 0, none⟩) N cap) := by
    have h3 : w3.heap[M]? = _ := (k3.block M hMlt).trans iM
    exact (k4.block M (Nat.lt_of_lt_of_le hMlt k3.size) (by intro e; injection e with e; exact hMr e)).trans h3
  have hblk : ∀ c o, W.heap[c]? = some o → c ≠ M → c ≠ r → (w4.setCell ⟨M, 0, none⟩ (.slice (some ⟨g', 0, none⟩) N' cap')).heap[c]? = some o := fun c o hc h1 h2 => by
    have hcl := (Array.getElem?_eq_some_iff.1 hc).1
    rw [Below.heap_setCell _ ⟨M, 0, none⟩ _ c h1, k4.block c (Nat.lt_of_lt_of_le hcl k3.size) (by intro e; injection e with e; exact h2 e), k3.block c hcl]
    exact hc
  have hsz : W.heap.size ≤ (w4.setCell ⟨M, 0, none⟩ (.slice (some ⟨g', 0, none⟩) N' cap')).heap.size := by
    have h1 := k3.size
    have h2 := k4.size
    simp only [World.setCell, Array.size_modify]
    omega
  have hrc : ∀ o, W.heap[r]? = some o → o.isCells = true := fun o ho => by
    rcases iO.2 with ⟨hv, _⟩ | ⟨g1, c1, cur, hv, _, hh, _⟩
    · cases hv
    · injection hv with e1
      injection e1 with e1
      injection e1 with e1
      subst e1
      rw [ho] at hh
      injection hh with hh
      rw [hh]; rfl
  refine ⟨b4, ⟨hsz, fun c o hc ho => ?_⟩, ⟨hsz, fun c o hc ho h1 h2 => hblk c o hc h1 h2⟩, b4.set _, ?_, ?_, ?_, hblk⟩
  · refine hblk c o hc (fun e => ?_) (fun e => ?_)
    · subst e; rw [show W.heap[c]? = _ from iM] at hc; cases hc; cases ho
    · subst e; rw [hrc o hc] at ho; cases ho
  · exact own_kept n4 (grownBy_setCell' w4 M _) (by have := own_ne n4 b4 hte; exact fun h => this h.symm)
  · have h3 : Below s0 w w3 := iB.trans (k3.mono (by have := iB.size; omega))
    exact ((h3.grown k4 (by have := h3.size; omega) (fun k e => by injection e with e; omega)).setCell (p := ⟨M, 0, none⟩) hM _)
  · rcases hg with rfl | hg
    · exact hrb
    · have := k3.size; omega

end Go.Proofs.YtioaehjppiodfaaGreatDoor
