/-
  Apply of the program where the changes fit the track.
  Changes that are turned: plain facts; contracts of the program's appends of frames and of clips to a list of changes.
-/
import Derived.Test.YtioaehjppiodfaaGreatDoorG08
import Derived.Test.YtioaehjppiodfaaGreatDoorG10
import Derived.Test.YtioaehjppiodfaaGreatDoorG11
namespace Go.Proofs.YtioaehjppiodfaaGreatDoor
open Go.RowKit Go.Shelf
set_option linter.unusedVariables false
set_option linter.unusedSimpArgs false
attribute [local go_sem] Oper.semAt_some

theorem blk2 {X : World} {b : Nat} {t : TypeId} {v0 v1 : Value} (h : X.heap[b]? = some (.cells #[v0, v1] t (0, 0))) : X.cell? ⟨b, 0, none⟩ = some v0 ∧ X.cell? ⟨b, 1, none⟩ = some v1 := by
  refine ⟨?_, ?_⟩ <;> simp [World.cell?, h]
/-- clips behind an owned list, at a step of a region that draws its order: it lies where it lay, or in a new block -/
theorem step_apps {T : TypeId} (hT : Tryz.prog.underlying T = some (.slice 94)) {ops : Array Oper} {o : Oper} {a : Act} {K : Act → World → Prop} {Q : Exit → Act → World → Prop} {E : Prop} (w : World) (hgd : o.guard = none) (s x : Operand) (ho : o.op = .call { callee := .builtin .append, args := #[s, x], argTypes := #[T, T] })
    (B g cap : Nat) (L1 L2 : List Kl) (b2 o2 c2 : Nat) (hs : a.eval s = .slice (some ⟨g, 0, none⟩) L1.length cap) (hown : Own w B g L1.length cap L1) (hx : a.eval x = .slice (some ⟨b2, o2, none⟩) L2.length c2) (hK : Kls w (some ⟨b2, o2, none⟩) L2) (hne : 0 < L2.length) (hl1 : L1.length ≤ 1000000) (hl2 : L2.length ≤ 1000000) (hB : B ≤ w.heap.size)
    (h : ∀ g' cap' w', Own w' B g' (L1 ++ L2).length cap' (L1 ++ L2) → w.grownBy w' (some g) → (g' = g ∨ g' = w.heap.size) → K (a.put o.dst (.slice (some ⟨g', 0, none⟩) (L1 ++ L2).length cap')) w') :
    if Region.wanted o (yielded ops a.tmps) = true then Oper.wp Tryz.prog o a w K Q else E := by
  obtain ⟨i0, hi, hz0, hz1, hz2⟩ := info_parts info44
  refine step_append_lies w hgd s x T ho B 94 i0 (.agg #[.int .i64 0, .int .i64 0, .int .i64 0]) 3 24 hT hi hz0 hz1 hz2 rfl (by decide) _ L1.length (flK L1) hs hown ⟨b2, o2, none⟩ L2.length c2 (flK L2) hx (flK_len _) (kls_news hK) (flK_one _) hne (by unfold maxLen; omega) (by omega) hB w.heap.size rfl ?_
  intro g' cap' w' h1 h2 h3 h4
  have := h g' cap' w' (by show World.ownsRow _ _ _ _ _ _ _; rw [flK_append, List.length_append]; exact h1) (by simpa [Value.ownBlock] using h2) (Or.imp (fun h3 => by simp [Value.ownBlock] at h3; exact h3.symm) id h3)
  rw [List.length_append] at this
  exact this
theorem part_pos {l : List Kl} (h : AOk l) {o n : Int} (h0 : 0 ≤ o) (h1 : 1 ≤ n) (h2 : o + n ≤ clen l) : 0 < (part l o (o + n)).length := by
  have hc := clen_part h o (o + n)
  cases hp : part l o (o + n) with
  | nil => rw [hp] at hc; simp [clen] at hc; omega
  | cons x m => simp

theorem own_ne {W : World} {B g n cap m b : Nat} {e t : TypeId} {xs : List Value} {c : Array Value} {f : Nat × Nat} (h : W.ownsRow B e m (.slice (some ⟨g, 0, none⟩) n cap) n xs) (hb : W.heap[b]? = some (.cells c t f)) (ht : t ≠ e) : b ≠ g := by
  intro hbg
  subst hbg
  rcases h.2 with ⟨hv, _⟩ | ⟨g', cap', cur, hv, _, hh, _⟩
  · cases hv
  · injection hv with e1
    injection e1 with e1
    injection e1 with e1
    subst e1
    rw [hb] at hh
    injection hh with hh
    injection hh with _ hh _
    exact ht hh
theorem below_undrew {n : Nat} {W X : World} (h : Below n W.drew X) : Below n W X := ⟨h.os, h.tape, h.output, h.size, h.block⟩
theorem cell_gr {X Y : World} {r b o : Nat} {v : Value} (hg : X.grownBy Y (some r)) (hne : b ≠ r) (h : X.cell? ⟨b, o, none⟩ = some v) : Y.cell? ⟨b, o, none⟩ = some v := by
  obtain ⟨x, hx, _⟩ := cells_of_cell h
  exact (World.cell?_of_block (a := ⟨b, o, none⟩) (hg.block b (Array.getElem?_eq_some_iff.1 hx).1 (by intro e; injection e with e; exact hne e))).trans h
theorem cell_set {X : World} {c p b o : Nat} {v u : Value} (hne : b ≠ c) (h : X.cell? ⟨b, o, none⟩ = some v) : (X.setCell ⟨c, p, none⟩ u).cell? ⟨b, o, none⟩ = some v :=
  (World.cell?_of_block (a := ⟨b, o, none⟩) (Below.heap_setCell X ⟨c, p, none⟩ u b hne)).trans h
/-- a variable's row, appended to in a round -/
theorem app_fin {w W w3 w4 : World} {s0 M r g' N cap N' cap' m bb : Nat} {t e : TypeId} {xs ys : List Value} (hte : t ≠ e)
    (iM : Boxed W M t (.slice (some ⟨r, 0, none⟩) N cap)) (iO : W.ownsRow s0 e m (.slice (some ⟨r, 0, none⟩) N cap) N xs) (iB : Below s0 w W) (hs : s0 = w.heap.size) (hM : s0 ≤ M)
    (hbb : bb < W.heap.size) (hrb : r ≠ bb) (k3 : Below W.heap.size W w3) (n4 : w4.ownsRow s0 e m (.slice (some ⟨g', 0, none⟩) N' cap') N' ys) (k4 : w3.grownBy w4 (some r)) (hg : g' = r ∨ w3.heap.size ≤ g') :
    Boxed w4 M t (.slice (some ⟨r, 0, none⟩) N cap) ∧ KeepsOthers W (w4.setCell ⟨M, 0, none⟩ (.slice (some ⟨g', 0, none⟩) N' cap')) ∧ KeepX M r W (w4.setCell ⟨M, 0, none⟩ (.slice (some ⟨g', 0, none⟩) N' cap')) ∧
    Boxed (w4.setCell ⟨M, 0, none⟩ (.slice (some ⟨g', 0, none⟩) N' cap')) M t (.slice (some ⟨g', 0, none⟩) N' cap') ∧ (w4.setCell ⟨M, 0, none⟩ (.slice (some ⟨g', 0, none⟩) N' cap')).ownsRow s0 e m (.slice (some ⟨g', 0, none⟩) N' cap') N' ys ∧
    Below s0 w (w4.setCell ⟨M, 0, none⟩ (.slice (some ⟨g', 0, none⟩) N' cap')) ∧ g' ≠ bb ∧ (∀ c o, W.heap[c]? = some o → c ≠ M → c ≠ r → (w4.setCell ⟨M, 0, none⟩ (.slice (some ⟨g', 0, none⟩) N' cap')).heap[c]? = some o) := by
  have hMr : M ≠ r := own_ne iO iM hte
  have hlt := own_lt iO
  have hge := own_ge iO
  have hMlt := iM.lt
  have b4 : Boxed w4 M t (.slice (some ⟨r, 0, none⟩) N cap) := by
    have h3 : w3.heap[M]? = _ := (k3.block M hMlt).trans iM
    exact (k4.block M (Nat.lt_of_lt_of_le hMlt k3.size) (by intro e; injection e with e; exact hMr e)).trans h3
  have hblk : ∀ c o, W.heap[c]? = some o → c ≠ M → c ≠ r → (w4.setCell ⟨M, 0, none⟩ (.slice (some ⟨g', 0, none⟩) N' cap')).heap[c]? = some o := fun c o hc h1 h2 => by
    have hcl := (Array.getElem?_eq_some_iff.1 hc).1
    rw [Below.heap_setCell _ ⟨M, 0, none⟩ _ c h1, k4.block c (Nat.lt_of_lt_of_le hcl k3.size) (by intro e; injection e with e; exact h2 e), k3.block c hcl]
    exact hc
  have hsz : W.heap.size ≤ (w4.setCell ⟨M, 0, none⟩ (.slice (some ⟨g', 0, none⟩) N' cap')).heap.size := by
    have h1 := k3.size
    have h2 := k4.size
    simp only [World.setCell, Array.size_modify]
    omega
  have hrc : ∀ o, W.heap[r]? = some o → o.isCells = true := fun o ho => by
    rcases iO.2 with ⟨hv, _⟩ | ⟨g1, c1, cur, hv, _, hh, _⟩
    · cases hv
    · injection hv with e1
      injection e1 with e1
      injection e1 with e1
      subst e1
      rw [ho] at hh
      injection hh with hh
      rw [hh]; rfl
  refine ⟨b4, ⟨hsz, fun c o hc ho => ?_⟩, ⟨hsz, fun c o hc ho h1 h2 => hblk c o hc h1 h2⟩, b4.set _, ?_, ?_, ?_, hblk⟩
  · refine hblk c o hc (fun e => ?_) (fun e => ?_)
    · subst e; rw [show W.heap[c]? = _ from iM] at hc; cases hc; cases ho
    · subst e; rw [hrc o hc] at ho; cases ho
  · exact own_kept n4 (grownBy_setCell' w4 M _) (by have := own_ne n4 b4 hte; exact fun h => this h.symm)
  · have h3 : Below s0 w w3 := iB.trans (k3.mono (by have := iB.size; omega))
    exact ((h3.grown k4 (by have := h3.size; omega) (fun k e => by injection e with e; omega)).setCell (p := ⟨M, 0, none⟩) hM _)
  · rcases hg with rfl | hg
    · exact hrb
    · have := k3.size; omega

end Go.Proofs.YtioaehjppiodfaaGreatDoor

namespace Go.Proofs.YtioaehjppiodfaaGreatDoor
open Go.RowKit
set_option linter.unusedVariables false
set_option linter.unusedSimpArgs false

/-- clips as changes that add them -/
def adds (m : List Kl) : List Ch := m.map (fun k => (3, k))
theorem adds_len (m : List Kl) : (adds m).length = m.length := by simp [adds]
theorem adds_snoc {m : List Kl} {k : Nat} {c : Kl} (h : m[k]? = some c) : adds (m.take (k + 1)) = adds (m.take k) ++ [(3, c)] := by
  unfold adds; rw [take_snocK h, List.map_append]; rfl
/-- so many frames, kept or dropped -/
def frs (kind n : Int) : List Ch := if n = 0 then [] else [(kind, 0, 0, n)]
theorem frs_len (kind n : Int) : (frs kind n).length ≤ 1 := by unfold frs; split <;> simp
def tn1 (l : List Kl) (o : Int) (c : Ch) : List Ch := if c.1 = 1 then [c] else if c.1 = 2 then adds (join (part l o (o + c.2.2.2))) else [(2, 0, 0, c.2.2.2)]
def tnAt (l : List Kl) (cs : List Ch) (k : Nat) : List Ch := tn1 l (oldL (cs.take k)) (chAt cs k)
def tnUp (l : List Kl) (cs : List Ch) (k : Nat) : List Ch := (List.range k).flatMap (tnAt l cs)
theorem tnUp_succ (l : List Kl) (cs : List Ch) (k : Nat) : tnUp l cs (k + 1) = tnUp l cs k ++ tnAt l cs k := by
  unfold tnUp; rw [List.range_succ, List.flatMap_append]; simp
theorem tnAt_eq {l : List Kl} {cs : List Ch} {k : Nat} {c : Ch} (h : cs[k]? = some c) : tnAt l cs k = tn1 l (oldL (cs.take k)) c := by unfold tnAt; rw [chAt_eq h]
theorem tn1_len (l : List Kl) (o : Int) (c : Ch) : (tn1 l o c).length ≤ l.length + 1 := by
  unfold tn1
  split
  · simp
  · split
    · rw [adds_len]
      have h1 := len_join (part l o (o + c.2.2.2))
      have h2 := part_len l o (o + c.2.2.2)
      omega
    · simp
theorem tnUp_len (l : List Kl) (cs : List Ch) (k : Nat) : (tnUp l cs k).length ≤ k * (l.length + 1) := by
  induction k with
  | zero => simp [tnUp]
  | succ k ih =>
    rw [tnUp_succ, List.length_append, Nat.succ_mul]
    have : (tnAt l cs k).length ≤ l.length + 1 := tn1_len _ _ _
    omega
theorem tnUp_bd {l : List Kl} {cs : List Ch} {k : Nat} (hl : l.length ≤ 300) (hk : k ≤ 300) : (tnUp l cs k).length ≤ 100000 := by
  have h := tnUp_len l cs k
  have h2 : k * (l.length + 1) ≤ 300 * 301 := Nat.mul_le_mul hk (by omega)
  omega
theorem tflat_len {n : Nat} {l : List Kl} {cs : List Ch} (hl : l.length ≤ 300) (pre : List (Fin n)) (hn : pre.length ≤ 300) : (pre.flatMap (fun x => tnAt l cs x.1)).length ≤ 100000 := by
  have h : ∀ p : List (Fin n), (p.flatMap (fun x => tnAt l cs x.1)).length ≤ p.length * 301 := by
    intro p
    induction p with
    | nil => simp
    | cons x p ih =>
      rw [List.flatMap_cons, List.length_append, List.length_cons]
      have : (tnAt l cs x.1).length ≤ l.length + 1 := tn1_len _ _ _
      omega
  have := h pre
  omega
theorem fin_tn (l : List Kl) (cs : List Ch) : (List.finRange cs.length).flatMap (fun x => tnAt l cs x.1) = tnUp l cs cs.length := by
  unfold tnUp; rw [← fin_val, List.flatMap_map]
/-- what Turned gives -/
def turnedOf (l : List Kl) (cs : List Ch) : Option (List Ch) := if (applyOf l cs).isSome then some (tnUp l cs cs.length) else none
def outC (r : Option (List Ch)) : List Ch := r.getD []
theorem turned_len (l : List Kl) (cs : List Ch) : (outC (turnedOf l cs)).length ≤ 100000 := by
  unfold turnedOf
  split
  · rename_i h
    unfold applyOf at h
    split at h
    · rename_i h2
      exact tnUp_bd h2.1.1 h2.2.1.1
    · simp at h
  · simp [outC]
theorem apply_some {l : List Kl} {cs : List Ch} (h : (applyOf l cs).isSome = true) : TOk l ∧ LOk cs ∧ oldL cs = clen l := by
  unfold applyOf at h
  split at h
  · assumption
  · simp at h
def TnR (w w' : World) (r : Option (List Ch)) (e : Ending) : Prop :=
  ∃ g c, e = .returned (.tuple #[.slice (some ⟨g, 0, none⟩) (outC r).length c, .bool r.isSome]) ∧ w.heap.size ≤ g ∧ OwnC w' w.heap.size g (outC r).length c (outC r) ∧ Below w.heap.size w w'
theorem tnR_none {w wx : World} {r : Option (List Ch)} (hr : r = none) (hb : Below w.heap.size w wx) : TnR w (wx.alloc (.cells #[] 103)) r (.returned (.tuple #[.slice (some ⟨wx.heap.size, 0, none⟩) 0 0, .bool false])) := by
  subst hr
  exact ⟨wx.heap.size, 0, rfl, hb.size, ownc_lit0 wx hb.size, hb.alloc hb.size _⟩

theorem grown_step {w X Y : World} {g gc : Nat} (h : w.grownBy X (some g)) (k : X.grownBy Y (some gc)) (hg : gc = g ∨ w.heap.size ≤ gc) : w.grownBy Y (some g) :=
  ⟨k.os.trans h.os, k.tape.trans h.tape, k.output.trans h.output, Nat.le_trans h.size k.size, fun j hj hn => (k.block j (Nat.lt_of_lt_of_le hj h.size) (by intro e; injection e with e; rcases hg with h' | h' <;> first | exact hn (by rw [e, h']) | omega)).trans (h.block j hj hn)⟩
theorem grown_below {w X Y : World} {g : Nat} (h : w.grownBy X (some g)) (k : Below X.heap.size X Y) : w.grownBy Y (some g) :=
  ⟨k.os.trans h.os, k.tape.trans h.tape, k.output.trans h.output, Nat.le_trans h.size k.size, fun j hj hn => (k.block j (Nat.lt_of_lt_of_le hj h.size)).trans (h.block j hj hn)⟩
theorem below_grown' {B : Nat} {w X : World} {g : Nat} (h : w.grownBy X (some g)) (hB : B ≤ g) (hw : B ≤ w.heap.size) : Below B w X :=
  ⟨h.os, h.tape, h.output, h.size, fun j hj => h.block j (by omega) (by intro e; injection e with e; omega)⟩

end Go.Proofs.YtioaehjppiodfaaGreatDoor
