/-
  Apply of the program where the changes fit the track.
-/
import Derived.Test.YtfcjdempigoiiaaIApN
import Derived.Test.YtfcjdempigoiiaaJn2
import Derived.Test.YtfcjdempigoiiaaPt2
namespace Go.Proofs.Ytfcjdempigoiiaa
open Go.RowKit Go.Shelf
set_option linter.unusedVariables false
set_option linter.unusedSimpArgs false
attribute [local go_sem] Oper.semAt_some

theorem blk2 {X : World} {b : Nat} {t : TypeId} {v0 v1 : Value} (h : X.heap[b]? = some (.cells #[v0, v1] t (0, 0))) : X.cell? ⟨b, 0, none⟩ = some v0 ∧ X.cell? ⟨b, 1, none⟩ = some v1 := by
  refine ⟨?_, ?_⟩ <;> simp [World.cell?, h]
/-- clips behind an owned list, at a step of a region that draws its order: it lies where it lay, or in a new block -/
theorem step_apps {T : TypeId} (hT : Try.prog.underlying T = some (.slice 63)) {ops : Array Oper} {o : Oper} {a : Act} {K : Act → World → Prop} {Q : Exit → Act → World → Prop} {E : Prop} (w : World) (hgd : o.guard = none) (s x : Operand) (ho : o.op = .call { callee := .builtin .append, args := #[s, x], argTypes := #[T, T] })
    (B g cap : Nat) (L1 L2 : List Kl) (b2 o2 c2 : Nat) (hs : a.eval s = .slice (some ⟨g, 0, none⟩) L1.length cap) (hown : Own w B g L1.length cap L1) (hx : a.eval x = .slice (some ⟨b2, o2, none⟩) L2.length c2) (hK : Kls w (some ⟨b2, o2, none⟩) L2) (hne : 0 < L2.length) (hl1 : L1.length ≤ 1000000) (hl2 : L2.length ≤ 1000000) (hB : B ≤ w.heap.size)
    (h : ∀ g' cap' w', Own w' B g' (L1 ++ L2).length cap' (L1 ++ L2) → w.grownBy w' (some g) → (g' = g ∨ g' = w.heap.size) → K (a.put o.dst (.slice (some ⟨g', 0, none⟩) (L1 ++ L2).length cap')) w') :
    if Region.wanted o (yielded ops a.tmps) = true then Oper.wp Try.prog o a w K Q else E := by
  obtain ⟨i0, hi, hz0, hz1, hz2⟩ := info_parts info44
  refine step_append_lies w hgd s x T ho B 63 i0 (.agg #[.int .i64 0, .int .i64 0, .int .i64 0]) 3 24 hT hi hz0 hz1 hz2 rfl (by decide) _ L1.length (flK L1) hs hown ⟨b2, o2, none⟩ L2.length c2 (flK L2) hx (flK_len _) (kls_news hK) (flK_one _) hne (by unfold maxLen; omega) (by omega) hB w.heap.size rfl ?_
  intro g' cap' w' h1 h2 h3 h4
  have := h g' cap' w' (by show World.ownsRow _ _ _ _ _ _ _; rw [flK_append, List.length_append]; exact h1) (by simpa [Value.ownBlock] using h2) (Or.imp (fun h3 => by simp [Value.ownBlock] at h3; exact h3.symm) id h3)
  rw [List.length_append] at this
  exact this
theorem part_pos {l : List Kl} (h : AOk l) {o n : Int} (h0 : 0 ≤ o) (h1 : 1 ≤ n) (h2 : o + n ≤ clen l) : 0 < (part l o (o + n)).length := by
  have hc := clen_part h o (o + n)
  cases hp : part l o (o + n) with
  | nil => rw [hp] at hc; simp [clen] at hc; omega
  | cons x m => simp

theorem own_ne {W : World} {B g n cap m b : Nat} {e t : TypeId} {xs : List Value} {c : Array Value} {f : Nat × Nat} (h : W.ownsRow B e m (.slice (some ⟨g, 0, none⟩) n cap) n xs) (hb : W.heap[b]? = some (.cells c t f)) (ht : t ≠ e) : b ≠ g := by
  intro hbg
  subst hbg
  rcases h.2 with ⟨hv, _⟩ | ⟨g', cap', cur, hv, _, hh, _⟩
  · cases hv
  · injection hv with e1
    injection e1 with e1
    injection e1 with e1
    subst e1
    rw [hb] at hh
    injection hh with hh
    injection hh with _ hh _
    exact ht hh
theorem below_undrew {n : Nat} {W X : World} (h : Below n W.drew X) : Below n W X := ⟨h.os, h.tape, h.output, h.size, h.block⟩
theorem cell_gr {X Y : World} {r b o : Nat} {v : Value} (hg : X.grownBy Y (some r)) (hne : b ≠ r) (h : X.cell? ⟨b, o, none⟩ = some v) : Y.cell? ⟨b, o, none⟩ = some v := by
  obtain ⟨x, hx, _⟩ := cells_of_cell h
  exact (World.cell?_of_block (a := ⟨b, o, none⟩) (hg.block b (Array.getElem?_eq_some_iff.1 hx).1 (by intro e; injection e with e; exact hne e))).trans h
theorem cell_set {X : World} {c p b o : Nat} {v u : Value} (hne : b ≠ c) (h : X.cell? ⟨b, o, none⟩ = some v) : (X.setCell ⟨c, p, none⟩ u).cell? ⟨b, o, none⟩ = some v :=
  (World.cell?_of_block (a := ⟨b, o, none⟩) (Below.heap_setCell X ⟨c, p, none⟩ u b hne)).trans h
/-- a variable's row, appended to in a round -/
theorem app_fin {w W w3 w4 : World} {s0 M r g' N cap N' cap' m bb : Nat} {t e : TypeId} {xs ys : List Value} (hte : t ≠ e)
    (iM : Boxed W M t (.slice (some ⟨r, 0, none⟩) N cap)) (iO : W.ownsRow s0 e m (.slice (some ⟨r, 0, none⟩) N cap) N xs) (iB : Below s0 w W) (hs : s0 = w.heap.size) (hM : s0 ≤ M)
    (hbb : bb < W.heap.size) (hrb : r ≠ bb) (k3 : Below W.heap.size W w3) (n4 : w4.ownsRow s0 e m (.slice (some ⟨g', 0, none⟩) N' cap') N' ys) (k4 : w3.grownBy w4 (some r)) (hg : g' = r ∨ w3.heap.size ≤ g') :
    Boxed w4 M t (.slice (some ⟨r, 0, none⟩) N cap) ∧ KeepsOthers W (w4.setCell ⟨M, 0, none⟩ (.slice (some ⟨g', 0, none⟩) N' cap')) ∧ KeepX M r W (w4.setCell ⟨M, 0, none⟩ (.slice (some ⟨g', 0, none⟩) N' cap')) ∧
    Boxed (w4.setCell ⟨M, 0, none⟩ (.slice (some ⟨g', 0, none⟩) N' cap')) M t (.slice (some ⟨g', 0, none⟩) N' cap') ∧ (w4.setCell ⟨M, 0, none⟩ (.slice (some ⟨g', 0, none⟩) N' cap')).ownsRow s0 e m (.slice (some ⟨g', 0, none⟩) N' cap') N' ys ∧
    Below s0 w (w4.setCell ⟨M, 0, none⟩ (.slice (some ⟨g', 0, none⟩) N' cap')) ∧ g' ≠ bb ∧ (∀ c o, W.heap[c]? = some o → c ≠ M → c ≠ r → (w4.setCell ⟨M, 0, none⟩ (.slice (some ⟨g', 0, none⟩) N' cap')).heap[c]? = some o) := by
  have hMr : M ≠ r := own_ne iO iM hte
  have hlt := own_lt iO
  have hge := own_ge iO
  have hMlt := iM.lt
  have b4 : Boxed w4 M t (.slice (some ⟨r, 0, none⟩) N cap) := by
    have h3 : w3.heap[M]? = _ := (k3.block M hMlt).trans iM
    exact (k4.block M (Nat.lt_of_lt_of_le hMlt k3.size) (by intro e; injection e with e; exact hMr e)).trans h3
  have hblk : ∀ c o, W.heap[c]? = some o → c ≠ M → c ≠ r → (w4.setCell ⟨M, 0, none⟩ (.slice (some ⟨g', 0, none⟩) N' cap')).heap[c]? = some o := fun c o hc h1 h2 => by
    have hcl := (Array.getElem?_eq_some_iff.1 hc).1
    rw [Below.heap_setCell _ ⟨M, 0, none⟩ _ c h1, k4.block c (Nat.lt_of_lt_of_le hcl k3.size) (by intro e; injection e with e; exact h2 e), k3.block c hcl]
    exact hc
  have hsz : W.heap.size ≤ (w4.setCell ⟨M, 0, none⟩ (.slice (some ⟨g', 0, none⟩) N' cap')).heap.size := by
    have h1 := k3.size
    have h2 := k4.size
    simp only [World.setCell, Array.size_modify]
    omega
  have hrc : ∀ o, W.heap[r]? = some o → o.isCells = true := fun o ho => by
    rcases iO.2 with ⟨hv, _⟩ | ⟨g1, c1, cur, hv, _, hh, _⟩
    · cases hv
    · injection hv with e1
      injection e1 with e1
      injection e1 with e1
      subst e1
      rw [ho] at hh
      injection hh with hh
      rw [hh]; rfl
  refine ⟨b4, ⟨hsz, fun c o hc ho => ?_⟩, ⟨hsz, fun c o hc ho h1 h2 => hblk c o hc h1 h2⟩, b4.set _, ?_, ?_, ?_, hblk⟩
  · refine hblk c o hc (fun e => ?_) (fun e => ?_)
    · subst e; rw [show W.heap[c]? = _ from iM] at hc; cases hc; cases ho
    · subst e; rw [hrc o hc] at ho; cases ho
  · exact own_kept n4 (grownBy_setCell' w4 M _) (by have := own_ne n4 b4 hte; exact fun h => this h.symm)
  · have h3 : Below s0 w w3 := iB.trans (k3.mono (by have := iB.size; omega))
    exact ((h3.grown k4 (by have := h3.size; omega) (fun k e => by injection e with e; omega)).setCell (p := ⟨M, 0, none⟩) hM _)
  · rcases hg with rfl | hg
    · exact hrb
    · have := k3.size; omega

end Go.Proofs.Ytfcjdempigoiiaa
