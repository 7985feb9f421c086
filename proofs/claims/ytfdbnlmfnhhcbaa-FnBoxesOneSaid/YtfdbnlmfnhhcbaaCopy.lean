/-
  Contracts of the law's own functions that weigh, copy and hold against each other lists of boxes: each answers, and nothing that was there is written.
-/
import Derived.Test.YtfdbnlmfnhhcbaaMem
namespace Go.Proofs.Ytfdbnlmfnhhcbaa
open Go.RowKit
set_option linter.unusedVariables false
set_option linter.unusedSimpArgs false

/-- all texts and byte lists of l are at most n long -/
def Small (n : Int) (l : List Bx) : Prop := ∀ x ∈ l, (x.k.size : Int) + (x.z.length : Int) ≤ n
theorem Small.snoc {n : Int} {l : List Bx} {x : Bx} (h : Small n l) (hx : (x.k.size : Int) + (x.z.length : Int) ≤ n) : Small n (l ++ [x]) := by
  intro y hy
  rcases List.mem_append.1 hy with hy | hy
  · exact h y hy
  · simp at hy; subst hy; exact hx

/-- the cells of boxes from number k to n behind block g are there, and may be written -/
def Spare (w : World) (g k n : Nat) : Prop := (∀ j, k ≤ j → j < n → (∃ v, w.cell? ⟨g, j * 3, none⟩ = some v) ∧ (∃ v, w.cell? ⟨g, j * 3 + 1, none⟩ = some v) ∧ ∃ v, w.cell? ⟨g, j * 3 + 2, none⟩ = some v) ∧ ∀ o, w.frozen? ⟨g, o, none⟩ = false
theorem Spare.same {w w' : World} {g k n : Nat} (h : Spare w g k n) (hs : w'.heap[g]? = w.heap[g]?) : Spare w' g k n := by
  have C := fun i => World.cell?_of_block (a := ⟨g, i, none⟩) hs
  have F := fun i => World.frozen?_of_block (a := ⟨g, i, none⟩) hs
  refine ⟨fun j h1 h2 => ?_, fun o => (F o).trans (h.2 o)⟩
  obtain ⟨⟨v0, h0⟩, ⟨v1, h1⟩, ⟨v2, h2⟩⟩ := h.1 j h1 h2
  exact ⟨⟨v0, (C _).trans h0⟩, ⟨v1, (C _).trans h1⟩, ⟨v2, (C _).trans h2⟩⟩
theorem ne_addr {g i j : Nat} (h : i ≠ j) : (⟨g, i, none⟩ : Addr) ≠ ⟨g, j, none⟩ := by intro e; injection e with _ e2 _; exact h e2
theorem ne_blk {g g' i j : Nat} (h : g ≠ g') : (⟨g, i, none⟩ : Addr) ≠ ⟨g', j, none⟩ := by intro e; injection e with e1 _ _; exact h e1
/-- three cells of one box written -/
def put3 (w : World) (g k : Nat) (v0 v1 v2 : Value) : World := ((w.setCell ⟨g, k * 3, none⟩ v0).setCell ⟨g, k * 3 + 1, none⟩ v1).setCell ⟨g, k * 3 + 2, none⟩ v2
theorem put3_cell {w : World} {g k o : Nat} {v0 v1 v2 : Value} (h0 : o ≠ k * 3) (h1 : o ≠ k * 3 + 1) (h2 : o ≠ k * 3 + 2) : (put3 w g k v0 v1 v2).cell? ⟨g, o, none⟩ = w.cell? ⟨g, o, none⟩ := by
  unfold put3
  rw [World.cell?_setCell_other _ _ _ _ (ne_addr (Ne.symm h2)), World.cell?_setCell_other _ _ _ _ (ne_addr (Ne.symm h1)), World.cell?_setCell_other _ _ _ _ (ne_addr (Ne.symm h0))]
theorem put3_frozen {w : World} {g k : Nat} {v0 v1 v2 : Value} (p : Addr) : (put3 w g k v0 v1 v2).frozen? p = w.frozen? p := by
  unfold put3; rw [World.frozen?_setCell, World.frozen?_setCell, World.frozen?_setCell]
theorem put3_block {w : World} {g k b : Nat} {v0 v1 v2 : Value} (h : b ≠ g) : (put3 w g k v0 v1 v2).heap[b]? = w.heap[b]? := by
  unfold put3; rw [Below.heap_setCell _ _ _ _ h, Below.heap_setCell _ _ _ _ h, Below.heap_setCell _ _ _ _ h]
theorem put3_same {w : World} {g k : Nat} {v0 v1 v2 u0 u1 u2 : Value} (h0 : w.cell? ⟨g, k * 3, none⟩ = some u0) (h1 : w.cell? ⟨g, k * 3 + 1, none⟩ = some u1) (h2 : w.cell? ⟨g, k * 3 + 2, none⟩ = some u2) :
    (put3 w g k v0 v1 v2).cell? ⟨g, k * 3, none⟩ = some v0 ∧ (put3 w g k v0 v1 v2).cell? ⟨g, k * 3 + 1, none⟩ = some v1 ∧ (put3 w g k v0 v1 v2).cell? ⟨g, k * 3 + 2, none⟩ = some v2 := by
  unfold put3
  refine ⟨?_, ?_, ?_⟩
  · rw [World.cell?_setCell_other _ _ _ _ (ne_addr (by omega)), World.cell?_setCell_other _ _ _ _ (ne_addr (by omega))]
    exact World.cell?_setCell_same _ _ _ h0
  · rw [World.cell?_setCell_other _ _ _ _ (ne_addr (by omega))]
    exact World.cell?_setCell_same _ _ _ (show _ = some u1 by rw [World.cell?_setCell_other _ _ _ _ (ne_addr (by omega))]; exact h1)
  · exact World.cell?_setCell_same _ _ _ (show _ = some u2 by rw [World.cell?_setCell_other _ _ _ _ (ne_addr (by omega)), World.cell?_setCell_other _ _ _ _ (ne_addr (by omega))]; exact h2)
theorem put3_spare {w : World} {g k n : Nat} {v0 v1 v2 : Value} (h : Spare w g k n) : Spare (put3 w g k v0 v1 v2) g (k + 1) n := by
  refine ⟨fun j h1 h2 => ?_, fun o => by rw [put3_frozen]; exact h.2 o⟩
  obtain ⟨⟨v0, h0⟩, ⟨v1, h1'⟩, ⟨v2, h2'⟩⟩ := h.1 j (by omega) h2
  exact ⟨⟨v0, by rw [put3_cell (by omega) (by omega) (by omega)]; exact h0⟩, ⟨v1, by rw [put3_cell (by omega) (by omega) (by omega)]; exact h1'⟩, ⟨v2, by rw [put3_cell (by omega) (by omega) (by omega)]; exact h2'⟩⟩
def upd (A : Nat → Option Addr × Nat) (k : Nat) (v : Option Addr × Nat) : Nat → Option Addr × Nat := fun j => if j = k then v else A j
theorem put3_bxs {w : World} {lo hi g k n : Nat} {A : Nat → Option Addr × Nat} {l : List Bx} {x : Bx} {a' : Option Addr} {cap' : Nat} (hx : l[k]? = some x) (h : Bxs true lo hi w (some ⟨g, 0, none⟩) A (l.take k)) (hs : Spare w g k n) (hkn : k < n)
    (hlo : lo ≤ g) (hhi : g < hi) (hr : Row true lo hi w a' x.z) (hg : ∀ y, a' = some y → y.block ≠ g) (k1 : x.k.size ≤ maxLen) (d0 : -9223372036854775808 ≤ x.d) (d1 : x.d ≤ 9223372036854775807) (z1 : x.z.length ≤ cap') (z2 : cap' ≤ maxLen) :
    Bxs true lo hi (put3 w g k (.string x.k) (.int .i64 x.d) (.slice a' x.z.length cap')) (some ⟨g, 0, none⟩) (upd A k (a', cap')) (l.take (k + 1)) := by
  have hrow : ∀ {a zs}, Row true lo hi w a zs → (∀ y, a = some y → y.block ≠ g) → Row true lo hi (put3 w g k (.string x.k) (.int .i64 x.d) (.slice a' x.z.length cap')) a zs := by
    intro a zs hR hne j z hz
    obtain ⟨b, o, e, h1, h2, hc, z0, z1, hf⟩ := hR j z hz
    have hs := put3_block (w := w) (k := k) (v0 := .string x.k) (v1 := .int .i64 x.d) (v2 := .slice a' x.z.length cap') (hne _ e)
    exact ⟨b, o, e, h1, h2, (World.cell?_of_block (a := ⟨b, o + j, none⟩) hs).trans hc, z0, z1, fun ho => (World.frozen?_of_block (a := ⟨b, o + j, none⟩) hs).trans (hf ho)⟩
  intro j y hy
  have hkl : k < l.length := (List.getElem?_eq_some_iff.1 hx).1
  by_cases hj : j = k
  · subst hj
    rw [take_snoc hx, List.getElem?_append_right (by simp; omega)] at hy
    have e0 : j - (l.take j).length = 0 := by simp; omega
    rw [e0] at hy
    simp at hy
    subst hy
    obtain ⟨⟨v0, h0⟩, ⟨v1, h1⟩, ⟨v2, h2⟩⟩ := hs.1 j (Nat.le_refl _) hkn
    obtain ⟨c0, c1, c2⟩ := put3_same (v0 := .string x.k) (v1 := .int .i64 x.d) (v2 := .slice a' x.z.length cap') h0 h1 h2
    have eA : upd A j (a', cap') j = (a', cap') := if_pos rfl
    refine ⟨g, 0, rfl, hlo, hhi, by rw [Nat.zero_add]; exact c0, by rw [Nat.zero_add]; exact c1, by rw [Nat.zero_add, eA]; exact c2, by rw [eA]; exact hrow hr hg, k1, d0, d1, by rw [eA]; exact z1, by rw [eA]; exact z2, fun _ => ⟨?_, ?_, ?_, by rw [eA]; exact hg⟩⟩
    all_goals rw [put3_frozen]; exact hs.2 _
  · have hjl : j < (l.take (k + 1)).length := (List.getElem?_eq_some_iff.1 hy).1
    have hjk : j < k := by simp at hjl; omega
    have hy' : (l.take k)[j]? = some y := by rw [List.getElem?_take, if_pos hjk]; rw [List.getElem?_take, if_pos (by omega)] at hy; exact hy
    obtain ⟨b, o, e, i1, i2, c0, c1, c2, r, k1, e0, e1, y1, y2, hf⟩ := h j y hy'
    injection e with e
    injection e with eb eo _
    subst eb eo
    have eA : upd A k (a', cap') j = A j := if_neg hj
    refine ⟨g, 0, rfl, i1, i2, by rw [put3_cell (by omega) (by omega) (by omega)]; exact c0, by rw [put3_cell (by omega) (by omega) (by omega)]; exact c1, by rw [put3_cell (by omega) (by omega) (by omega), eA]; exact c2, by rw [eA]; exact hrow r (hf rfl).2.2.2, k1, e0, e1, by rw [eA]; exact y1, by rw [eA]; exact y2, fun _ => ⟨?_, ?_, ?_, by rw [eA]; exact (hf rfl).2.2.2⟩⟩
    · rw [put3_frozen]; exact (hf rfl).1
    · rw [put3_frozen]; exact (hf rfl).2.1
    · rw [put3_frozen]; exact (hf rfl).2.2.1
end Go.Proofs.Ytfdbnlmfnhhcbaa
