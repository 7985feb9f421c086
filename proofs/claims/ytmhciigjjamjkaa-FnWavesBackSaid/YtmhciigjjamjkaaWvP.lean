/-
  Sums of products with roots as relations, all NaNs one: like lists give like sums; no conditions.
-/
import Derived.Test.YtmhciigjjamjkaaWv2
import Derived.Deep.AppendLies
namespace Go.Proofs.Ytmhciigjjamjkaa
open Go.RowKit
set_option linter.unusedVariables false
set_option linter.unusedSimpArgs false

/-- s is the sum of the first k products -/
def Pk (l : List (Nat × Nat)) (f : Nat → Nat) : Nat → Nat × Nat → Prop
  | 0, s => s = (0, 0)
  | k + 1, s => ∃ s0 x p : Nat × Nat, Pk l f k s0 ∧ l[k]? = some x ∧ CPr x.1 x.2 (rt (f k)).1 (rt (f k)).2 p.1 p.2 ∧ Res .add s0.1 p.1 s.1 ∧ Res .add s0.2 p.2 s.2
theorem Pk.sm {l : List (Nat × Nat)} {f : Nat → Nat} {k : Nat} {s t : Nat × Nat} (h : Pk l f k s) (h' : Pk l f k t) : Sm s.1 t.1 ∧ Sm s.2 t.2 := by
  induction k generalizing s t with
  | zero => cases h; cases h'; exact ⟨Sm.rfl, Sm.rfl⟩
  | succ k ih =>
    obtain ⟨s0, x, p, h1, h2, h3, h4, h5⟩ := h
    obtain ⟨t0, y, q, k1, k2, k3, k4, k5⟩ := h'
    rw [h2] at k2
    cases k2
    have e := ih h1 k1
    have m := h3.sm k3 Sm.rfl Sm.rfl Sm.rfl Sm.rfl
    exact ⟨h4.sm k4 e.1 m.1, h5.sm k5 e.2 m.2⟩
theorem Pk.congr {l : List (Nat × Nat)} {f g : Nat → Nat} {k : Nat} {s : Nat × Nat} (h : Pk l f k s) (e : ∀ i, i < k → f i = g i) : Pk l g k s := by
  induction k generalizing s with
  | zero => exact h
  | succ k ih =>
    obtain ⟨s0, x, p, h1, h2, h3, h4, h5⟩ := h
    exact ⟨s0, x, p, ih h1 (fun i hi => e i (by omega)), h2, by rw [← e k (by omega)]; exact h3, h4, h5⟩
/-- which root the model takes -/
def fS (bk : Bool) (n j k : Nat) : Nat := if bk then (8 - 8 / n * j * k % 8) % 8 else 8 / n * j * k % 8
theorem fS_lt (bk : Bool) (n j k : Nat) : fS bk n j k < 8 := by unfold fS; split <;> omega
/-- v is the wave number j -/
def WvE (bk : Bool) (l : List (Nat × Nat)) (j : Nat) (v : Nat × Nat) : Prop :=
  ∃ s, Pk l (fS bk l.length j) l.length s ∧ (if bk then Res .quo s.1 (floatOfInt .f64 l.length) v.1 ∧ Res .quo s.2 (floatOfInt .f64 l.length) v.2 else v = s)
theorem WvE.sm {bk : Bool} {l : List (Nat × Nat)} {j : Nat} {v u : Nat × Nat} (h : WvE bk l j v) (h' : WvE bk l j u) : Sm v.1 u.1 ∧ Sm v.2 u.2 := by
  obtain ⟨s, h1, h2⟩ := h
  obtain ⟨t, k1, k2⟩ := h'
  have e := h1.sm k1
  cases bk with
  | true =>
    simp at h2 k2
    exact ⟨h2.1.sm k2.1 e.1 Sm.rfl, h2.2.sm k2.2 e.2 Sm.rfl⟩
  | false =>
    simp at h2 k2
    subst h2 k2
    exact e
/-- L are the first k waves -/
def WvL (bk : Bool) (l : List (Nat × Nat)) (k : Nat) (L : List (Nat × Nat)) : Prop := L.length = k ∧ ∀ (j : Nat) (v : Nat × Nat), L[j]? = some v → WvE bk l j v
theorem WvL.nil (bk : Bool) (l : List (Nat × Nat)) : WvL bk l 0 [] := ⟨rfl, fun j v h => by simp at h⟩
theorem WvL.snoc {bk : Bool} {l : List (Nat × Nat)} {k : Nat} {L : List (Nat × Nat)} {v : Nat × Nat} (h : WvL bk l k L) (hv : WvE bk l k v) : WvL bk l (k + 1) (L ++ [v]) := by
  refine ⟨by simp [h.1], ?_⟩
  intro j u hu
  by_cases e : j < k
  · rw [List.getElem?_append_left (by rw [h.1]; exact e)] at hu
    exact h.2 j u hu
  · by_cases e2 : j = k
    · subst e2
      rw [List.getElem?_append_right (by rw [h.1]; exact Nat.le_refl _), h.1] at hu
      simp at hu
      subst hu
      exact hv
    · rw [List.getElem?_append_right (by rw [h.1]; omega), h.1] at hu
      have : j - k = (j - k - 1) + 1 := by omega
      rw [this] at hu
      simp at hu
def okN (n : Nat) : Prop := n = 1 ∨ n = 2 ∨ n = 4 ∨ n = 8
def WvV (bk : Bool) (l L : List (Nat × Nat)) : Prop := (okN l.length ∧ WvL bk l l.length L) ∨ (¬ okN l.length ∧ L = [])
theorem WvV.sm {bk : Bool} {l L M : List (Nat × Nat)} (h : WvV bk l L) (h' : WvV bk l M) : SmC L M := by
  rcases h with ⟨h1, h2⟩ | ⟨h1, h2⟩ <;> rcases h' with ⟨k1, k2⟩ | ⟨k1, k2⟩
  · refine ⟨h2.1.trans k2.1.symm, ?_⟩
    intro j x y hx hy
    exact (h2.2 j x hx).sm (k2.2 j y hy)
  · exact absurd h1 k1
  · exact absurd k1 h1
  · rw [h2, k2]; exact SmC.rfl
theorem WvV.len {bk : Bool} {l L : List (Nat × Nat)} (h : WvV bk l L) : L.length ≤ 4096 := by
  rcases h with ⟨h1, h2⟩ | ⟨h1, h2⟩
  · rw [h2.1]; unfold okN at h1; omega
  · rw [h2]; simp

theorem keepA {w w0 : World} {a1 a2 : Addr} {v1 v2 : Value} {o : Obj}
    (h : w0.cell? a1 = some v1 ∧ w0.cell? a2 = some v2 ∧ Below w.heap.size w w0) :
    (w0.alloc o).cell? a1 = some v1 ∧ (w0.alloc o).cell? a2 = some v2 ∧ Below w.heap.size w (w0.alloc o) := keep2 h ((Below.refl _ _).alloc (Nat.le_refl _) _)
theorem keepI {w : World} {a1 a2 : Addr} {v1 v2 : Value} (h1 : w.cell? a1 = some v1) (h2 : w.cell? a2 = some v2) :
    w.drew.cell? a1 = some v1 ∧ w.drew.cell? a2 = some v2 ∧ Below w.heap.size w w.drew := ⟨h1, h2, (Below.refl _ _).drew⟩
theorem keepAD {w : World} {a1 a2 : Addr} {v1 v2 : Value} {o : Obj} (h1 : w.cell? a1 = some v1) (h2 : w.cell? a2 = some v2) :
    (w.alloc o).drew.cell? a1 = some v1 ∧ (w.alloc o).drew.cell? a2 = some v2 ∧ Below w.heap.size w (w.alloc o).drew := keep2d (keepA ⟨h1, h2, Below.refl _ _⟩)
theorem cf_later {w0 w1 : World} {a : Addr} {v : Value} (hb : Below w0.heap.size w0 w1) (h : w0.cell? a = some v ∧ w0.frozen? a = false) : w1.cell? a = some v ∧ w1.frozen? a = false :=
  ⟨cell_later hb h.1, (hb.frozen (World.block_lt_of_cell? _ _ h.1)).trans h.2⟩
theorem cf_at {w0 w1 : World} {a : Addr} {v : Value} {B : Nat} (hb : Below B w0 w1) (hB : a.block < B) (h : w0.cell? a = some v ∧ w0.frozen? a = false) : w1.cell? a = some v ∧ w1.frozen? a = false :=
  ⟨(hb.cell hB).trans h.1, (hb.frozen hB).trans h.2⟩
theorem alloc_later {w0 w1 : World} {u v : Value} {t : TypeId} {B : Nat} (hb : Below B (w0.alloc (.cells #[u, v] t)) w1) (hB : w0.heap.size < B) :
    w1.cell? ⟨w0.heap.size, 0, none⟩ = some u ∧ w1.frozen? ⟨w0.heap.size, 0, none⟩ = false ∧ w1.cell? ⟨w0.heap.size, 1, none⟩ = some v ∧ w1.frozen? ⟨w0.heap.size, 1, none⟩ = false := by
  have A := cf_at (a := ⟨w0.heap.size, 0, none⟩) (v := u) hb hB ⟨by simp [go_sem], by simp [go_sem]⟩
  have B := cf_at (a := ⟨w0.heap.size, 1, none⟩) (v := v) hb hB ⟨by simp [go_sem], by simp [go_sem]⟩
  exact ⟨A.1, A.2, B.1, B.2⟩
theorem keepSt {w w0 : World} {b1 o1 o2 A i j : Nat} {v1 v2 u v : Value} (h : w0.cell? ⟨b1, o1, none⟩ = some v1 ∧ w0.cell? ⟨b1, o2, none⟩ = some v2 ∧ Below w.heap.size w w0) (hA : w.heap.size ≤ A) (hb : b1 < w.heap.size) :
    ((w0.setCell ⟨A, i, none⟩ u).setCell ⟨A, j, none⟩ v).cell? ⟨b1, o1, none⟩ = some v1 ∧ ((w0.setCell ⟨A, i, none⟩ u).setCell ⟨A, j, none⟩ v).cell? ⟨b1, o2, none⟩ = some v2 ∧ Below w.heap.size w ((w0.setCell ⟨A, i, none⟩ u).setCell ⟨A, j, none⟩ v) := by
  obtain ⟨h1, h2, h3⟩ := h
  have R : ∀ o, ((w0.setCell ⟨A, i, none⟩ u).setCell ⟨A, j, none⟩ v).cell? ⟨b1, o, none⟩ = w0.cell? ⟨b1, o, none⟩ := by
    intro o
    rw [World.cell?_setCell_other _ _ _ _ (ne_blk (by omega)), World.cell?_setCell_other _ _ _ _ (ne_blk (by omega))]
  exact ⟨(R _).trans h1, (R _).trans h2, (h3.setCell hA _).setCell hA _⟩
theorem keepB {w w0 : World} {b1 o1 o2 : Nat} {v1 v2 : Value} {z o : Obj} (h : (w0.alloc z).cell? ⟨b1, o1, none⟩ = some v1 ∧ (w0.alloc z).cell? ⟨b1, o2, none⟩ = some v2 ∧ Below w.heap.size w (w0.alloc z)) (hA : w.heap.size ≤ w0.heap.size) (hb : b1 < w.heap.size) :
    (w0.alloc o).cell? ⟨b1, o1, none⟩ = some v1 ∧ (w0.alloc o).cell? ⟨b1, o2, none⟩ = some v2 ∧ Below w.heap.size w (w0.alloc o) := by
  obtain ⟨h1, h2, h3⟩ := h
  have E : ∀ b, b < w0.heap.size → (w0.alloc o).heap[b]? = (w0.alloc z).heap[b]? := by
    intro b hb
    show (w0.heap.push o)[b]? = (w0.heap.push z)[b]?
    rw [Array.getElem?_push_lt hb, Array.getElem?_push_lt hb]
  have hb' : b1 < w0.heap.size := by omega
  refine ⟨(World.cell?_of_block (a := ⟨b1, o1, none⟩) (E b1 hb')).trans h1, (World.cell?_of_block (a := ⟨b1, o2, none⟩) (E b1 hb')).trans h2, ⟨h3.os, h3.tape, h3.output, ?_, ?_⟩⟩
  · have := h3.size
    have e : (w0.alloc o).heap.size = (w0.alloc z).heap.size := by simp
    rw [e]; exact this
  · intro b hb
    exact (E b (by omega)).trans (h3.block b hb)
theorem own_blk {w w1 : World} {B C g n m cap : Nat} {e : TypeId} {xs : List Value} (ho : w.ownsRow B e m (.slice (some ⟨g, 0, none⟩) n cap) n xs) (hb : Below C w w1) (hg : g < C) : w1.ownsRow B e m (.slice (some ⟨g, 0, none⟩) n cap) n xs := by
  obtain ⟨h1, h2⟩ := ho
  refine ⟨h1, ?_⟩
  rcases h2 with h2 | ⟨g', cap', cur, hv, hB, hh, r⟩
  · exact Or.inl h2
  · refine Or.inr ⟨g', cap', cur, hv, hB, ?_, r⟩
    injection hv with e1
    injection e1 with e1
    injection e1 with e1
    subst e1
    rw [hb.block g hg]; exact hh
theorem cx_news {w : World} {E : Nat} {v : Nat × Nat} {t : TypeId} {m : Nat × Nat} (hblk : w.heap[E]? = some (.cells #[.float .f64 v.1, .float .f64 v.2] t m)) : ∀ j u, [fl v.1, fl v.2][j]? = some u → w.cell? ((⟨E, 0, none⟩ : Addr).add j) = some u := by
  have := World.news_of_block hblk
  simpa [fl] using this

theorem wpList_cx {ops : Array Oper} {rest : List Oper} {o : Oper} {a : Act} {Q : Exit → Act → World → Prop} (w : World) (hgd : o.guard = none) (s x : Operand) (ho : o.op = .call { callee := .builtin .append, args := #[s, x], argTypes := #[25, 25] })
    (B g n cap : Nat) (L : List (Nat × Nat)) (v : Nat × Nat) (hs : a.eval s = .slice (some ⟨g, 0, none⟩) n cap) (hown : w.ownsRow B 28 2 (.slice (some ⟨g, 0, none⟩) n cap) n (flC L)) (E : Nat) (hx : a.eval x = .slice (some ⟨E, 0, none⟩) 1 1)
    (hblk : w.heap[E]? = some (.cells #[.float .f64 v.1, .float .f64 v.2] 28 (0, 0))) (hl : n ≤ 1000000) (hB : B ≤ w.heap.size)
    (h : ∀ g' cap' w', w'.ownsRow B 28 2 (.slice (some ⟨g', 0, none⟩) (n + 1) cap') (n + 1) (flC (L ++ [v])) → Below B w w' → B ≤ g' → wpList Try.prog ops Q rest (a.put o.dst (.slice (some ⟨g', 0, none⟩) (n + 1) cap')) w') : wpList Try.prog ops Q (o :: rest) a w := by
  obtain ⟨i0, hi, hz0, hz1, hz2⟩ := info_parts info25
  have hBg : B ≤ g := (hown.lt g rfl).1
  refine wpList_append_lies w hgd s x 25 ho B 28 i0 (.agg #[.float .f64 0, .float .f64 0]) 2 16 Try.underlying25 hi hz0 hz1 hz2 rfl (by decide) _ n (flC L) hs hown ⟨E, 0, none⟩ 1 1 [fl v.1, fl v.2] hx rfl (cx_news hblk) (by intro u hu; simp at hu; rcases hu with rfl | rfl <;> rfl) (by decide) (by unfold maxLen; omega) (by omega) hB w.heap.size rfl ?_
  intro g' cap' w' h1 h2 h3 h4
  refine h g' cap' w' (by rw [flC_append]; exact h1) ?_ ?_
  · exact (Below.refl _ _).grown h2 hB (fun k hk => by simp [Value.ownBlock] at hk; omega)
  · rcases h3 with h3 | h3
    · simp [Value.ownBlock] at h3; omega
    · omega

theorem wpList_cxN {ops : Array Oper} {rest : List Oper} {o : Oper} {a : Act} {Q : Exit → Act → World → Prop} {X wr : World} {B C g n cap v1 v2 : Nat} {L : List (Nat × Nat)} (hgd : o.guard = none) (s x : Operand) (ho : o.op = .call { callee := .builtin .append, args := #[s, x], argTypes := #[25, 25] })
    (hs : a.eval s = .slice (some ⟨g, 0, none⟩) n cap) (hown : wr.ownsRow B 28 2 (.slice (some ⟨g, 0, none⟩) n cap) n (flC L)) (hX : Below C wr X) (hg : g < C) (E : Nat) (hE : X.heap.size = E) (hx : a.eval x = .slice (some ⟨E, 0, none⟩) 1 1) (hl : n ≤ 1000000) (hB : B ≤ wr.heap.size) (hBC : B ≤ C)
    (h : ∀ g' cap' w', w'.ownsRow B 28 2 (.slice (some ⟨g', 0, none⟩) (n + 1) cap') (n + 1) (flC (L ++ [(v1, v2)])) → Below B wr w' → B ≤ g' → g' < w'.heap.size → wpList Try.prog ops Q rest (a.put o.dst (.slice (some ⟨g', 0, none⟩) (n + 1) cap')) w') : wpList Try.prog ops Q (o :: rest) a (X.alloc (.cells #[.float .f64 v1, .float .f64 v2] 28)) := by
  subst hE
  have hb2 : Below B wr (X.alloc (.cells #[.float .f64 v1, .float .f64 v2] 28)) := (hX.mono hBC).alloc (Nat.le_trans hB hX.size) _
  refine wpList_cx _ hgd s x ho B g n cap L (v1, v2) hs (own_blk (own_blk hown hX hg) ((Below.refl X.heap.size X).alloc (Nat.le_refl _) _) ?_) X.heap.size hx (heap_alloc_new X _) hl (Nat.le_trans hB hb2.size) ?_
  · exact (own_lt (own_blk hown hX hg))
  · intro g' cap' w' h1 h2 h3
    exact h g' cap' w' h1 (hb2.trans h2) h3 (own_lt h1)

end Go.Proofs.Ytmhciigjjamjkaa
