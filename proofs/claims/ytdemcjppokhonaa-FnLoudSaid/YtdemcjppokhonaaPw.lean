/-
  Contracts of Power, the model's and the program's: each gives a new list of the powers; nothing that was there is written.
-/
import Derived.Test.YtdemcjppokhonaaFCopy
import Derived.Deep.AppendLies
import Derived.Deep.CutRange
import Derived.Deep.CutBlock
namespace Go.Proofs.Ytdemcjppokhonaa
open Go.RowKit
set_option linter.unusedVariables false
set_option linter.unusedSimpArgs false

/-- v is the power of x -/
def PwE (x : Nat × Nat) (v : Nat) : Prop := ∃ p q, Res .mul x.1 x.1 p ∧ Res .mul x.2 x.2 q ∧ Res .add p q v
theorem PwE.sm {x : Nat × Nat} {v v' : Nat} (h : PwE x v) (h' : PwE x v') : Sm v v' := by
  obtain ⟨p, q, h1, h2, h3⟩ := h
  obtain ⟨p', q', k1, k2, k3⟩ := h'
  exact h3.sm k3 (h1.sm k1 Sm.rfl Sm.rfl) (h2.sm k2 Sm.rfl Sm.rfl)
/-- L are the powers of the first k of l -/
def PwL (l : List (Nat × Nat)) (k : Nat) (L : List Nat) : Prop := L.length = k ∧ ∀ (j : Nat) (x : Nat × Nat) (v : Nat), l[j]? = some x → L[j]? = some v → PwE x v
theorem PwL.nil (l : List (Nat × Nat)) : PwL l 0 [] := ⟨rfl, fun j x v _ h => by simp at h⟩
theorem PwL.snoc {l : List (Nat × Nat)} {k : Nat} {L : List Nat} {x : Nat × Nat} {v : Nat} (h : PwL l k L) (hx : l[k]? = some x) (hv : PwE x v) : PwL l (k + 1) (L ++ [v]) := by
  refine ⟨by simp [h.1], ?_⟩
  intro j y u hy hu
  by_cases e : j < k
  · rw [List.getElem?_append_left (by rw [h.1]; exact e)] at hu
    exact h.2 j y u hy hu
  · by_cases e2 : j = k
    · subst e2
      rw [hx] at hy
      cases hy
      rw [List.getElem?_append_right (by rw [h.1]; exact Nat.le_refl _), h.1] at hu
      simp at hu
      subst hu
      exact hv
    · rw [List.getElem?_append_right (by rw [h.1]; omega), h.1] at hu
      have : j - k = (j - k - 1) + 1 := by omega
      rw [this] at hu
      simp at hu
def PwV (l : List (Nat × Nat)) (L : List Nat) : Prop := (l.length ≤ 4096 ∧ PwL l l.length L) ∨ (¬ l.length ≤ 4096 ∧ L = [])
theorem PwV.sm {l : List (Nat × Nat)} {L M : List Nat} (h : PwV l L) (h' : PwV l M) : SmL L M := by
  rcases h with ⟨h1, h2⟩ | ⟨h1, h2⟩ <;> rcases h' with ⟨k1, k2⟩ | ⟨k1, k2⟩
  · refine ⟨h2.1.trans k2.1.symm, ?_⟩
    intro j x y hx hy
    have hj : j < l.length := by have := (List.getElem?_eq_some_iff.1 hx).1; rw [h2.1] at this; exact this
    exact (h2.2 j l[j] x (List.getElem?_eq_getElem hj) hx).sm (k2.2 j l[j] y (List.getElem?_eq_getElem hj) hy)
  · exact absurd h1 k1
  · exact absurd k1 h1
  · rw [h2, k2]; exact SmL.rfl
theorem PwV.len {l : List (Nat × Nat)} {L : List Nat} (h : PwV l L) : L.length ≤ 4096 := by
  rcases h with ⟨h1, h2⟩ | ⟨h1, h2⟩
  · rw [h2.1]; exact h1
  · rw [h2]; simp

theorem fl_news {w : World} {E : Nat} {v : Nat} {t : TypeId} {m : Nat × Nat} (hblk : w.heap[E]? = some (.cells #[.float .f64 v] t m)) : ∀ j u, [fl v][j]? = some u → w.cell? ((⟨E, 0, none⟩ : Addr).add j) = some u := by
  have := World.news_of_block hblk
  simpa [fl] using this

theorem wpList_fl {ops : Array Oper} {rest : List Oper} {o : Oper} {a : Act} {Q : Exit → Act → World → Prop} (w : World) (hgd : o.guard = none) (s x : Operand) (ho : o.op = .call { callee := .builtin .append, args := #[s, x], argTypes := #[24, 24] })
    (B g n cap : Nat) (L : List Nat) (v : Nat) (hs : a.eval s = .slice (some ⟨g, 0, none⟩) n cap) (hown : w.ownsRow B 25 1 (.slice (some ⟨g, 0, none⟩) n cap) n (L.map fl)) (E : Nat) (hx : a.eval x = .slice (some ⟨E, 0, none⟩) 1 1)
    (hblk : w.heap[E]? = some (.cells #[.float .f64 v] 25 (0, 0))) (hl : n ≤ 1000000) (hB : B ≤ w.heap.size)
    (h : ∀ g' cap' w', w'.ownsRow B 25 1 (.slice (some ⟨g', 0, none⟩) (n + 1) cap') (n + 1) ((L ++ [v]).map fl) → Below B w w' → B ≤ g' → wpList Try.prog ops Q rest (a.put o.dst (.slice (some ⟨g', 0, none⟩) (n + 1) cap')) w') : wpList Try.prog ops Q (o :: rest) a w := by
  obtain ⟨i0, hi, hz0, hz1, hz2⟩ := info_parts info22
  have hBg : B ≤ g := (hown.lt g rfl).1
  refine wpList_append_lies w hgd s x 24 ho B 25 i0 (.float .f64 0) 1 8 Try.underlying24 hi hz0 hz1 hz2 rfl (by decide) _ n (L.map fl) hs hown ⟨E, 0, none⟩ 1 1 [fl v] hx rfl (fl_news hblk) (by intro u hu; simp at hu; subst hu; rfl) (by decide) (by unfold maxLen; omega) (by omega) hB w.heap.size rfl ?_
  intro g' cap' w' h1 h2 h3 h4
  refine h g' cap' w' (by simpa using h1) ?_ ?_
  · exact (Below.refl _ _).grown h2 hB (fun k hk => by simp [Value.ownBlock] at hk; omega)
  · rcases h3 with h3 | h3
    · simp [Value.ownBlock] at h3; omega
    · omega

theorem wpList_flN {ops : Array Oper} {rest : List Oper} {o : Oper} {a : Act} {Q : Exit → Act → World → Prop} (w : World) (N : Nat) (hgd : o.guard = none) (s x : Operand) (ho : o.op = .call { callee := .builtin .append, args := #[s, x], argTypes := #[24, 24] })
    (B g n cap : Nat) (L : List Nat) (v : Nat) (hs : a.eval s = .slice (some ⟨g, 0, none⟩) n cap) (hown : w.ownsRow B 25 1 (.slice (some ⟨g, 0, none⟩) n cap) n (L.map fl)) (hx : a.eval x = .slice (some ⟨w.heap.size, 0, none⟩) 1 1)
    (hl : n ≤ 1000000) (hB : B ≤ w.heap.size)
    (h : ∀ g' cap' w', w'.ownsRow B 25 1 (.slice (some ⟨g', 0, none⟩) (n + 1) cap') (n + 1) ((L ++ [v]).map fl) → Below B w w' → B ≤ g' → wpList Try.prog ops Q rest (a.put o.dst (.slice (some ⟨g', 0, none⟩) (n + 1) cap')) w') : wpList Try.prog ops Q (o :: rest) a ((w.drewN N).alloc (.cells #[.float .f64 v] 25)) := by
  have hb : Below w.heap.size w ((w.drewN N).alloc (.cells #[.float .f64 v] 25)) := (below_drew N).alloc (Nat.le_refl _) _
  refine wpList_fl _ hgd s x ho B g n cap L v hs (ownsRow_below hown hb) w.heap.size hx (by simp [World.alloc, World.drewN]) hl (Nat.le_trans hB hb.size) ?_
  intro g' cap' w' h1 h2 h3
  exact h g' cap' w' h1 ((hb.mono hB).trans h2) h3

theorem re_map {w : World} {B n v : Nat} {V : Value} {L : List Nat} (h : Hid (w.ownsRow B 25 1 V n (L.map fl ++ [fl v]))) : Hid (w.ownsRow B 25 1 V n ((L ++ [v]).map fl)) := hide (by rw [List.map_append]; exact unhide h)

end Go.Proofs.Ytdemcjppokhonaa
