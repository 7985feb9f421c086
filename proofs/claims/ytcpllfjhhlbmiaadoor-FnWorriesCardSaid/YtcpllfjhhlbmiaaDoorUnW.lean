/-
  What can't be read of titles: worries that are appended; what stays beside them; nothing that was there is written.
-/
import Derived.Test.YtcpllfjhhlbmiaaDoorUnM
namespace Go.Proofs.YtcpllfjhhlbmiaaDoor
open Go.RowKit
set_option linter.unusedVariables false
set_option linter.unusedSimpArgs false

theorem V.wpList_g {ops : Array Oper} {rest : List Oper} {o : Oper} {a : Act} {Q : Exit → Act → World → Prop} (w : World) (hgd : o.guard = none) (s x : Operand) (ho : o.op = .call { callee := .builtin .append, args := #[s, x], argTypes := #[39, 39] })
    (B g n cap : Nat) (L : List V.Kl) (v : V.Kl) (hs : a.eval s = .slice (some ⟨g, 0, none⟩) n cap) (hown : V.Own w B g n cap L) (E : Nat) (hx : a.eval x = .slice (some ⟨E, 0, none⟩) 1 1)
    (hblk : w.heap[E]? = some (.cells #[.int .i64 v.1, .int .i64 v.2] 42 (0, 0))) (hl : n ≤ 1000000) (hB : B ≤ w.heap.size)
    (h : ∀ g' cap' w', V.Own w' B g' (n + 1) cap' (L ++ [v]) → w.grownBy w' (some g) → (g = g' ∨ g' = w.heap.size) → wpList Tryd.prog ops Q rest (a.put o.dst (.slice (some ⟨g', 0, none⟩) (n + 1) cap')) w') : wpList Tryd.prog ops Q (o :: rest) a w := by
  obtain ⟨i0, hi, hz0, hz1, hz2⟩ := info_parts V.info44
  refine wpList_append_lies w hgd s x 39 ho B 42 i0 (.agg #[.int .i64 0, .int .i64 0]) 2 16 Tryd.underlying39 hi hz0 hz1 hz2 rfl (by decide) _ n (V.flK L) hs hown ⟨E, 0, none⟩ 1 1 [iv v.1, iv v.2] hx rfl (V.K_news hblk) (by intro u hu; simp at hu; rcases hu with rfl | rfl <;> rfl) (by decide) (by unfold maxLen; omega) (by omega) hB w.heap.size rfl ?_
  intro g' cap' w' h1 h2 h3 h4
  refine h g' cap' w' (by show World.ownsRow _ _ _ _ _ _ _; rw [V.flK_append]; exact h1) h2 ?_
  rcases h3 with h3 | h3
  · left; simp [Value.ownBlock] at h3; exact h3
  · right; exact h3
theorem blk_grown {X Y : World} {g b : Nat} {o : Obj} (h : X.grownBy Y (some g)) (hb : X.heap[b]? = some o) (hne : b ≠ g) : Y.heap[b]? = some o := (h.block b (lt_blk hb) (fun e => by injection e with e; exact hne e)).trans hb
/-- worries under way: the row, what lay there, the style, the title -/
structure UW (w : World) (a1 a2 a3 a4 a5 : Int) (q : Nat) (x y : Int) (s : ByteArray) (g n c : Nat) (P : List V.Kl) (W : World) : Prop where
  own : V.Own W (w.heap.size + 1) g n c P
  bel : Below w.heap.size w W
  sty : W.heap[w.heap.size]? = some (.cells #[.int .i64 a1, .int .i64 a2, .int .i64 a3, .int .i64 a4, .int .i64 a5] 36 (0, 0))
  ttl : W.heap[q]? = some (.cells #[.int .i64 x, .int .i64 y, .string s] 32 (0, 0))
  ne : q ≠ g
theorem UW.app {w X w' : World} {a1 a2 a3 a4 a5 x y : Int} {q g n c g' c' : Nat} {s : ByteArray} {P P' : List V.Kl} {o : Obj} (h : UW w a1 a2 a3 a4 a5 q x y s g n c P X) (ho : V.Own w' (w.heap.size + 1) g' (n + 1) c' P') (hg : (X.alloc o).grownBy w' (some g)) (hl : g = g' ∨ g' = X.heap.size + 1) : UW w a1 a2 a3 a4 a5 q x y s g' (n + 1) c' P' w' := by
  have ka : Below X.heap.size X (X.alloc o) := (Below.refl _ _).alloc (Nat.le_refl _) _
  have hgB := own_ge h.own
  have hqs := lt_blk h.ttl
  refine ⟨ho, ?_, ?_, ?_, ?_⟩
  · exact Below.grown (laterB h.bel ka) hg (by have := h.bel.size; simp; omega) (fun k hk => by injection hk with hk; omega)
  · exact blk_grown hg (blk_below h.sty ka) (by omega)
  · exact blk_grown hg (blk_below h.ttl ka) h.ne
  · rcases hl with hl | hl
    · rw [← hl]; exact h.ne
    · rw [hl]; omega
theorem UW.draw {w X : World} {a1 a2 a3 a4 a5 x y : Int} {q g n c : Nat} {s : ByteArray} {P : List V.Kl} (h : UW w a1 a2 a3 a4 a5 q x y s g n c P X) (m : Nat) : UW w a1 a2 a3 a4 a5 q x y s g n c P (X.drewN m) := ⟨h.own, below_drewN h.bel m, h.sty, h.ttl, h.ne⟩
theorem sy_bd {a b c d f : Int} (h : syOk (a, b, c, d, f) = true) : 1 ≤ a ∧ a ≤ 359999999 ∧ 0 ≤ b ∧ b ≤ 359999999 ∧ 1 ≤ c ∧ c ≤ 359999999 ∧ 1 ≤ d ∧ d ≤ 359999999 ∧ 1 ≤ f ∧ f ≤ 359999999 := by
  unfold syOk at h
  simp only [Bool.and_eq_true, decide_eq_true_eq] at h
  omega

end Go.Proofs.YtcpllfjhhlbmiaaDoor
