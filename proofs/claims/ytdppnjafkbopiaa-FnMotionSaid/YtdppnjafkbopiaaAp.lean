/-
  Lists of numbers that grow: one number more, four more; an answer that is a new list; no conditions.
-/
import Derived.Test.YtdppnjafkbopiaaLv
import Derived.Deep.Heap
namespace Go.Proofs.Ytdppnjafkbopiaa
open Go.RowKit
set_option linter.unusedVariables false
set_option linter.unusedSimpArgs false

theorem heap_alloc_new (w : World) (o : Obj) : (w.alloc o).heap[w.heap.size]? = some o := Deep.blk_alloc_new _ _
theorem iv_news {w : World} {E : Nat} {v : Int} {t : TypeId} {m : Nat × Nat} (hblk : w.heap[E]? = some (.cells #[.int .i64 v] t m)) : ∀ j u, [iv v][j]? = some u → w.cell? ((⟨E, 0, none⟩ : Addr).add j) = some u := by
  have := World.news_of_block hblk
  simpa [iv] using this
/-- an answer that is a new list -/
def AnI (w : World) (L : List Int) (e : Ending) (w' : World) : Prop := ∃ G cap, e = .returned (.slice (some ⟨G, 0, none⟩) L.length cap) ∧ w.heap.size ≤ G ∧ OwnI w' w.heap.size G L.length cap L ∧ Below w.heap.size w w'
theorem AnI.mk {w w' : World} {L : List Int} {k g c : Nat} (hL : L.length = k) (hg : w.heap.size ≤ g) (ho : OwnI w' w.heap.size g k c L) (hb : Below w.heap.size w w') : AnI w L (.returned (.slice (some ⟨g, 0, none⟩) k c)) w' := by
  subst hL; exact ⟨g, c, rfl, hg, ho, hb⟩
theorem wpList_iA {ops : Array Oper} {rest : List Oper} {o : Oper} {a : Act} {Q : Exit → Act → World → Prop} (w : World) (hgd : o.guard = none) (s x : Operand) (ho : o.op = .call { callee := .builtin .append, args := #[s, x], argTypes := #[24, 24] })
    (B g n cap : Nat) (L : List Int) (v : Int) (hs : a.eval s = .slice (some ⟨g, 0, none⟩) n cap) (hown : OwnI w B g n cap L) (hx : a.eval x = .slice (some ⟨w.heap.size, 0, none⟩) 1 1)
    (hl : n ≤ 1000000) (hB : B ≤ w.heap.size)
    (h : ∀ g' cap' w', OwnI w' B g' (n + 1) cap' (L ++ [v]) → Below B w w' → B ≤ g' → wpList Try.prog ops Q rest (a.put o.dst (.slice (some ⟨g', 0, none⟩) (n + 1) cap')) w') : wpList Try.prog ops Q (o :: rest) a (w.alloc (.cells #[.int .i64 v] 2)) := by
  obtain ⟨i0, hi, hz0, hz1, hz2⟩ := info_parts infoI
  have hb : Below w.heap.size w (w.alloc (.cells #[.int .i64 v] 2)) := (Below.refl _ _).alloc (Nat.le_refl _) _
  have hblk : (w.alloc (.cells #[.int .i64 v] 2)).heap[w.heap.size]? = some (.cells #[.int .i64 v] 2 (0, 0)) := heap_alloc_new w _
  have hnews := iv_news hblk
  have hsz := hb.size
  generalize w.alloc (.cells #[.int .i64 v] 2) = W at *
  have hown2 := ownsRow_below hown hb
  have hBg : B ≤ g := (hown.lt g rfl).1
  refine wpList_append_lies W hgd s x 24 ho B 2 i0 (.int .i64 0) 1 8 Try.underlying24 hi hz0 hz1 hz2 rfl (by decide) _ n (L.map iv) hs hown2 ⟨w.heap.size, 0, none⟩ 1 1 [iv v] hx rfl hnews (by intro u hu; simp at hu; subst hu; rfl) (by decide) (by unfold maxLen; omega) (by omega) (by omega) W.heap.size rfl ?_
  intro g' cap' w' h1 h2 h3 h4
  refine h g' cap' w' (by show World.ownsRow _ _ _ _ _ _ _; rw [List.map_append]; exact h1) ?_ (own_ge h1)
  exact (hb.mono hB).trans ((Below.refl _ _).grown h2 (by omega) (fun k hk => by simp [Value.ownBlock] at hk; omega))
theorem step_iA {ops : Array Oper} {o : Oper} {a : Act} {K : Act → World → Prop} {Q : Exit → Act → World → Prop} {E' : Prop} (w : World) (hgd : o.guard = none) (s x : Operand) (ho : o.op = .call { callee := .builtin .append, args := #[s, x], argTypes := #[24, 24] })
    (B g n cap : Nat) (L : List Int) (v : Int) (hs : a.eval s = .slice (some ⟨g, 0, none⟩) n cap) (hown : OwnI w B g n cap L) (hx : a.eval x = .slice (some ⟨w.heap.size, 0, none⟩) 1 1)
    (hl : n ≤ 1000000) (hB : B ≤ w.heap.size)
    (h : ∀ g' cap' w', OwnI w' B g' (n + 1) cap' (L ++ [v]) → Below B w w' → B ≤ g' → K (a.put o.dst (.slice (some ⟨g', 0, none⟩) (n + 1) cap')) w') :
    if Region.wanted o (yielded ops a.tmps) = true then Oper.wp Try.prog o a (w.alloc (.cells #[.int .i64 v] 2)) K Q else E' := by
  obtain ⟨i0, hi, hz0, hz1, hz2⟩ := info_parts infoI
  have hb : Below w.heap.size w (w.alloc (.cells #[.int .i64 v] 2)) := (Below.refl _ _).alloc (Nat.le_refl _) _
  have hblk : (w.alloc (.cells #[.int .i64 v] 2)).heap[w.heap.size]? = some (.cells #[.int .i64 v] 2 (0, 0)) := heap_alloc_new w _
  have hnews := iv_news hblk
  have hsz := hb.size
  generalize w.alloc (.cells #[.int .i64 v] 2) = W at *
  have hown2 := ownsRow_below hown hb
  have hBg : B ≤ g := (hown.lt g rfl).1
  refine step_append_lies W hgd s x 24 ho B 2 i0 (.int .i64 0) 1 8 Try.underlying24 hi hz0 hz1 hz2 rfl (by decide) _ n (L.map iv) hs hown2 ⟨w.heap.size, 0, none⟩ 1 1 [iv v] hx rfl hnews (by intro y hy; simp at hy; subst hy; rfl) (by decide) (by unfold maxLen; omega) (by omega) (by omega) W.heap.size rfl ?_
  intro g' cap' w' h1 h2 h3 h4
  refine h g' cap' w' (by show World.ownsRow _ _ _ _ _ _ _; rw [List.map_append]; exact h1) ?_ (own_ge h1)
  exact (hb.mono hB).trans ((Below.refl _ _).grown h2 (by omega) (fun k hk => by simp [Value.ownBlock] at hk; omega))
/-- a whole list more -/
theorem step_iL {ops : Array Oper} {o : Oper} {a : Act} {K : Act → World → Prop} {Q : Exit → Act → World → Prop} {E' : Prop} (w : World) (hgd : o.guard = none) (s x : Operand) (ho : o.op = .call { callee := .builtin .append, args := #[s, x], argTypes := #[24, 24] })
    (B g n cap : Nat) (L : List Int) (E c m : Nat) (M : List Int) (hs : a.eval s = .slice (some ⟨g, 0, none⟩) n cap) (hown : OwnI w B g n cap L) (hx : a.eval x = .slice (some ⟨E, 0, none⟩) m c) (hM : OwnI w 0 E m c M) (hm0 : 0 < m)
    (hl : n + m ≤ 1000000) (hB : B ≤ w.heap.size)
    (h : ∀ g' cap' w', OwnI w' B g' (n + m) cap' (L ++ M) → Below B w w' → B ≤ g' → K (a.put o.dst (.slice (some ⟨g', 0, none⟩) (n + m) cap')) w') :
    if Region.wanted o (yielded ops a.tmps) = true then Oper.wp Try.prog o a w K Q else E' := by
  obtain ⟨i0, hi, hz0, hz1, hz2⟩ := info_parts infoI
  have hBg : B ≤ g := (hown.lt g rfl).1
  have hml := ownI_len hM
  have hnews : ∀ j u, (M.map iv)[j]? = some u → w.cell? ((⟨E, 0, none⟩ : Addr).add j) = some u := by
    intro j u hj
    rw [Addr.add_lit, Nat.zero_add]
    have hjl : j < M.length := by have := (List.getElem?_eq_some_iff.1 hj).1; simpa using this
    have e : M[j]? = some M[j] := List.getElem?_eq_getElem hjl
    rw [ownI_at e hM]
    rw [List.getElem?_map, e] at hj
    exact hj
  refine step_append_lies w hgd s x 24 ho B 2 i0 (.int .i64 0) 1 8 Try.underlying24 hi hz0 hz1 hz2 rfl (by decide) _ n (L.map iv) hs hown ⟨E, 0, none⟩ m c (M.map iv) hx (by simp [hml]) hnews (by intro y hy; simp at hy; obtain ⟨q, _, rfl⟩ := hy; rfl) hm0 (by unfold maxLen; omega) (by omega) hB w.heap.size rfl ?_
  intro g' cap' w' h1 h2 h3 h4
  refine h g' cap' w' (by show World.ownsRow _ _ _ _ _ _ _; rw [List.map_append]; exact h1) ?_ (own_ge h1)
  exact (Below.refl _ _).grown h2 (by omega) (fun k hk => by simp [Value.ownBlock] at hk; omega)

end Go.Proofs.Ytdppnjafkbopiaa
