/-
  Contracts of taking a part of a track, the model's and the program's; the answer is new memory, nothing that was there is written.
-/
import Derived.Test.YtkpojifblcdgcaaJn
namespace Go.Proofs.Ytkpojifblcdgcaa
open Go.RowKit
set_option linter.unusedVariables false
set_option linter.unusedSimpArgs false

theorem wpList_kM {T : TypeId} (hT : Try.prog.underlying T = some (.slice 40)) {ops : Array Oper} {rest : List Oper} {o : Oper} {a : Act} {Q : Exit → Act → World → Prop} {X wr : World} {B C g n cap : Nat} {v1 v2 v3 : Int} {L : List Kl} (hgd : o.guard = none) (s x : Operand) (ho : o.op = .call { callee := .builtin .append, args := #[s, x], argTypes := #[T, T] })
    (hs : a.eval s = .slice (some ⟨g, 0, none⟩) n cap) (hown : Own wr B g n cap L) (hX : Below C wr X) (hg : g < C) (E : Nat) (hE : X.heap.size = E) (hx : a.eval x = .slice (some ⟨E, 0, none⟩) 1 1) (hl : n ≤ 1000000) (hB : B ≤ wr.heap.size) (hBC : B ≤ C)
    (h : ∀ g' cap' w', Own w' B g' (n + 1) cap' (L ++ [(v1, v2, v3)]) → Below B wr w' → B ≤ g' → g' < w'.heap.size → (∀ b i, b < E → b ≠ g → w'.cell? ⟨b, i, none⟩ = (X.alloc (.cells #[.int .i64 v1, .int .i64 v2, .int .i64 v3] 40)).cell? ⟨b, i, none⟩) → wpList Try.prog ops Q rest (a.put o.dst (.slice (some ⟨g', 0, none⟩) (n + 1) cap')) w') : wpList Try.prog ops Q (o :: rest) a (X.alloc (.cells #[.int .i64 v1, .int .i64 v2, .int .i64 v3] 40)) := by
  subst hE
  have hb2 : Below B wr (X.alloc (.cells #[.int .i64 v1, .int .i64 v2, .int .i64 v3] 40)) := (hX.mono hBC).alloc (Nat.le_trans hB hX.size) _
  have hown1 := own_blk (own_blk hown hX hg) ((Below.refl X.heap.size X).alloc (Nat.le_refl _) (.cells #[.int .i64 v1, .int .i64 v2, .int .i64 v3] 40)) (own_lt (own_blk hown hX hg))
  obtain ⟨i0, hi, hz0, hz1, hz2⟩ := info_parts info44
  have hBg : B ≤ g := (hown.lt g rfl).1
  have hBs : B ≤ (X.alloc (.cells #[.int .i64 v1, .int .i64 v2, .int .i64 v3] 40)).heap.size := Nat.le_trans hB hb2.size
  refine wpList_append_lies _ hgd s x T ho B 40 i0 (.agg #[.int .i64 0, .int .i64 0, .int .i64 0]) 3 24 hT hi hz0 hz1 hz2 rfl (by decide) _ n (flK L) hs hown1 ⟨X.heap.size, 0, none⟩ 1 1 [iv v1, iv v2, iv v3] hx rfl (K_news (c := (v1, v2, v3)) (heap_alloc_new X _)) (by intro u hu; simp at hu; rcases hu with rfl | rfl | rfl <;> rfl) (by decide) (by unfold maxLen; omega) (by omega) hBs _ rfl ?_
  intro g' cap' w' h1 h2 h3 h4
  have ho' : Own w' B g' (n + 1) cap' (L ++ [(v1, v2, v3)]) := by show World.ownsRow _ _ _ _ _ _ _; rw [flK_append]; exact h1
  refine h g' cap' w' ho' ?_ (own_ge ho') (own_lt ho') ?_
  · exact hb2.trans ((Below.refl _ _).grown h2 hBs (fun k hk => by simp [Value.ownBlock] at hk; omega))
  · intro b i hb hne
    exact World.cell?_of_block (a := ⟨b, i, none⟩) (h2.block b (by simp; omega) (by simp [Value.ownBlock]; omega))

theorem pt_no {s i n f t q A B : Int} (hA : A = max f q) (hB : B = min t (q + n)) (h : ¬ A < B) : ptOne (s, i, n) (f - q) (t - q) = [] := by
  unfold ptOne
  rw [if_neg (by simp only; omega)]
theorem pt_gap {i n f t q A B : Int} (hA : A = max f q) (hB : B = min t (q + n)) (h : A < B) : ptOne (0, i, n) (f - q) (t - q) = [(0, 0, B - A)] := by
  unfold ptOne
  rw [if_pos (by simp only; omega)]
  have e : min (t - q) n - max (f - q) 0 = B - A := by omega
  simp only [if_true, e]
theorem pt_yes {s i n f t q A B : Int} (hA : A = max f q) (hB : B = min t (q + n)) (h : A < B) (hs : s ≠ 0) : ptOne (s, i, n) (f - q) (t - q) = [(s, i + A - q, B - A)] := by
  unfold ptOne
  rw [if_pos (by simp only; omega)]
  have e : min (t - q) n - max (f - q) 0 = B - A := by omega
  have e2 : i + max (f - q) 0 = i + A - q := by omega
  simp only [if_neg hs, e, e2]

/-- what the loops hold -/
def PR (w : World) (l : List Kl) (f t : Int) (k : Nat) (wr : World) (g c : Nat) : Prop := w.heap.size ≤ g ∧ Own wr w.heap.size g (part (l.take k) f t).length c (part (l.take k) f t) ∧ Below w.heap.size w wr
theorem pr_same {w wr w' : World} {l : List Kl} {f t : Int} {k g c : Nat} (h : PR w l f t k wr g c) (hp : part (l.take (k + 1)) f t = part (l.take k) f t) (hb : Below wr.heap.size wr w') : PR w l f t (k + 1) w' g c := by
  obtain ⟨h1, h2, h3⟩ := h
  refine ⟨h1, ?_, laterB h3 hb⟩
  rw [hp]
  exact ownsRow_below h2 hb
theorem pr_app {w w' : World} {l : List Kl} {f t : Int} {k g c m : Nat} {x : Kl} (hp : part (l.take (k + 1)) f t = part (l.take k) f t ++ [x]) (hm : m = (part (l.take k) f t).length) (h1 : w.heap.size ≤ g) (h2 : Own w' w.heap.size g (m + 1) c (part (l.take k) f t ++ [x])) (h3 : Below w.heap.size w w') : PR w l f t (k + 1) w' g c := by
  subst hm
  refine ⟨h1, ?_, h3⟩
  rw [hp]
  have e : (part (l.take k) f t ++ [x]).length = (part (l.take k) f t).length + 1 := by simp
  rw [e]
  exact h2

end Go.Proofs.Ytkpojifblcdgcaa
