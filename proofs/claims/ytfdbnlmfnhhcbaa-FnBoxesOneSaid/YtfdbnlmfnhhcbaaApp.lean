/-
  Laws of the walk for an append of bytes and of one box to what a call owns; no conditions.
-/
import Derived.Test.YtfdbnlmfnhhcbaaIOne
import Derived.Lib.AppendStr
namespace Go.Proofs.Ytfdbnlmfnhhcbaa
open Go.RowKit
set_option linter.unusedVariables false
set_option linter.unusedSimpArgs false

theorem row_news {Hh : Nat} {w : World} {ad : Addr} {zs : List Int} (hr : Row false 0 Hh w (some ad) zs) : ∀ j u, (zs.map u8)[j]? = some u → w.cell? (ad.add j) = some u := by
  intro j u hj
  rw [List.getElem?_map] at hj
  obtain ⟨z, hz, rfl⟩ := Option.map_eq_some_iff.1 hj
  obtain ⟨b, o, e, _, _, hc, _⟩ := hr j z hz
  injection e with e
  subst e
  rw [Addr.add_lit]; exact hc
theorem u8_one (zs : List Int) : ∀ u ∈ zs.map u8, u.oneCell' = true := by
  intro u hu
  obtain ⟨z, _, rfl⟩ := List.mem_map.1 hu
  rfl

theorem wp_bytes {o : Oper} {a : Act} {K : Act → World → Prop} {Q : Exit → Act → World → Prop} (w : World) (s x : Operand) (ho : o.op = .call { callee := .builtin .append, args := #[s, x], argTypes := #[22, 22] })
    (B n Hh : Nat) (v : Value) (xs : List Value) (hs : a.eval s = v) (hown : w.ownsRow B 5 1 v n xs) (ad : Addr) (m c : Nat) (zs : List Int) (hm : zs.length = m) (hx : a.eval x = .slice (some ad) m c) (hr : Row false 0 Hh w (some ad) zs) (hlen : n + m ≤ 1000000000) (hB : B ≤ w.heap.size)
    (h : ∀ v' w', w'.ownsRow B 5 1 v' (n + m) (xs ++ zs.map u8) → w.grownBy w' v.ownBlock → (v' = .slice none 0 0 ↔ v = .slice none 0 0 ∧ m = 0) → K (a.put o.dst v') w') : o.wp Try.prog a w K Q := by
  obtain ⟨i0, hi, hz0, hz1, hz2⟩ := info_parts info5
  exact wp_append_own w s x 22 ho B 5 i0 (.int .u8 0) 1 1 Try.underlying22 hi hz0 hz1 hz2 rfl (by decide) v n xs hs hown ad m c (zs.map u8) hx (by simp; omega) (row_news hr) (u8_one zs) (by unfold maxLen; omega) (by omega) hB h
theorem wpList_bytes {ops : Array Oper} {rest : List Oper} {o : Oper} {a : Act} {Q : Exit → Act → World → Prop} (w : World) (hgd : o.guard = none) (s x : Operand) (ho : o.op = .call { callee := .builtin .append, args := #[s, x], argTypes := #[22, 22] })
    (B n Hh : Nat) (v : Value) (xs : List Value) (hs : a.eval s = v) (hown : w.ownsRow B 5 1 v n xs) (ad : Addr) (m c : Nat) (zs : List Int) (hm : zs.length = m) (hx : a.eval x = .slice (some ad) m c) (hr : Row false 0 Hh w (some ad) zs) (hlen : n + m ≤ 1000000000) (hB : B ≤ w.heap.size)
    (h : ∀ v' w', w'.ownsRow B 5 1 v' (n + m) (xs ++ zs.map u8) → w.grownBy w' v.ownBlock → (v' = .slice none 0 0 ↔ v = .slice none 0 0 ∧ m = 0) → wpList Try.prog ops Q rest (a.put o.dst v') w') : wpList Try.prog ops Q (o :: rest) a w :=
  wpList_plain hgd fun _ hK => wp_bytes w s x ho B n Hh v xs hs hown ad m c zs hm hx hr hlen hB fun v' w' h2 h3 h4 => hK _ _ (h v' w' h2 h3 h4)
theorem step_bytes {ops : Array Oper} {o : Oper} {a : Act} {K : Act → World → Prop} {Q : Exit → Act → World → Prop} {E : Prop} (w : World) (hgd : o.guard = none) (s x : Operand) (ho : o.op = .call { callee := .builtin .append, args := #[s, x], argTypes := #[22, 22] })
    (B n Hh : Nat) (v : Value) (xs : List Value) (hs : a.eval s = v) (hown : w.ownsRow B 5 1 v n xs) (ad : Addr) (m c : Nat) (zs : List Int) (hm : zs.length = m) (hx : a.eval x = .slice (some ad) m c) (hr : Row false 0 Hh w (some ad) zs) (hlen : n + m ≤ 1000000000) (hB : B ≤ w.heap.size)
    (h : ∀ v' w', w'.ownsRow B 5 1 v' (n + m) (xs ++ zs.map u8) → w.grownBy w' v.ownBlock → (v' = .slice none 0 0 ↔ v = .slice none 0 0 ∧ m = 0) → K (a.put o.dst v') w') :
    if Region.wanted o (yielded ops a.tmps) = true then Oper.wp Try.prog o a w K Q else E := by
  have hw : Region.wanted o (yielded ops a.tmps) = true := by simp [Region.wanted, hgd]
  rw [if_pos hw]
  exact wp_bytes w s x ho B n Hh v xs hs hown ad m c zs hm hx hr hlen hB h

theorem wp_box {o : Oper} {a : Act} {K : Act → World → Prop} {Q : Exit → Act → World → Prop} (w : World) (s x : Operand) (ho : o.op = .call { callee := .builtin .append, args := #[s, x], argTypes := #[25, 25] })
    (B R : Nat) (v : Value) (L : List (Bx × (Option Addr × Nat))) (p : Bx × (Option Addr × Nat)) (hs : a.eval s = v) (hown : OwnL w B v L) (hoff : Off R v L) (E : Nat) (hx : a.eval x = .slice (some ⟨E, 0, none⟩) 1 1)
    (hblk : w.heap[E]? = some (.cells (cell3 p).toArray 42 (0, 0))) (hp : GoodP w B v p) (hpR : ∀ y, p.2.1 = some y → y.block ≠ R) (hd : ∀ q ∈ L, ∀ x y, q.2.1 = some x → p.2.1 = some y → x.block ≠ y.block) (hl : L.length ≤ 1000000) (hB : B ≤ w.heap.size) (hR : R < w.heap.size)
    (h : ∀ g cap w', OwnL w' B (.slice (some ⟨g, 0, none⟩) (L.length + 1) cap) (L ++ [p]) → Off R (.slice (some ⟨g, 0, none⟩) (L.length + 1) cap) (L ++ [p]) → w.grownBy w' v.ownBlock → K (a.put o.dst (.slice (some ⟨g, 0, none⟩) (L.length + 1) cap)) w') : o.wp Try.prog a w K Q := by
  obtain ⟨i0, hi, hz0, hz1, hz2⟩ := info_parts info38
  refine wp_append_lies w s x 25 ho B 42 i0 _ 3 48 Try.underlying25 hi hz0 hz1 hz2 rfl (by decide) v L.length (flatL L) hs hown.1 ⟨E, 0, none⟩ 1 1 (cell3 p) hx rfl ?_ ?_ (by decide) (by unfold maxLen; omega) (by omega) hB w.heap.size rfl ?_
  · have := World.news_of_block hblk; simpa using this
  · intro u hu; simp [cell3] at hu; rcases hu with rfl | rfl | rfl <;> rfl
  · intro g cap w' hown' hgrow hat hlt
    exact h _ _ _ (hown.snoc hp hd hown' hgrow hat) (hoff.snoc hat hR hpR) hgrow
theorem wpList_box {ops : Array Oper} {rest : List Oper} {o : Oper} {a : Act} {Q : Exit → Act → World → Prop} (w : World) (hgd : o.guard = none) (s x : Operand) (ho : o.op = .call { callee := .builtin .append, args := #[s, x], argTypes := #[25, 25] })
    (B R : Nat) (v : Value) (L : List (Bx × (Option Addr × Nat))) (p : Bx × (Option Addr × Nat)) (hs : a.eval s = v) (hown : OwnL w B v L) (hoff : Off R v L) (E : Nat) (hx : a.eval x = .slice (some ⟨E, 0, none⟩) 1 1)
    (hblk : w.heap[E]? = some (.cells (cell3 p).toArray 42 (0, 0))) (hp : GoodP w B v p) (hpR : ∀ y, p.2.1 = some y → y.block ≠ R) (hd : ∀ q ∈ L, ∀ x y, q.2.1 = some x → p.2.1 = some y → x.block ≠ y.block) (hl : L.length ≤ 1000000) (hB : B ≤ w.heap.size) (hR : R < w.heap.size)
    (h : ∀ g cap w', OwnL w' B (.slice (some ⟨g, 0, none⟩) (L.length + 1) cap) (L ++ [p]) → Off R (.slice (some ⟨g, 0, none⟩) (L.length + 1) cap) (L ++ [p]) → w.grownBy w' v.ownBlock → wpList Try.prog ops Q rest (a.put o.dst (.slice (some ⟨g, 0, none⟩) (L.length + 1) cap)) w') : wpList Try.prog ops Q (o :: rest) a w :=
  wpList_plain hgd fun _ hK => wp_box w s x ho B R v L p hs hown hoff E hx hblk hp hpR hd hl hB hR fun g cap w' h2 h3 h4 => hK _ _ (h g cap w' h2 h3 h4)
theorem step_box {ops : Array Oper} {o : Oper} {a : Act} {K : Act → World → Prop} {Q : Exit → Act → World → Prop} {E' : Prop} (w : World) (hgd : o.guard = none) (s x : Operand) (ho : o.op = .call { callee := .builtin .append, args := #[s, x], argTypes := #[25, 25] })
    (B R : Nat) (v : Value) (L : List (Bx × (Option Addr × Nat))) (p : Bx × (Option Addr × Nat)) (hs : a.eval s = v) (hown : OwnL w B v L) (hoff : Off R v L) (E : Nat) (hx : a.eval x = .slice (some ⟨E, 0, none⟩) 1 1)
    (hblk : w.heap[E]? = some (.cells (cell3 p).toArray 42 (0, 0))) (hp : GoodP w B v p) (hpR : ∀ y, p.2.1 = some y → y.block ≠ R) (hd : ∀ q ∈ L, ∀ x y, q.2.1 = some x → p.2.1 = some y → x.block ≠ y.block) (hl : L.length ≤ 1000000) (hB : B ≤ w.heap.size) (hR : R < w.heap.size)
    (h : ∀ g cap w', OwnL w' B (.slice (some ⟨g, 0, none⟩) (L.length + 1) cap) (L ++ [p]) → Off R (.slice (some ⟨g, 0, none⟩) (L.length + 1) cap) (L ++ [p]) → w.grownBy w' v.ownBlock → K (a.put o.dst (.slice (some ⟨g, 0, none⟩) (L.length + 1) cap)) w') :
    if Region.wanted o (yielded ops a.tmps) = true then Oper.wp Try.prog o a w K Q else E' := by
  have hw : Region.wanted o (yielded ops a.tmps) = true := by simp [Region.wanted, hgd]
  rw [if_pos hw]
  exact wp_box w s x ho B R v L p hs hown hoff E hx hblk hp hpR hd hl hB hR h
theorem wpList_str {ops : Array Oper} {rest : List Oper} {o : Oper} {a : Act} {Q : Exit → Act → World → Prop} (w : World) (hgd : o.guard = none) (sl x : Operand) (ho : o.op = .call { callee := .builtin .append, args := #[sl, x], argTypes := #[22, 9] })
    (B n : Nat) (v : Value) (xs : List Value) (hs : a.eval sl = v) (hown : w.ownsRow B 5 1 v n xs) (s : ByteArray) (hx : a.eval x = .string s) (hlen : n + s.size ≤ 1000000000) (hB : B ≤ w.heap.size)
    (h : ∀ v' w', w'.ownsRow B 5 1 v' (n + s.size) (xs ++ Lib.strCells s) → w.grownBy w' v.ownBlock → (v' = .slice none 0 0 ↔ v = .slice none 0 0 ∧ s.size = 0) → wpList Try.prog ops Q rest (a.put o.dst v') w') : wpList Try.prog ops Q (o :: rest) a w := by
  obtain ⟨i0, hi, hz0, hz1, hz2⟩ := info_parts info5
  exact Lib.wpList_append_own_string w hgd sl x 22 9 ho B 5 i0 Try.underlying22 Try.underlying9 hi hz0 hz1 hz2 v n xs hs hown s hx (by unfold maxLen; omega) (by omega) hB h
end Go.Proofs.Ytfdbnlmfnhhcbaa
