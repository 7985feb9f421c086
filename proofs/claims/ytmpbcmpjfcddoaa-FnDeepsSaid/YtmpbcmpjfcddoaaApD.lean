/-
  An append of whatever list of samples behind an owned one; the answer is new memory.
-/
import Derived.Test.YtmpbcmpjfcddoaaSbP
import Derived.Laws.AppendOwnNone
namespace Go.Proofs.Ytmpbcmpjfcddoaa
open Go.RowKit
set_option linter.unusedVariables false
set_option linter.unusedSimpArgs false
namespace D

theorem flK_one (l : List Kl) : ∀ u ∈ flK l, u.oneCell' = true := by
  induction l with
  | nil => intro u hu; simp [flK] at hu
  | cons x l ih =>
    intro u hu
    simp only [flK, List.mem_cons] at hu
    rcases hu with rfl | rfl | rfl | rfl | rfl | hu
    · rfl
    · rfl
    · rfl
    · rfl
    · rfl
    · exact ih u hu
theorem kls_news {w : World} {b o : Nat} {l : List Kl} (h : Kls w (some ⟨b, o, none⟩) l) : ∀ j u, (flK l)[j]? = some u → w.cell? ((⟨b, o, none⟩ : Addr).add j) = some u := by
  intro j u hu
  have hj : j < (flK l).length := (List.getElem?_eq_some_iff.1 hu).1
  rw [flK_len] at hj
  have hk : j / 5 < l.length := by omega
  obtain ⟨x, hx⟩ : ∃ x, l[j / 5]? = some x := ⟨l[j / 5], List.getElem?_eq_getElem hk⟩
  obtain ⟨b', o', e, _, c0, c1, c2, c3, c4⟩ := h _ _ hx
  injection e with e
  injection e with e1 e2 _
  subst e1 e2
  obtain ⟨f0, f1, f2, f3, f4⟩ := flK_get hx
  rw [Addr.add_lit]
  have hr : j % 5 = 0 ∨ j % 5 = 1 ∨ j % 5 = 2 ∨ j % 5 = 3 ∨ j % 5 = 4 := by omega
  rcases hr with hr | hr | hr | hr | hr
  · have e : j / 5 * 5 = j := by omega
    rw [e] at c0 f0; rw [hu] at f0; injection f0 with f0; rw [f0]; exact c0
  · have e : j / 5 * 5 + 1 = j := by omega
    rw [Nat.add_assoc, e] at c1; rw [e] at f1; rw [hu] at f1; injection f1 with f1; rw [f1]; exact c1
  · have e : j / 5 * 5 + 2 = j := by omega
    rw [Nat.add_assoc, e] at c2; rw [e] at f2; rw [hu] at f2; injection f2 with f2; rw [f2]; exact c2
  · have e : j / 5 * 5 + 3 = j := by omega
    rw [Nat.add_assoc, e] at c3; rw [e] at f3; rw [hu] at f3; injection f3 with f3; rw [f3]; exact c3
  · have e : j / 5 * 5 + 4 = j := by omega
    rw [Nat.add_assoc, e] at c4; rw [e] at f4; rw [hu] at f4; injection f4 with f4; rw [f4]; exact c4

theorem own_shape {w : World} {B n : Nat} {v : Value} {l : List Kl} (h : w.ownsRow B 32 5 v n (flK l)) (hv : v ≠ .slice none 0 0) : ∃ g c, v = .slice (some ⟨g, 0, none⟩) n c ∧ Own w B g n c l ∧ B ≤ g := by
  rcases h.2 with ⟨h1, _⟩ | ⟨g, c, cur, h1, h2, _⟩
  · exact absurd h1 hv
  · subst h1; exact ⟨g, c, rfl, h, h2⟩
theorem wpList_app {T : TypeId} (hT : Try.prog.underlying T = some (.slice 32)) {ops : Array Oper} {rest : List Oper} {o : Oper} {a : Act} {Q : Exit → Act → World → Prop} (w : World) (hgd : o.guard = none) (s x : Operand) (ho : o.op = .call { callee := .builtin .append, args := #[s, x], argTypes := #[T, T] })
    (B g n cap : Nat) (L1 L2 : List Kl) (a2 : Option Addr) (m c2 : Nat) (hs : a.eval s = .slice (some ⟨g, 0, none⟩) n cap) (hown : Own w B g n cap L1) (hx : a.eval x = .slice a2 m c2) (hm : L2.length = m) (hK : Kls w a2 L2) (hn : a2 = none → c2 = 0) (hl1 : n ≤ 1000000) (hl2 : m ≤ 1000000) (hB : B ≤ w.heap.size)
    (h : ∀ g' c' w', Own w' B g' (n + m) c' (L1 ++ L2) → w.grownBy w' (some g) → wpList Try.prog ops Q rest (a.put o.dst (.slice (some ⟨g', 0, none⟩) (n + m) c')) w') : wpList Try.prog ops Q (o :: rest) a w := by
  subst hm
  obtain ⟨i0, hi, hz0, hz1, hz2⟩ := info_parts info44
  have hfin : ∀ v' w', w'.ownsRow B 32 5 v' (n + L2.length) (flK L1 ++ flK L2) → w.grownBy w' (some g) → (v' = .slice none 0 0 ↔ (Value.slice (some ⟨g, 0, none⟩) n cap) = .slice none 0 0 ∧ L2.length = 0) → wpList Try.prog ops Q rest (a.put o.dst v') w' := by
    intro v' w' h1 h2 h3
    rw [← flK_append] at h1
    have hne : v' ≠ .slice none 0 0 := fun e => by have := (h3.1 e).1; cases this
    obtain ⟨g', c', rfl, h4, _⟩ := own_shape h1 hne
    exact h g' c' w' h4 h2
  match a2, L2, hx, hK, hn, hl2, h, hfin with
  | none, [], hx, hK, hn, hl2, h, hfin =>
    rw [hn rfl] at hx
    refine wpList_append_own_none hgd s x T ho B 32 i0 5 hT hi _ n (flK L1) hs hown hx ?_
    exact h g cap w (by rw [List.append_nil]; exact hown) ⟨rfl, rfl, rfl, Nat.le_refl _, fun _ _ _ => rfl⟩
  | none, y :: L2, hx, hK, hn, hl2, h, hfin =>
    obtain ⟨b, o, e, _⟩ := hK 0 y rfl
    cases e
  | some ad, L2, hx, hK, hn, hl2, h, hfin =>
    cases L2 with
    | nil =>
      refine wpList_append_own _ hgd s x T ho B 32 i0 (.agg #[.int .i64 0, .int .i64 0, .int .i64 0, .int .i64 0, .int .i64 0]) 5 40 hT hi hz0 hz1 hz2 rfl (by decide) _ n (flK L1) hs hown ad 0 c2 [] hx rfl (fun j u hu => by simp at hu) (fun u hu => by simp at hu) (by unfold maxLen; omega) (by omega) hB ?_
      exact hfin
    | cons y L2 =>
      obtain ⟨b, o', e, _⟩ := hK 0 y rfl
      injection e with e
      subst e
      refine wpList_append_own _ hgd s x T ho B 32 i0 (.agg #[.int .i64 0, .int .i64 0, .int .i64 0, .int .i64 0, .int .i64 0]) 5 40 hT hi hz0 hz1 hz2 rfl (by decide) _ n (flK L1) hs hown ⟨b, o', none⟩ (y :: L2).length c2 (flK (y :: L2)) hx (flK_len _) (kls_news hK) (flK_one _) (by unfold maxLen; omega) (by omega) hB ?_
      exact hfin

end D
end Go.Proofs.Ytmpbcmpjfcddoaa
