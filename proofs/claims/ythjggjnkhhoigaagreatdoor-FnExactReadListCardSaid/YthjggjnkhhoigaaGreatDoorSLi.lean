/-
  A list of clips behind an owned list, at a step of a region that draws; no conditions.
-/
import Derived.Test.YthjggjnkhhoigaaGreatDoorSLh
import Derived.Maps.AppendAt
namespace Go.Proofs.YthjggjnkhhoigaaGreatDoor
open Go.RowKit
set_option linter.unusedVariables false
set_option linter.unusedSimpArgs false

theorem flK_oneS (l : List Kl) : ∀ u ∈ flK l, u.oneCell' = true := by
  induction l with
  | nil => intro u hu; simp [flK] at hu
  | cons x l ih =>
    intro u hu
    simp only [flK, List.mem_cons] at hu
    rcases hu with rfl | rfl | rfl | hu
    · rfl
    · rfl
    · rfl
    · exact ih u hu
theorem kls_newsS {w : World} {b o : Nat} {l : List Kl} (h : Kls w (some ⟨b, o, none⟩) l) : ∀ j u, (flK l)[j]? = some u → w.cell? ((⟨b, o, none⟩ : Addr).add j) = some u := by
  intro j u hu
  have hj : j < (flK l).length := (List.getElem?_eq_some_iff.1 hu).1
  rw [flK_len] at hj
  have hk : j / 3 < l.length := by omega
  obtain ⟨x, hx⟩ : ∃ x, l[j / 3]? = some x := ⟨l[j / 3], List.getElem?_eq_getElem hk⟩
  obtain ⟨b', o', e, _, c0, c1, c2⟩ := h _ _ hx
  injection e with e
  injection e with e1 e2 _
  subst e1 e2
  obtain ⟨f0, f1, f2⟩ := flK_get hx
  rw [Addr.add_lit]
  have hr : j % 3 = 0 ∨ j % 3 = 1 ∨ j % 3 = 2 := by omega
  rcases hr with hr | hr | hr
  · have e : j / 3 * 3 = j := by omega
    rw [e] at c0 f0; rw [hu] at f0; injection f0 with f0; rw [f0]; exact c0
  · have e : j / 3 * 3 + 1 = j := by omega
    rw [Nat.add_assoc, e] at c1; rw [e] at f1; rw [hu] at f1; injection f1 with f1; rw [f1]; exact c1
  · have e : j / 3 * 3 + 2 = j := by omega
    rw [Nat.add_assoc, e] at c2; rw [e] at f2; rw [hu] at f2; injection f2 with f2; rw [f2]; exact c2
/-- a list more behind an owned list, at a step of a region that draws -/
theorem step_kA {T : TypeId} (hT : Tryz.prog.underlying T = some (.slice 37)) {ops : Array Oper} {o : Oper} {a : Act} {K : Act → World → Prop} {Q : Exit → Act → World → Prop} {E' : Prop} (w : World) (hgd : o.guard = none) (s x : Operand) (ho : o.op = .call { callee := .builtin .append, args := #[s, x], argTypes := #[T, T] })
    (B g n cap : Nat) (L1 L2 : List Kl) (b2 o2 c2 : Nat) (hs : a.eval s = .slice (some ⟨g, 0, none⟩) n cap) (hown : Own w B g n cap L1) (hx : a.eval x = .slice (some ⟨b2, o2, none⟩) L2.length c2) (hK : Kls w (some ⟨b2, o2, none⟩) L2) (hl1 : n ≤ 1000000) (hl2 : L2.length ≤ 1000000) (hB : B ≤ w.heap.size)
    (h : ∀ g' cap' w', Own w' B g' (n + L2.length) cap' (L1 ++ L2) → w.grownBy w' (some g) → (g' = g ∨ g' = w.heap.size) → K (a.put o.dst (.slice (some ⟨g', 0, none⟩) (n + L2.length) cap')) w') :
    if Region.wanted o (yielded ops a.tmps) = true then Oper.wp Tryz.prog o a w K Q else E' := by
  obtain ⟨i0, hi, hz0, hz1, hz2⟩ := info_parts info44
  have hw : Region.wanted o (yielded ops a.tmps) = true := by simp [Region.wanted, hgd]
  rw [if_pos hw]
  obtain ⟨v', w', hr, h2, h3, h4, h5⟩ := run_append_own_at (P := Tryz.prog) w B T o.type 37 i0 (.agg #[.int .i64 0, .int .i64 0, .int .i64 0]) 3 24 hT hi hz0 hz1 hz2 rfl (by decide) (.slice (some ⟨g, 0, none⟩) n cap) n (flK L1) hown ⟨b2, o2, none⟩ L2.length c2 (flK L2) (flK_len L2) (kls_newsS hK) (flK_oneS L2) (by unfold maxLen; omega) (by omega) hB
  have hv : ∃ g' cap', v' = .slice (some ⟨g', 0, none⟩) (n + L2.length) cap' := by
    rcases Joins.ownsRow_forms h2 with ⟨rfl, _⟩ | ⟨g', cp, rfl⟩
    · have := (h4.1 rfl).1; cases this
    · exact ⟨g', cp, rfl⟩
  obtain ⟨g', cap', rfl⟩ := hv
  unfold Oper.wp execOp
  simp only [ho, resolve, invoke, builtin, Sem.run_bind, Sem.run_pure, Result.andThen_ok, List.map_toArray, List.map_cons, List.map_nil, hs, hx, hr]
  refine h g' cap' w' (by show World.ownsRow _ _ _ _ _ _ _; rw [flK_append]; exact h2) (by simpa [Value.ownBlock] using h3) ?_
  rcases h5 with h5 | h5
  · left; simp [Value.ownBlock] at h5; exact h5
  · right; simp [Value.ownBlock] at h5; exact h5
end Go.Proofs.YthjggjnkhhoigaaGreatDoor
