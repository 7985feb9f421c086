/-
  Lists of numbers in memory, one number more; what the model has read of four times; no conditions.
  A list of clips behind an owned list, at a step of a region that draws; no conditions.
-/
import Derived.Test.YthjggjnkhhoigaaGreatDoorSLn
import Derived.Maps.AppendAt
namespace Go.Proofs.YthjggjnkhhoigaaGreatDoor
open Go.RowKit
set_option linter.unusedVariables false
set_option linter.unusedSimpArgs false

theorem infoI : (Tryz.prog.info? 2).map (fun i => (i.zero, i.size, i.bytes)) = some (some (.int .i64 0), 1, 8) := by kernel_rfl
/-- an owned list of numbers -/
abbrev OwnI (w : World) (B g n cap : Nat) (l : List Int) : Prop := w.ownsRow B 2 1 (.slice (some ⟨g, 0, none⟩) n cap) n (l.map iv)
theorem ownI_len {w : World} {B g n cap : Nat} {l : List Int} (h : OwnI w B g n cap l) : l.length = n := by
  have hl : (l.map iv).length = n * 1 := h.1
  simpa using hl
theorem ownI_at {w : World} {B g n cap k : Nat} {l : List Int} {x : Int} (hk : l[k]? = some x) (h : OwnI w B g n cap l) : w.cell? ⟨g, k, none⟩ = some (.int .i64 x) := by
  have hl := ownI_len h
  have hj : k < l.length := (List.getElem?_eq_some_iff.1 hk).1
  have := h.cellAt k (by omega)
  rw [this, List.getElem?_map, hk]; rfl
theorem ownI_lit0 (w : World) {B : Nat} (hB : B ≤ w.heap.size) : OwnI (w.alloc (.cells #[] 2)) B w.heap.size 0 0 [] := by
  have h := World.ownsRow_lit (base := B) (e := 2) (size := 1) w #[] 0 hB (by unfold maxLen; omega) rfl
  exact h
/-- one number more behind an owned list -/
theorem wpList_i {T : TypeId} (hT : Tryz.prog.underlying T = some (.slice 2)) {ops : Array Oper} {rest : List Oper} {o : Oper} {a : Act} {Q : Exit → Act → World → Prop} {X : World} {B g n cap : Nat} {v : Int} {L : List Int} (hgd : o.guard = none) (s x : Operand) (ho : o.op = .call { callee := .builtin .append, args := #[s, x], argTypes := #[T, T] })
    (hs : a.eval s = .slice (some ⟨g, 0, none⟩) n cap) (hown : OwnI X B g n cap L) (E : Nat) (hE : X.heap.size = E) (hx : a.eval x = .slice (some ⟨E, 0, none⟩) 1 1) (hl : n ≤ 1000000) (hB : B ≤ X.heap.size)
    (h : ∀ g' cap' w', OwnI w' B g' (n + 1) cap' (L ++ [v]) → Below B X w' → wpList Tryz.prog ops Q rest (a.put o.dst (.slice (some ⟨g', 0, none⟩) (n + 1) cap')) w') : wpList Tryz.prog ops Q (o :: rest) a (X.alloc (.cells #[.int .i64 v] 2)) := by
  subst hE
  obtain ⟨i0, hi, hz0, hz1, hz2⟩ := info_parts infoI
  have hge : B ≤ g := (hown.lt g rfl).1
  have hAl := (Below.refl X.heap.size X).alloc (Nat.le_refl _) (.cells #[.int .i64 v] 2)
  have hown2 : OwnI (X.alloc (.cells #[.int .i64 v] 2)) B g n cap L := ownsRow_below hown hAl
  have hn : ∀ j u, [iv v][j]? = some u → (X.alloc (.cells #[.int .i64 v] 2)).cell? ((⟨X.heap.size, 0, none⟩ : Addr).add j) = some u := by
    have := World.news_of_block (alloc_new X (.cells #[.int .i64 v] 2))
    simpa [iv] using this
  refine wpList_append_lies _ hgd s x T ho B 2 i0 (.int .i64 0) 1 8 hT hi hz0 hz1 hz2 rfl (by decide) _ n (L.map iv) hs hown2 ⟨X.heap.size, 0, none⟩ 1 1 [iv v] hx rfl hn (by intro u hu; simp at hu; subst hu; rfl) (by decide) (by unfold maxLen; omega) (by omega) (by simp; omega) _ rfl ?_
  intro g' cap' w' h1 h2 h3 h4
  refine h g' cap' w' (by show World.ownsRow _ _ _ _ _ _ _; rw [List.map_append]; exact h1) ?_
  have hb : Below B X (X.alloc (.cells #[.int .i64 v] 2)) := (Below.refl B X).alloc hB _
  exact hb.grown h2 (by simp; omega) (fun k hk => by simp [Value.ownBlock] at hk; omega)
/-- the word of the j-th time -/
def wdOf (X0 X1 X2 X3 : ByteArray) (j : Nat) : ByteArray := if j = 0 then X0 else if j = 1 then X1 else if j = 2 then X2 else X3
/-- what has been read of the four times -/
def TmI (n d : Int) (dr : Bool) (X0 X1 X2 X3 : ByteArray) (W : World) (wr : World) (G c k : Nat) : Prop :=
  ∃ xs : List Int, OwnI wr W.heap.size G k c xs ∧ Below W.heap.size W wr ∧ ∀ j x, xs[j]? = some x → timeO n d dr (wdOf X0 X1 X2 X3 j).data.toList = some x ∧ 0 ≤ x ∧ x ≤ 10000000
end Go.Proofs.YthjggjnkhhoigaaGreatDoor

namespace Go.Proofs.YthjggjnkhhoigaaGreatDoor
open Go.RowKit
set_option linter.unusedVariables false
set_option linter.unusedSimpArgs false

theorem flK_oneS (l : List Kl) : ∀ u ∈ flK l, u.oneCell' = true := by
  induction l with
  | nil => intro u hu; simp [flK] at hu
  | cons x l ih =>
    intro u hu
    simp only [flK, List.mem_cons] at hu
    rcases hu with rfl | rfl | rfl | hu
    · rfl
    · rfl
    · rfl
    · exact ih u hu
theorem kls_newsS {w : World} {b o : Nat} {l : List Kl} (h : Kls w (some ⟨b, o, none⟩) l) : ∀ j u, (flK l)[j]? = some u → w.cell? ((⟨b, o, none⟩ : Addr).add j) = some u := by
  intro j u hu
  have hj : j < (flK l).length := (List.getElem?_eq_some_iff.1 hu).1
  rw [flK_len] at hj
  have hk : j / 3 < l.length := by omega
  obtain ⟨x, hx⟩ : ∃ x, l[j / 3]? = some x := ⟨l[j / 3], List.getElem?_eq_getElem hk⟩
  obtain ⟨b', o', e, _, c0, c1, c2⟩ := h _ _ hx
  injection e with e
  injection e with e1 e2 _
  subst e1 e2
  obtain ⟨f0, f1, f2⟩ := flK_get hx
  rw [Addr.add_lit]
  have hr : j % 3 = 0 ∨ j % 3 = 1 ∨ j % 3 = 2 := by omega
  rcases hr with hr | hr | hr
  · have e : j / 3 * 3 = j := by omega
    rw [e] at c0 f0; rw [hu] at f0; injection f0 with f0; rw [f0]; exact c0
  · have e : j / 3 * 3 + 1 = j := by omega
    rw [Nat.add_assoc, e] at c1; rw [e] at f1; rw [hu] at f1; injection f1 with f1; rw [f1]; exact c1
  · have e : j / 3 * 3 + 2 = j := by omega
    rw [Nat.add_assoc, e] at c2; rw [e] at f2; rw [hu] at f2; injection f2 with f2; rw [f2]; exact c2
/-- a list more behind an owned list, at a step of a region that draws -/
theorem step_kA {T : TypeId} (hT : Tryz.prog.underlying T = some (.slice 37)) {ops : Array Oper} {o : Oper} {a : Act} {K : Act → World → Prop} {Q : Exit → Act → World → Prop} {E' : Prop} (w : World) (hgd : o.guard = none) (s x : Operand) (ho : o.op = .call { callee := .builtin .append, args := #[s, x], argTypes := #[T, T] })
    (B g n cap : Nat) (L1 L2 : List Kl) (b2 o2 c2 : Nat) (hs : a.eval s = .slice (some ⟨g, 0, none⟩) n cap) (hown : Own w B g n cap L1) (hx : a.eval x = .slice (some ⟨b2, o2, none⟩) L2.length c2) (hK : Kls w (some ⟨b2, o2, none⟩) L2) (hl1 : n ≤ 1000000) (hl2 : L2.length ≤ 1000000) (hB : B ≤ w.heap.size)
    (h : ∀ g' cap' w', Own w' B g' (n + L2.length) cap' (L1 ++ L2) → w.grownBy w' (some g) → (g' = g ∨ g' = w.heap.size) → K (a.put o.dst (.slice (some ⟨g', 0, none⟩) (n + L2.length) cap')) w') :
    if Region.wanted o (yielded ops a.tmps) = true then Oper.wp Tryz.prog o a w K Q else E' := by
  obtain ⟨i0, hi, hz0, hz1, hz2⟩ := info_parts info44
  have hw : Region.wanted o (yielded ops a.tmps) = true := by simp [Region.wanted, hgd]
  rw [if_pos hw]
  obtain ⟨v', w', hr, h2, h3, h4, h5⟩ := run_append_own_at (P := Tryz.prog) w B T o.type 37 i0 (.agg #[.int .i64 0, .int .i64 0, .int .i64 0]) 3 24 hT hi hz0 hz1 hz2 rfl (by decide) (.slice (some ⟨g, 0, none⟩) n cap) n (flK L1) hown ⟨b2, o2, none⟩ L2.length c2 (flK L2) (flK_len L2) (kls_newsS hK) (flK_oneS L2) (by unfold maxLen; omega) (by omega) hB
  have hv : ∃ g' cap', v' = .slice (some ⟨g', 0, none⟩) (n + L2.length) cap' := by
    rcases Joins.ownsRow_forms h2 with ⟨rfl, _⟩ | ⟨g', cp, rfl⟩
    · have := (h4.1 rfl).1; cases this
    · exact ⟨g', cp, rfl⟩
  obtain ⟨g', cap', rfl⟩ := hv
  unfold Oper.wp execOp
  simp only [ho, resolve, invoke, builtin, Sem.run_bind, Sem.run_pure, Result.andThen_ok, List.map_toArray, List.map_cons, List.map_nil, hs, hx, hr]
  refine h g' cap' w' (by show World.ownsRow _ _ _ _ _ _ _; rw [flK_append]; exact h2) (by simpa [Value.ownBlock] using h3) ?_
  rcases h5 with h5 | h5
  · left; simp [Value.ownBlock] at h5; exact h5
  · right; simp [Value.ownBlock] at h5; exact h5
end Go.Proofs.YthjggjnkhhoigaaGreatDoor
