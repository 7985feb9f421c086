/-
  'copy' and 'clear' over owned lists of reels: laws for the walk.
-/
import Derived.Test.YtfbifffmieimoaaRlW
import Derived.Laws.CopyOwn
namespace Go.Proofs.Ytfbifffmieimoaa.Rl
open Go.RowKit
open Go.Proofs.Ytfbifffmieimoaa
set_option linter.unusedVariables false
set_option linter.unusedSimpArgs false

theorem setRow_grown (w : World) (g : Nat) (cs : Array Value) : w.grownBy (w.setRow g cs) (some g) :=
  ⟨rfl, rfl, rfl, by simp [World.setRow], fun k hk hn => setRow_other w g k cs (fun e => hn (by rw [e]))⟩
theorem own_setRow {w : World} {B g k cap : Nat} {cur cs : Array Value} {l : List Kl} (hg : w.heap[g]? = some (.cells cur 34 (0, 0))) (hB : B ≤ g) (hl : l.length = k) (hk : k ≤ cap) (hm : cap ≤ maxLen) (hs : cs.size = cap * 3) (ht : cs.toList.take (k * 3) = flK l) : Own (w.setRow g cs) B g k cap l :=
  ⟨by rw [flK_len, hl], Or.inr ⟨g, cap, cs, rfl, hB, setRow_heap w g cur cs 34 (0, 0) hg, hk, hm, hs, ht⟩⟩
theorem own_open {w : World} {B g n cap : Nat} {l : List Kl} (h : Own w B g n cap l) : ∃ cur, w.heap[g]? = some (.cells cur 34 (0, 0)) ∧ B ≤ g ∧ n ≤ cap ∧ cap ≤ maxLen ∧ cur.size = cap * 3 ∧ cur.toList.take (n * 3) = flK l := by
  obtain ⟨h1, h2⟩ := h
  rcases h2 with ⟨hv, _⟩ | ⟨g', cap', cur, hv, hB, hh, hc, hm, hcs, htk⟩
  · cases hv
  · injection hv with e1 e2 e3
    injection e1 with e1
    injection e1 with e1
    subst e1 e3
    exact ⟨cur, hh, hB, hc, hm, hcs, htk⟩
theorem kls_cells {w : World} {b o : Nat} {l : List Kl} (h : Kls w (some ⟨b, o, none⟩) l) : ∀ j v, (flK l)[j]? = some v → w.cell? ((⟨b, o, none⟩ : Addr).add j) = some v := by
  intro j v hj
  have hlt : j < (flK l).length := (List.getElem?_eq_some_iff.1 hj).1
  rw [flK_len] at hlt
  have hk : j / 3 < l.length := by omega
  have hx := List.getElem?_eq_getElem hk
  obtain ⟨b', o', e, hb, c0, c1, c2⟩ := h (j / 3) _ hx
  injection e with e
  injection e with e1 e2
  subst e1 e2
  obtain ⟨g0, g1, g2⟩ := flK_get hx
  have hadd : (⟨b, o, none⟩ : Addr).add j = ⟨b, o + j, none⟩ := by unfold Addr.add; split <;> simp_all
  rw [hadd]
  have hm : j % 3 = 0 ∨ j % 3 = 1 ∨ j % 3 = 2 := by omega
  rcases hm with h | h | h
  · have e3 : j / 3 * 3 = j := by omega
    rw [e3] at g0 c0
    rw [hj] at g0; injection g0 with g0; rw [g0]; exact c0
  · have e3 : j / 3 * 3 + 1 = j := by omega
    rw [Nat.add_assoc, e3] at c1
    rw [e3] at g1
    rw [hj] at g1; injection g1 with g1; rw [g1]; exact c1
  · have e3 : j / 3 * 3 + 2 = j := by omega
    rw [Nat.add_assoc, e3] at c2
    rw [e3] at g2
    rw [hj] at g2; injection g2 with g2; rw [g2]; exact c2
theorem flK_one (l : List Kl) : ∀ v ∈ flK l, v.oneCell' = true := by
  induction l with
  | nil => intro v hv; simp [flK] at hv
  | cons x l ih =>
    intro v hv
    simp only [flK, List.mem_cons] at hv
    rcases hv with rfl | rfl | rfl | hv
    · rfl
    · rfl
    · rfl
    · exact ih v hv
theorem run_copyR (w : World) (T ty : TypeId) (hT : Try.prog.underlying T = some (.slice 34)) (B g n cap : Nat) (L l : List Kl) (ad : Option Addr) (hown : Own w B g n n L) (hl : l.length = n) (hk : Kls w ad l) :
    ∃ w', (Builtin.copy_ #[T, T] ty #[.slice (some ⟨g, 0, none⟩) n n, .slice ad n cap]).run Try.prog w = .ok (goInt n) w' ∧ Own w' B g n n l ∧ w.grownBy w' (some g) := by
  obtain ⟨i0, hi, hz0, hz1, hz2⟩ := info_parts info44
  cases n with
  | zero =>
    have e : l = [] := List.length_eq_zero_iff.1 hl
    have e2 : L = [] := List.length_eq_zero_iff.1 (own_len hown)
    subst e e2
    refine ⟨w, ?_, hown, grown_refl _ _⟩
    cases ad with
    | none => simp [Builtin.copy_, run_underlying hT, Builtin.lenOf, Builtin.firstCells, sizeOf, typeInfo, hi, hz1, storeCells]
    | some ad => simp [Builtin.copy_, run_underlying hT, Builtin.lenOf, Builtin.firstCells, sizeOf, typeInfo, hi, hz1, storeCells, loadCells, loadCellsFrom]
  | succ n =>
    obtain ⟨b, o, e, hb, _⟩ := hk 0 _ (List.getElem?_eq_getElem (by omega))
    subst e
    obtain ⟨cur, hg, hB, _, hm, hcs, _⟩ := own_open hown
    have hlen : (flK l).length = (n + 1) * 3 := by rw [flK_len, hl]
    have hld := run_loadCells_list (P := Try.prog) w ⟨b, o, none⟩ (flK l) (kls_cells hk)
    have hst := run_storeCells_at Try.prog g 0 34 (flK l) 0 cur w hg (by omega) (flK_one l)
    rw [hlen] at hld
    have hrow : (List.take (0 + 0) cur.toList ++ flK l ++ List.drop (0 + 0 + (flK l).length) cur.toList).toArray = (flK l).toArray := by
      rw [List.drop_eq_nil_of_le (by simp [hcs, hlen])]; simp
    rw [hrow] at hst
    refine ⟨w.setRow g (flK l).toArray, ?_, own_setRow hg hB hl (Nat.le_refl _) hm ?_ ?_, setRow_grown w g _⟩
    · simp [Builtin.copy_, run_underlying hT, Builtin.lenOf, Builtin.firstCells, sizeOf, typeInfo, hi, hz1, hld, hst]
    · simp [hlen]
    · rw [List.take_of_length_le (by simp [hlen])]
/-- 'copy' into a row of its own, as long as what is copied -/
theorem wpList_copyR {T : TypeId} (hT : Try.prog.underlying T = some (.slice 34)) {w : World} {ops : Array Oper} {rest : List Oper} {o : Oper} {a : Act} {Q : Exit → Act → World → Prop} (hgd : o.guard = none) (d s : Operand)
    (ho : o.op = .call { callee := .builtin .copy, args := #[d, s], argTypes := #[T, T] }) (B g n cap : Nat) (L l : List Kl) (ad : Option Addr) (hd : a.eval d = .slice (some ⟨g, 0, none⟩) n n) (hs : a.eval s = .slice ad n cap) (hown : Own w B g n n L) (hl : l.length = n) (hk : Kls w ad l)
    (h : ∀ w', Own w' B g n n l → w.grownBy w' (some g) → wpList Try.prog ops Q rest (a.put o.dst (goInt n)) w') : wpList Try.prog ops Q (o :: rest) a w := by
  refine wpList_plain hgd fun K hK => ?_
  obtain ⟨w', hrun, h1, h2⟩ := run_copyR w T o.type hT B g n cap L l ad hown hl hk
  unfold Oper.wp
  simp [execOp, ho, resolve, invoke, builtin, hd, hs, hrun, Result.andThen]
  exact hK _ _ (h w' h1 h2)
theorem zero_cells (m : Nat) : (Builtin.zeroCells #[.int .i64 0, .int .i64 0, .int .i64 0] m).toList = List.replicate (m * 3) (iv 0) := by
  apply List.ext_getElem
  · simp [Builtin.zeroCells]
  · intro i h1 h2
    simp [Builtin.zeroCells, iv]
    have : i % 3 = 0 ∨ i % 3 = 1 ∨ i % 3 = 2 := by omega
    rcases this with h | h | h <;> simp [h]
theorem take_flK (l : List Kl) (k : Nat) : (flK l).take (k * 3) = flK (l.take k) := by
  induction l generalizing k with
  | nil => simp [flK]
  | cons x l ih =>
    cases k with
    | zero => simp [flK]
    | succ k =>
      have e : (k + 1) * 3 = k * 3 + 1 + 1 + 1 := by omega
      rw [e]
      simp [flK, ih]
theorem own_cut {w : World} {B g n cap k : Nat} {M : List Kl} (h : Own w B g n cap M) (hk : k ≤ n) : Own w B g k cap (M.take k) := by
  obtain ⟨cur, hg, hB, hc, hm, hcs, htk⟩ := own_open h
  have hl := own_len h
  refine ⟨by rw [flK_len, List.length_take]; omega, Or.inr ⟨g, cap, cur, rfl, hB, hg, by omega, hm, hcs, ?_⟩⟩
  rw [← take_flK, ← htk, List.take_take]
  congr 1; omega
theorem run_clearR (w : World) (T ty : TypeId) (hT : Try.prog.underlying T = some (.slice 34)) (B g n k m c : Nat) (M : List Kl) (p : Option Addr) (hown : Own w B g n n M) (hp : 0 < m → p = some ⟨g, k * 3, none⟩) (hm : k + m ≤ n) :
    ∃ w', (Builtin.clear_ #[T] ty #[.slice p m c]).run Try.prog w = .ok (.tuple #[]) w' ∧ Own w' B g k n (M.take k) ∧ w.grownBy w' (some g) := by
  cases m with
  | zero =>
    refine ⟨w, ?_, own_cut hown (by omega), grown_refl _ _⟩
    cases p <;> simp [Builtin.clear_, run_underlying hT]
  | succ m =>
    have hpp := hp (by omega)
    subst hpp
    obtain ⟨cur, hg, hB, hc, hmx, hcs, htk⟩ := own_open hown
    have hl := own_len hown
    have hst := run_storeCells_at Try.prog g (k * 3) 34 (List.replicate ((m + 1) * 3) (iv 0)) 0 cur w hg (by simp; omega) (by intro v hv; rw [List.eq_of_mem_replicate hv]; rfl)
    obtain ⟨cs, hcs2⟩ : ∃ cs, cs = (List.take (k * 3 + 0) cur.toList ++ List.replicate ((m + 1) * 3) (iv 0) ++ List.drop (k * 3 + 0 + (List.replicate ((m + 1) * 3) (iv 0)).length) cur.toList).toArray := ⟨_, rfl⟩
    rw [← hcs2] at hst
    refine ⟨w.setRow g cs, ?_, own_setRow hg hB (by rw [List.length_take]; omega) (by omega) hmx ?_ ?_, setRow_grown w g _⟩
    · have hz := zero_cells (m + 1)
      have hzc : (Value.agg #[.int .i64 0, .int .i64 0, .int .i64 0]).cells = #[.int .i64 0, .int .i64 0, .int .i64 0] := rfl
      simp only [Builtin.clear_, run_underlying hT]
      simp [run_underlying hT, Try.zeroValue34, hzc, hz]
      rw [hst]
      rfl
    · rw [hcs2]; simp [hcs]; omega
    · rw [← take_flK, ← htk, List.take_take, hcs2]
      have e : min (k * 3) (n * 3) = k * 3 := by omega
      rw [e, List.toList_toArray, List.append_assoc, List.take_append_of_le_length (by simp; omega)]
      simp [List.take_take]
/-- 'clear' of what is behind the first k -/
theorem wpList_clearR {T : TypeId} (hT : Try.prog.underlying T = some (.slice 34)) {w : World} {ops : Array Oper} {rest : List Oper} {o : Oper} {a : Act} {Q : Exit → Act → World → Prop} (hgd : o.guard = none) (s : Operand)
    (ho : o.op = .call { callee := .builtin .clear, args := #[s], argTypes := #[T] }) (B g n k m c : Nat) (M : List Kl) (p : Option Addr) (hs : a.eval s = .slice p m c) (hown : Own w B g n n M) (hp : 0 < m → p = some ⟨g, k * 3, none⟩) (hm : k + m ≤ n)
    (h : ∀ w', Own w' B g k n (M.take k) → w.grownBy w' (some g) → wpList Try.prog ops Q rest (a.put o.dst (.tuple #[])) w') : wpList Try.prog ops Q (o :: rest) a w := by
  refine wpList_plain hgd fun K hK => ?_
  obtain ⟨w', hrun, h1, h2⟩ := run_clearR w T o.type hT B g n k m c M p hown hp hm
  unfold Oper.wp
  simp [execOp, ho, resolve, invoke, builtin, hs, hrun, Result.andThen]
  exact hK _ _ (h w' h1 h2)

end Go.Proofs.Ytfbifffmieimoaa.Rl
