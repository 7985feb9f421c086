/-
  Lists of numbers that grow: one number more, four more; an answer that is a new list; no conditions.
  Laws of memory for a run's four cells; contracts of the leaves that copy a run and hold two against each other; nothing that was there is written.
  Lists of structs of 4 numbers in memory: owned rows and lists that are read; no conditions.
  Contracts of the law's functions that weigh, copy and hold against each other lists of structs, write marks into them and look for them again.
-/
import Derived.Test.YtpmmimcafkillaaZMm
import Derived.Deep.Heap
namespace Go.Proofs.Ytpmmimcafkillaa
open Go.RowKit
set_option linter.unusedVariables false
set_option linter.unusedSimpArgs false

theorem heap_alloc_new (w : World) (o : Obj) : (w.alloc o).heap[w.heap.size]? = some o := Deep.blk_alloc_new _ _
theorem iv_news {w : World} {E : Nat} {v : Int} {t : TypeId} {m : Nat × Nat} (hblk : w.heap[E]? = some (.cells #[.int .i64 v] t m)) : ∀ j u, [iv v][j]? = some u → w.cell? ((⟨E, 0, none⟩ : Addr).add j) = some u := by
  have := World.news_of_block hblk
  simpa [iv] using this
/-- an answer that is a new list -/
def AnI (w : World) (L : List Int) (e : Ending) (w' : World) : Prop := ∃ G cap, e = .returned (.slice (some ⟨G, 0, none⟩) L.length cap) ∧ w.heap.size ≤ G ∧ OwnI w' w.heap.size G L.length cap L ∧ Below w.heap.size w w'
theorem AnI.mk {w w' : World} {L : List Int} {k g c : Nat} (hL : L.length = k) (hg : w.heap.size ≤ g) (ho : OwnI w' w.heap.size g k c L) (hb : Below w.heap.size w w') : AnI w L (.returned (.slice (some ⟨g, 0, none⟩) k c)) w' := by
  subst hL; exact ⟨g, c, rfl, hg, ho, hb⟩
theorem wpList_iA {ops : Array Oper} {rest : List Oper} {o : Oper} {a : Act} {Q : Exit → Act → World → Prop} (w : World) (hgd : o.guard = none) (s x : Operand) (ho : o.op = .call { callee := .builtin .append, args := #[s, x], argTypes := #[29, 29] })
    (B g n cap : Nat) (L : List Int) (v : Int) (hs : a.eval s = .slice (some ⟨g, 0, none⟩) n cap) (hown : OwnI w B g n cap L) (hx : a.eval x = .slice (some ⟨w.heap.size, 0, none⟩) 1 1)
    (hl : n ≤ 1000000) (hB : B ≤ w.heap.size)
    (h : ∀ g' cap' w', OwnI w' B g' (n + 1) cap' (L ++ [v]) → Below B w w' → B ≤ g' → wpList Try.prog ops Q rest (a.put o.dst (.slice (some ⟨g', 0, none⟩) (n + 1) cap')) w') : wpList Try.prog ops Q (o :: rest) a (w.alloc (.cells #[.int .i64 v] 2)) := by
  obtain ⟨i0, hi, hz0, hz1, hz2⟩ := info_parts infoI
  have hb : Below w.heap.size w (w.alloc (.cells #[.int .i64 v] 2)) := (Below.refl _ _).alloc (Nat.le_refl _) _
  have hblk : (w.alloc (.cells #[.int .i64 v] 2)).heap[w.heap.size]? = some (.cells #[.int .i64 v] 2 (0, 0)) := heap_alloc_new w _
  have hnews := iv_news hblk
  have hsz := hb.size
  generalize w.alloc (.cells #[.int .i64 v] 2) = W at *
  have hown2 := ownsRow_below hown hb
  have hBg : B ≤ g := (hown.lt g rfl).1
  refine wpList_append_lies W hgd s x 29 ho B 2 i0 (.int .i64 0) 1 8 Try.underlying29 hi hz0 hz1 hz2 rfl (by decide) _ n (L.map iv) hs hown2 ⟨w.heap.size, 0, none⟩ 1 1 [iv v] hx rfl hnews (by intro u hu; simp at hu; subst hu; rfl) (by decide) (by unfold maxLen; omega) (by omega) (by omega) W.heap.size rfl ?_
  intro g' cap' w' h1 h2 h3 h4
  refine h g' cap' w' (by show World.ownsRow _ _ _ _ _ _ _; rw [List.map_append]; exact h1) ?_ (own_ge h1)
  exact (hb.mono hB).trans ((Below.refl _ _).grown h2 (by omega) (fun k hk => by simp [Value.ownBlock] at hk; omega))
theorem step_iA {ops : Array Oper} {o : Oper} {a : Act} {K : Act → World → Prop} {Q : Exit → Act → World → Prop} {E' : Prop} (w : World) (hgd : o.guard = none) (s x : Operand) (ho : o.op = .call { callee := .builtin .append, args := #[s, x], argTypes := #[29, 29] })
    (B g n cap : Nat) (L : List Int) (v : Int) (hs : a.eval s = .slice (some ⟨g, 0, none⟩) n cap) (hown : OwnI w B g n cap L) (hx : a.eval x = .slice (some ⟨w.heap.size, 0, none⟩) 1 1)
    (hl : n ≤ 1000000) (hB : B ≤ w.heap.size)
    (h : ∀ g' cap' w', OwnI w' B g' (n + 1) cap' (L ++ [v]) → Below B w w' → B ≤ g' → K (a.put o.dst (.slice (some ⟨g', 0, none⟩) (n + 1) cap')) w') :
    if Region.wanted o (yielded ops a.tmps) = true then Oper.wp Try.prog o a (w.alloc (.cells #[.int .i64 v] 2)) K Q else E' := by
  obtain ⟨i0, hi, hz0, hz1, hz2⟩ := info_parts infoI
  have hb : Below w.heap.size w (w.alloc (.cells #[.int .i64 v] 2)) := (Below.refl _ _).alloc (Nat.le_refl _) _
  have hblk : (w.alloc (.cells #[.int .i64 v] 2)).heap[w.heap.size]? = some (.cells #[.int .i64 v] 2 (0, 0)) := heap_alloc_new w _
  have hnews := iv_news hblk
  have hsz := hb.size
  generalize w.alloc (.cells #[.int .i64 v] 2) = W at *
  have hown2 := ownsRow_below hown hb
  have hBg : B ≤ g := (hown.lt g rfl).1
  refine step_append_lies W hgd s x 29 ho B 2 i0 (.int .i64 0) 1 8 Try.underlying29 hi hz0 hz1 hz2 rfl (by decide) _ n (L.map iv) hs hown2 ⟨w.heap.size, 0, none⟩ 1 1 [iv v] hx rfl hnews (by intro y hy; simp at hy; subst hy; rfl) (by decide) (by unfold maxLen; omega) (by omega) (by omega) W.heap.size rfl ?_
  intro g' cap' w' h1 h2 h3 h4
  refine h g' cap' w' (by show World.ownsRow _ _ _ _ _ _ _; rw [List.map_append]; exact h1) ?_ (own_ge h1)
  exact (hb.mono hB).trans ((Below.refl _ _).grown h2 (by omega) (fun k hk => by simp [Value.ownBlock] at hk; omega))
/-- a whole list more -/
theorem step_iL {ops : Array Oper} {o : Oper} {a : Act} {K : Act → World → Prop} {Q : Exit → Act → World → Prop} {E' : Prop} (w : World) (hgd : o.guard = none) (s x : Operand) (ho : o.op = .call { callee := .builtin .append, args := #[s, x], argTypes := #[29, 29] })
    (B g n cap : Nat) (L : List Int) (E c m : Nat) (M : List Int) (hs : a.eval s = .slice (some ⟨g, 0, none⟩) n cap) (hown : OwnI w B g n cap L) (hx : a.eval x = .slice (some ⟨E, 0, none⟩) m c) (hM : OwnI w 0 E m c M) (hm0 : 0 < m)
    (hl : n + m ≤ 1000000) (hB : B ≤ w.heap.size)
    (h : ∀ g' cap' w', OwnI w' B g' (n + m) cap' (L ++ M) → Below B w w' → B ≤ g' → K (a.put o.dst (.slice (some ⟨g', 0, none⟩) (n + m) cap')) w') :
    if Region.wanted o (yielded ops a.tmps) = true then Oper.wp Try.prog o a w K Q else E' := by
  obtain ⟨i0, hi, hz0, hz1, hz2⟩ := info_parts infoI
  have hBg : B ≤ g := (hown.lt g rfl).1
  have hml := ownI_len hM
  have hnews : ∀ j u, (M.map iv)[j]? = some u → w.cell? ((⟨E, 0, none⟩ : Addr).add j) = some u := by
    intro j u hj
    rw [Addr.add_lit, Nat.zero_add]
    have hjl : j < M.length := by have := (List.getElem?_eq_some_iff.1 hj).1; simpa using this
    have e : M[j]? = some M[j] := List.getElem?_eq_getElem hjl
    rw [ownI_at e hM]
    rw [List.getElem?_map, e] at hj
    exact hj
  refine step_append_lies w hgd s x 29 ho B 2 i0 (.int .i64 0) 1 8 Try.underlying29 hi hz0 hz1 hz2 rfl (by decide) _ n (L.map iv) hs hown ⟨E, 0, none⟩ m c (M.map iv) hx (by simp [hml]) hnews (by intro y hy; simp at hy; obtain ⟨q, _, rfl⟩ := hy; rfl) hm0 (by unfold maxLen; omega) (by omega) hB w.heap.size rfl ?_
  intro g' cap' w' h1 h2 h3 h4
  refine h g' cap' w' (by show World.ownsRow _ _ _ _ _ _ _; rw [List.map_append]; exact h1) ?_ (own_ge h1)
  exact (Below.refl _ _).grown h2 (by omega) (fun k hk => by simp [Value.ownBlock] at hk; omega)

end Go.Proofs.Ytpmmimcafkillaa

namespace Go.Proofs.Ytpmmimcafkillaa
open Go.RowKit
set_option linter.unusedVariables false
set_option linter.unusedSimpArgs false

/-- a run as a value: task, worker, from, to -/
abbrev Kl := Int × Int × Int × Int
abbrev ag4 (r g b a : Int) : Value := .agg #[.int .i64 r, .int .i64 g, .int .i64 b, .int .i64 a]
theorem take_snocK {α : Type} {l : List α} {k : Nat} {c : α} (h : l[k]? = some c) : l.take (k + 1) = l.take k ++ [c] := by
  rw [List.take_add_one, h]; rfl
theorem cell_later {w w1 : World} {a : Addr} {v : Value} (hb : Below w.heap.size w w1) (h : w.cell? a = some v) : w1.cell? a = some v := by
  rw [hb.cell (World.block_lt_of_cell? _ _ h)]; exact h
theorem ne_addr {g i j : Nat} (h : i ≠ j) : (⟨g, i, none⟩ : Addr) ≠ ⟨g, j, none⟩ := by intro e; injection e with _ e2 _; exact h e2
theorem ne_blk {g h i j : Nat} (hh : g ≠ h) : (⟨g, i, none⟩ : Addr) ≠ ⟨h, j, none⟩ := by intro e; injection e with e1 _ _; exact hh e1
theorem heap_set_ne {w : World} {b i : Nat} {v : Value} {r : Nat} (h : r ≠ b) : (w.setCell ⟨b, i, none⟩ v).heap[r]? = w.heap[r]? := by
  have hg : b ≠ r := fun e => h e.symm
  simp [World.setCell, Array.getElem?_modify, hg]
theorem sz_alloc {w : World} {o : Obj} : (w.alloc o).heap.size = w.heap.size + 1 := by simp
theorem blk_below {X Y : World} {b : Nat} {o : Obj} (h : X.heap[b]? = some o) (hb : Below X.heap.size X Y) : Y.heap[b]? = some o := by
  rw [hb.block b (Array.getElem?_eq_some_iff.1 h).1]; exact h

end Go.Proofs.Ytpmmimcafkillaa

namespace Go.Proofs.Ytpmmimcafkillaa
open Go.RowKit
set_option linter.unusedVariables false
set_option linter.unusedSimpArgs false

theorem info44 : (Try.prog.info? 31).map (fun i => (i.zero, i.size, i.bytes)) = some (some (.agg #[.int .i64 0, .int .i64 0, .int .i64 0, .int .i64 0]), 4, 32) := by kernel_rfl
abbrev kv (c : Kl) : Value := .agg #[.int .i64 c.1, .int .i64 c.2.1, .int .i64 c.2.2.1, .int .i64 c.2.2.2]
/-- a list, cell by cell -/
def flK : List Kl → List Value
  | [] => []
  | x :: l => iv x.1 :: iv x.2.1 :: iv x.2.2.1 :: iv x.2.2.2 :: flK l
theorem flK_len (l : List Kl) : (flK l).length = l.length * 4 := by
  induction l with
  | nil => rfl
  | cons x l ih => simp [flK, ih]; omega
theorem flK_append (l m : List Kl) : flK (l ++ m) = flK l ++ flK m := by
  induction l with
  | nil => rfl
  | cons x l ih => simp [flK, ih]
theorem flK_get {l : List Kl} {j : Nat} {x : Kl} (h : l[j]? = some x) : (flK l)[j * 4]? = some (iv x.1) ∧ (flK l)[j * 4 + 1]? = some (iv x.2.1) ∧ (flK l)[j * 4 + 2]? = some (iv x.2.2.1) ∧ (flK l)[j * 4 + 3]? = some (iv x.2.2.2) := by
  induction l generalizing j with
  | nil => simp at h
  | cons y l ih =>
    cases j with
    | zero => simp at h; subst h; exact ⟨rfl, rfl, rfl, rfl⟩
    | succ j =>
      have h' : l[j]? = some x := by simpa using h
      have := ih h'
      have e0 : (j + 1) * 4 = j * 4 + 1 + 1 + 1 + 1 := by omega
      have e1 : (j + 1) * 4 + 1 = j * 4 + 1 + 1 + 1 + 1 + 1 := by omega
      have e2 : (j + 1) * 4 + 2 = j * 4 + 2 + 1 + 1 + 1 + 1 := by omega
      have e3 : (j + 1) * 4 + 3 = j * 4 + 3 + 1 + 1 + 1 + 1 := by omega
      rw [e3, e2, e1, e0]
      simpa [flK] using this
theorem flK_set {l : List Kl} {k : Nat} {x : Kl} (hk : k < l.length) : (((((flK l).set (k * 4) (iv x.1)).set (k * 4 + 1) (iv x.2.1)).set (k * 4 + 2) (iv x.2.2.1)).set (k * 4 + 3) (iv x.2.2.2)) = flK (l.set k x) := by
  induction l generalizing k with
  | nil => simp at hk
  | cons y l ih =>
    cases k with
    | zero => simp [flK]
    | succ k =>
      have e0 : (k + 1) * 4 = k * 4 + 1 + 1 + 1 + 1 := by omega
      have e1 : (k + 1) * 4 + 1 = k * 4 + 1 + 1 + 1 + 1 + 1 := by omega
      have e2 : (k + 1) * 4 + 2 = k * 4 + 2 + 1 + 1 + 1 + 1 := by omega
      have e3 : (k + 1) * 4 + 3 = k * 4 + 3 + 1 + 1 + 1 + 1 := by omega
      rw [e3, e2, e1, e0]
      simp only [flK, List.set_cons_succ]
      rw [ih (by simpa using hk)]
/-- the list l behind the address a -/
def Kls (w : World) (a : Option Addr) (l : List Kl) : Prop :=
  ∀ j x, l[j]? = some x → ∃ b o, a = some ⟨b, o, none⟩ ∧ b < w.heap.size ∧ w.cell? ⟨b, o + j * 4, none⟩ = some (.int .i64 x.1) ∧ w.cell? ⟨b, o + j * 4 + 1, none⟩ = some (.int .i64 x.2.1) ∧ w.cell? ⟨b, o + j * 4 + 2, none⟩ = some (.int .i64 x.2.2.1) ∧ w.cell? ⟨b, o + j * 4 + 3, none⟩ = some (.int .i64 x.2.2.2)
theorem Kls.nil {w : World} {a : Option Addr} : Kls w a [] := by intro j z hz; simp at hz
theorem Kls.below {w w' : World} {a : Option Addr} {l : List Kl} (h : Kls w a l) (s : Below w.heap.size w w') : Kls w' a l := by
  intro j x hx
  obtain ⟨b, o, e, h1, c0, c1, c2, c3⟩ := h j x hx
  have C := fun o => (bcell s).1 b o h1
  exact ⟨b, o, e, Nat.lt_of_lt_of_le h1 s.size, (C _).trans c0, (C _).trans c1, (C _).trans c2, (C _).trans c3⟩
/-- an owned list -/
abbrev Own (w : World) (B g n cap : Nat) (l : List Kl) : Prop := w.ownsRow B 31 4 (.slice (some ⟨g, 0, none⟩) n cap) n (flK l)
theorem own_len {w : World} {B g n cap : Nat} {l : List Kl} (h : Own w B g n cap l) : l.length = n := by
  have hl : (flK l).length = n * 4 := h.1
  rw [flK_len] at hl; omega
theorem own_cells {w : World} {B g n cap k : Nat} {l : List Kl} {x : Kl} (hk : l[k]? = some x) (h : Own w B g n cap l) :
    w.cell? ⟨g, k * 4, none⟩ = some (.int .i64 x.1) ∧ w.cell? ⟨g, k * 4 + 1, none⟩ = some (.int .i64 x.2.1) ∧ w.cell? ⟨g, k * 4 + 2, none⟩ = some (.int .i64 x.2.2.1) ∧ w.cell? ⟨g, k * 4 + 3, none⟩ = some (.int .i64 x.2.2.2) := by
  have hl := own_len h
  have hj : k < l.length := (List.getElem?_eq_some_iff.1 hk).1
  obtain ⟨a0, a1, a2, a3⟩ := flK_get hk
  exact ⟨(h.cellAt (k * 4) (by omega)).trans a0, (h.cellAt (k * 4 + 1) (by omega)).trans a1, (h.cellAt (k * 4 + 2) (by omega)).trans a2, (h.cellAt (k * 4 + 3) (by omega)).trans a3⟩
theorem kls_own {w : World} {B g n cap : Nat} {l : List Kl} (h : Own w B g n cap l) : Kls w (some ⟨g, 0, none⟩) l := by
  intro j z hj
  obtain ⟨c0, c1, c2, c3⟩ := own_cells hj h
  exact ⟨g, 0, rfl, own_lt h, by rw [Nat.zero_add]; exact c0, by rw [Nat.zero_add]; exact c1, by rw [Nat.zero_add]; exact c2, by rw [Nat.zero_add]; exact c3⟩
theorem own_put {w : World} {B g n cap k : Nat} {l : List Kl} {x : Kl} (hk : k < l.length) (h : Own w B g n cap l) :
    Own ((((w.setCell ⟨g, k * 4, none⟩ (.int .i64 x.1)).setCell ⟨g, k * 4 + 1, none⟩ (.int .i64 x.2.1)).setCell ⟨g, k * 4 + 2, none⟩ (.int .i64 x.2.2.1)).setCell ⟨g, k * 4 + 3, none⟩ (.int .i64 x.2.2.2)) B g n cap (l.set k x) := by
  have h0 := (h.stored (k * 4) (iv x.1)).1
  have h1 := (h0.stored (k * 4 + 1) (iv x.2.1)).1
  have h2 := (h1.stored (k * 4 + 2) (iv x.2.2.1)).1
  have h3 := (h2.stored (k * 4 + 3) (iv x.2.2.2)).1
  rw [flK_set hk] at h3
  exact h3
theorem K_news {w : World} {E : Nat} {c : Kl} {t : TypeId} {m : Nat × Nat} (hblk : w.heap[E]? = some (.cells #[.int .i64 c.1, .int .i64 c.2.1, .int .i64 c.2.2.1, .int .i64 c.2.2.2] t m)) : ∀ j u, [iv c.1, iv c.2.1, iv c.2.2.1, iv c.2.2.2][j]? = some u → w.cell? ((⟨E, 0, none⟩ : Addr).add j) = some u := by
  have := World.news_of_block hblk
  simpa [iv] using this
/-- one more behind an owned list -/
theorem wpList_k {T : TypeId} (hT : Try.prog.underlying T = some (.slice 31)) {ops : Array Oper} {rest : List Oper} {o : Oper} {a : Act} {Q : Exit → Act → World → Prop} (w : World) (hgd : o.guard = none) (s x : Operand) (ho : o.op = .call { callee := .builtin .append, args := #[s, x], argTypes := #[T, T] })
    (B g n cap : Nat) (L : List Kl) (v : Kl) (hs : a.eval s = .slice (some ⟨g, 0, none⟩) n cap) (hown : Own w B g n cap L) (E : Nat) (hx : a.eval x = .slice (some ⟨E, 0, none⟩) 1 1)
    (hblk : w.heap[E]? = some (.cells #[.int .i64 v.1, .int .i64 v.2.1, .int .i64 v.2.2.1, .int .i64 v.2.2.2] 31 (0, 0))) (hl : n ≤ 1000000) (hB : B ≤ w.heap.size)
    (h : ∀ g' cap' w', Own w' B g' (n + 1) cap' (L ++ [v]) → Below B w w' → B ≤ g' → wpList Try.prog ops Q rest (a.put o.dst (.slice (some ⟨g', 0, none⟩) (n + 1) cap')) w') : wpList Try.prog ops Q (o :: rest) a w := by
  obtain ⟨i0, hi, hz0, hz1, hz2⟩ := info_parts info44
  have hBg : B ≤ g := (hown.lt g rfl).1
  refine wpList_append_lies w hgd s x T ho B 31 i0 (.agg #[.int .i64 0, .int .i64 0, .int .i64 0, .int .i64 0]) 4 32 hT hi hz0 hz1 hz2 rfl (by decide) _ n (flK L) hs hown ⟨E, 0, none⟩ 1 1 [iv v.1, iv v.2.1, iv v.2.2.1, iv v.2.2.2] hx rfl (K_news hblk) (by intro u hu; simp at hu; rcases hu with rfl | rfl | rfl | rfl <;> rfl) (by decide) (by unfold maxLen; omega) (by omega) hB w.heap.size rfl ?_
  intro g' cap' w' h1 h2 h3 h4
  refine h g' cap' w' (by show World.ownsRow _ _ _ _ _ _ _; rw [flK_append]; exact h1) ?_ ?_
  · exact (Below.refl _ _).grown h2 hB (fun k hk => by simp [Value.ownBlock] at hk; omega)
  · rcases h3 with h3 | h3
    · simp [Value.ownBlock] at h3; omega
    · omega
theorem wpList_kN {T : TypeId} (hT : Try.prog.underlying T = some (.slice 31)) {ops : Array Oper} {rest : List Oper} {o : Oper} {a : Act} {Q : Exit → Act → World → Prop} {X wr : World} {B C g n cap : Nat} {v0 : Int} {v1 : Int} {v2 : Int} {v3 : Int} {L : List Kl} (hgd : o.guard = none) (s x : Operand) (ho : o.op = .call { callee := .builtin .append, args := #[s, x], argTypes := #[T, T] })
    (hs : a.eval s = .slice (some ⟨g, 0, none⟩) n cap) (hown : Own wr B g n cap L) (hX : Below C wr X) (hg : g < C) (E : Nat) (hE : X.heap.size = E) (hx : a.eval x = .slice (some ⟨E, 0, none⟩) 1 1) (hl : n ≤ 1000000) (hB : B ≤ wr.heap.size) (hBC : B ≤ C)
    (h : ∀ g' cap' w', Own w' B g' (n + 1) cap' (L ++ [(v0, v1, v2, v3)]) → Below B wr w' → B ≤ g' → g' < w'.heap.size → wpList Try.prog ops Q rest (a.put o.dst (.slice (some ⟨g', 0, none⟩) (n + 1) cap')) w') : wpList Try.prog ops Q (o :: rest) a (X.alloc (.cells #[.int .i64 v0, .int .i64 v1, .int .i64 v2, .int .i64 v3] 31)) := by
  subst hE
  have hb2 : Below B wr (X.alloc (.cells #[.int .i64 v0, .int .i64 v1, .int .i64 v2, .int .i64 v3] 31)) := (hX.mono hBC).alloc (Nat.le_trans hB hX.size) _
  refine wpList_k hT _ hgd s x ho B g n cap L (v0, v1, v2, v3) hs (own_blk (own_blk hown hX hg) ((Below.refl X.heap.size X).alloc (Nat.le_refl _) _) ?_) X.heap.size hx (heap_alloc_new X _) hl (Nat.le_trans hB hb2.size) ?_
  · exact (own_lt (own_blk hown hX hg))
  · intro g' cap' w' h1 h2 h3
    exact h g' cap' w' h1 (hb2.trans h2) h3 (own_lt h1)
/-- a literal with none -/
theorem own_lit0 (w : World) {B : Nat} (hB : B ≤ w.heap.size) : Own (w.alloc (.cells #[] 31)) B w.heap.size 0 0 [] := by
  have h := World.ownsRow_lit (base := B) (e := 31) (size := 4) w #[] 0 hB (by unfold maxLen; omega) rfl
  exact h

end Go.Proofs.Ytpmmimcafkillaa

namespace Go.Proofs.Ytpmmimcafkillaa
open Go.RowKit
set_option linter.unusedVariables false
set_option linter.unusedSimpArgs false

/-- the copy's list as it stands: the first are there, nought behind them -/
def mid (l : List Kl) (n k : Nat) : List Kl := l.take k ++ List.replicate (n - k) (0, 0, 0, 0)
theorem mid_len {l : List Kl} {n k : Nat} (hl : l.length = n) (hk : k ≤ n) : (mid l n k).length = n := by simp [mid]; omega
theorem mid_set {l : List Kl} {n k : Nat} {x : Kl} (hl : l.length = n) (h : l[k]? = some x) : (mid l n k).set k x = mid l n (k + 1) := by
  have hk : k < l.length := (List.getElem?_eq_some_iff.1 h).1
  unfold mid
  rw [take_snocK h, List.set_append_right _ _ (by simp; omega)]
  have e : n - k = (n - (k + 1)) + 1 := by omega
  rw [e, List.replicate_succ]
  have e2 : k - (l.take k).length = 0 := by simp; omega
  rw [e2]; simp
theorem flK_rep (n : Nat) : flK (List.replicate n (0, 0, 0, 0)) = List.replicate (n * 4) (iv 0) := by
  induction n with
  | zero => rfl
  | succ n ih =>
    have e : (n + 1) * 4 = n * 4 + 1 + 1 + 1 + 1 := by omega
    rw [e, List.replicate_succ, List.replicate_succ, List.replicate_succ, List.replicate_succ, List.replicate_succ, ← ih]
    rfl
theorem made_flK (n : Nat) : (madeCells #[.int .i64 0, .int .i64 0, .int .i64 0, .int .i64 0] (n * 4)).toList = flK (List.replicate n (0, 0, 0, 0)) := by
  rw [flK_rep]
  apply List.ext_getElem
  · simp [madeCells]
  · intro i h1 h2
    simp [madeCells, iv]
    have : i % 4 = 0 ∨ i % 4 = 1 ∨ i % 4 = 2 ∨ i % 4 = 3 := by omega
    rcases this with h | h | h | h <;> simp [h]

theorem keepN {w w0 w1 : World} {a0 a1 a2 a3 a4 a5 a6 a7 : Addr} {v0 v1 v2 v3 v4 v5 v6 v7 : Value}
    (h : w0.cell? a0 = some v0 ∧ w0.cell? a1 = some v1 ∧ w0.cell? a2 = some v2 ∧ w0.cell? a3 = some v3 ∧ w0.cell? a4 = some v4 ∧ w0.cell? a5 = some v5 ∧ w0.cell? a6 = some v6 ∧ w0.cell? a7 = some v7 ∧ Below w.heap.size w w0) (hb : Below w0.heap.size w0 w1) :
    w1.cell? a0 = some v0 ∧ w1.cell? a1 = some v1 ∧ w1.cell? a2 = some v2 ∧ w1.cell? a3 = some v3 ∧ w1.cell? a4 = some v4 ∧ w1.cell? a5 = some v5 ∧ w1.cell? a6 = some v6 ∧ w1.cell? a7 = some v7 ∧ Below w.heap.size w w1 := by
  obtain ⟨h0, h1, h2, h3, h4, h5, h6, h7, hB⟩ := h
  exact ⟨cell_later hb h0, cell_later hb h1, cell_later hb h2, cell_later hb h3, cell_later hb h4, cell_later hb h5, cell_later hb h6, cell_later hb h7, hB.trans (hb.mono hB.size)⟩
theorem keepNd {w w0 : World} {a0 a1 a2 a3 a4 a5 a6 a7 : Addr} {v0 v1 v2 v3 v4 v5 v6 v7 : Value}
    (h : w0.cell? a0 = some v0 ∧ w0.cell? a1 = some v1 ∧ w0.cell? a2 = some v2 ∧ w0.cell? a3 = some v3 ∧ w0.cell? a4 = some v4 ∧ w0.cell? a5 = some v5 ∧ w0.cell? a6 = some v6 ∧ w0.cell? a7 = some v7 ∧ Below w.heap.size w w0) : w0.drew.cell? a0 = some v0 ∧ w0.drew.cell? a1 = some v1 ∧ w0.drew.cell? a2 = some v2 ∧ w0.drew.cell? a3 = some v3 ∧ w0.drew.cell? a4 = some v4 ∧ w0.drew.cell? a5 = some v5 ∧ w0.drew.cell? a6 = some v6 ∧ w0.drew.cell? a7 = some v7 ∧ Below w.heap.size w w0.drew := by
  obtain ⟨h0, h1, h2, h3, h4, h5, h6, h7, hB⟩ := h
  exact ⟨h0, h1, h2, h3, h4, h5, h6, h7, hB.drew⟩

theorem mark_n {wr : World} {B g n cap k : Nat} {q : Int} {ys : List Value} (hlt : k < n) (hy : wr.ownsRow B 31 4 (.slice (some ⟨g, 0, none⟩) n cap) n ys) (hm : Mkd q (k * 4) ys) :
    ∃ ys, (((((wr.setCell ⟨g, k * 4, none⟩ (.int .i64 (q + k * 4))).setCell ⟨g, k * 4 + 1, none⟩ (.int .i64 (q + k * 4 + 1))).setCell ⟨g, k * 4 + 2, none⟩ (.int .i64 (q + k * 4 + 1 + 1))).setCell ⟨g, k * 4 + 3, none⟩ (.int .i64 (q + k * 4 + 1 + 1 + 1)))).ownsRow B 31 4 (.slice (some ⟨g, 0, none⟩) n cap) n ys ∧ Mkd q ((k + 1) * 4) ys := by
  have hl : ys.length = n * 4 := hy.1
  have h0 := (hy.stored (k * 4) (iv (q + ((k * 4 : Nat) : Int)))).1
  have m0 := hm.set (by omega)
  have h1 := (h0.stored (k * 4 + 1) (iv (q + ((k * 4 + 1 : Nat) : Int)))).1
  have m1 := m0.set (by rw [List.length_set]; omega)
  have h2 := (h1.stored (k * 4 + 2) (iv (q + ((k * 4 + 2 : Nat) : Int)))).1
  have m2 := m1.set (by rw [List.length_set, List.length_set]; omega)
  have h3 := (h2.stored (k * 4 + 3) (iv (q + ((k * 4 + 3 : Nat) : Int)))).1
  have m3 := m2.set (by rw [List.length_set, List.length_set, List.length_set]; omega)
  have e0 : q + ((k * 4 : Nat) : Int) = q + k * 4 := by omega
  have e1 : q + ((k * 4 + 1 : Nat) : Int) = q + k * 4 + 1 := by omega
  have e2 : q + ((k * 4 + 2 : Nat) : Int) = q + k * 4 + 1 + 1 := by omega
  have e3 : q + ((k * 4 + 3 : Nat) : Int) = q + k * 4 + 1 + 1 + 1 := by omega
  have d2 : q + ((k * 4 + 1 + 1 : Nat) : Int) = q + k * 4 + 1 + 1 := by omega
  have d3 : q + ((k * 4 + 1 + 1 + 1 : Nat) : Int) = q + k * 4 + 1 + 1 + 1 := by omega
  have z5 : (k + 1) * 4 = k * 4 + 1 + 1 + 1 + 1 := by omega
  rw [e0, e1, e2, e3] at h3
  rw [e0, e1, d2, d3] at m3
  rw [z5]
  exact ⟨_, h3, m3⟩

end Go.Proofs.Ytpmmimcafkillaa
