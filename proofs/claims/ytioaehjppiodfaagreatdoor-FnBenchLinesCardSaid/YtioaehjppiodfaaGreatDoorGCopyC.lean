/-
  Lists of changes in memory: owned rows and lists that are read; no conditions.
  Contracts of the law's functions that weigh, copy and hold against each other lists of changes, write marks into them and look for them again.
-/
import Derived.Test.YtioaehjppiodfaaGreatDoorGCopy
namespace Go.Proofs.YtioaehjppiodfaaGreatDoor
open Go.RowKit
set_option linter.unusedVariables false
set_option linter.unusedSimpArgs false

theorem info48 : (Tryz.prog.info? 103).map (fun i => (i.zero, i.size, i.bytes)) = some (some (.agg #[.int .i64 0, .int .i64 0, .int .i64 0, .int .i64 0]), 4, 32) := by kernel_rfl
/-- a change: kind, source, in, length -/
abbrev Ch := Int × Int × Int × Int
/-- a list of changes, cell by cell -/
def flC : List Ch → List Value
  | [] => []
  | x :: l => iv x.1 :: iv x.2.1 :: iv x.2.2.1 :: iv x.2.2.2 :: flC l
theorem flC_len (l : List Ch) : (flC l).length = l.length * 4 := by
  induction l with
  | nil => rfl
  | cons x l ih => simp [flC, ih]; omega
theorem flC_append (l m : List Ch) : flC (l ++ m) = flC l ++ flC m := by
  induction l with
  | nil => rfl
  | cons x l ih => simp [flC, ih]
theorem flC_get {l : List Ch} {j : Nat} {x : Ch} (h : l[j]? = some x) : (flC l)[j * 4]? = some (iv x.1) ∧ (flC l)[j * 4 + 1]? = some (iv x.2.1) ∧ (flC l)[j * 4 + 2]? = some (iv x.2.2.1) ∧ (flC l)[j * 4 + 3]? = some (iv x.2.2.2) := by
  induction l generalizing j with
  | nil => simp at h
  | cons y l ih =>
    cases j with
    | zero => simp at h; subst h; exact ⟨rfl, rfl, rfl, rfl⟩
    | succ j =>
      have h' : l[j]? = some x := by simpa using h
      have := ih h'
      have e1 : (j + 1) * 4 = j * 4 + 1 + 1 + 1 + 1 := by omega
      have e2 : (j + 1) * 4 + 1 = j * 4 + 1 + 1 + 1 + 1 + 1 := by omega
      have e3 : (j + 1) * 4 + 2 = j * 4 + 2 + 1 + 1 + 1 + 1 := by omega
      have e4 : (j + 1) * 4 + 3 = j * 4 + 3 + 1 + 1 + 1 + 1 := by omega
      rw [e2, e3, e4, e1]
      simpa [flC] using this
theorem flC_set {l : List Ch} {k : Nat} {x : Ch} (hk : k < l.length) : ((((flC l).set (k * 4) (iv x.1)).set (k * 4 + 1) (iv x.2.1)).set (k * 4 + 2) (iv x.2.2.1)).set (k * 4 + 3) (iv x.2.2.2) = flC (l.set k x) := by
  induction l generalizing k with
  | nil => simp at hk
  | cons y l ih =>
    cases k with
    | zero => simp [flC]
    | succ k =>
      have e1 : (k + 1) * 4 = k * 4 + 1 + 1 + 1 + 1 := by omega
      have e2 : (k + 1) * 4 + 1 = k * 4 + 1 + 1 + 1 + 1 + 1 := by omega
      have e3 : (k + 1) * 4 + 2 = k * 4 + 2 + 1 + 1 + 1 + 1 := by omega
      have e4 : (k + 1) * 4 + 3 = k * 4 + 3 + 1 + 1 + 1 + 1 := by omega
      rw [e2, e3, e4, e1]
      simp only [flC, List.set_cons_succ]
      rw [ih (by simpa using hk)]

/-- the changes l behind the address a -/
def Chs (w : World) (a : Option Addr) (l : List Ch) : Prop :=
  ∀ j x, l[j]? = some x → ∃ b o, a = some ⟨b, o, none⟩ ∧ b < w.heap.size ∧ w.cell? ⟨b, o + j * 4, none⟩ = some (.int .i64 x.1) ∧ w.cell? ⟨b, o + j * 4 + 1, none⟩ = some (.int .i64 x.2.1) ∧ w.cell? ⟨b, o + j * 4 + 2, none⟩ = some (.int .i64 x.2.2.1) ∧ w.cell? ⟨b, o + j * 4 + 3, none⟩ = some (.int .i64 x.2.2.2)
theorem Chs.nil {w : World} {a : Option Addr} : Chs w a [] := by intro j z hz; simp at hz
theorem Chs.below {w w' : World} {a : Option Addr} {l : List Ch} (h : Chs w a l) (s : Below w.heap.size w w') : Chs w' a l := by
  intro j x hx
  obtain ⟨b, o, e, h1, c0, c1, c2, c3⟩ := h j x hx
  have C := fun o => (bcell s).1 b o h1
  exact ⟨b, o, e, Nat.lt_of_lt_of_le h1 s.size, (C _).trans c0, (C _).trans c1, (C _).trans c2, (C _).trans c3⟩
theorem chs_at {w wr : World} {a : Option Addr} {l : List Ch} {k : Nat} (h : Chs w a l) (hb : Below w.heap.size w wr) (hlt : k < l.length) :
    ∃ x1 x2 x3 x4 b o, l[k]? = some (x1, x2, x3, x4) ∧ a = some ⟨b, o, none⟩ ∧ b < w.heap.size ∧ wr.cell? ⟨b, o + k * 4, none⟩ = some (.int .i64 x1) ∧ wr.cell? ⟨b, o + k * 4 + 1, none⟩ = some (.int .i64 x2) ∧ wr.cell? ⟨b, o + k * 4 + 2, none⟩ = some (.int .i64 x3) ∧ wr.cell? ⟨b, o + k * 4 + 3, none⟩ = some (.int .i64 x4) := by
  obtain ⟨⟨x1, x2, x3, x4⟩, hx⟩ : ∃ x, l[k]? = some x := ⟨l[k], List.getElem?_eq_getElem hlt⟩
  obtain ⟨b, o, e, h1, c0, c1, c2, c3⟩ := h k _ hx
  have C := fun o => (bcell hb).1 b o h1
  exact ⟨x1, x2, x3, x4, b, o, hx, e, h1, (C _).trans c0, (C _).trans c1, (C _).trans c2, (C _).trans c3⟩

/-- an owned list of changes -/
abbrev OwnC (w : World) (B g n cap : Nat) (l : List Ch) : Prop := w.ownsRow B 103 4 (.slice (some ⟨g, 0, none⟩) n cap) n (flC l)
theorem ownc_len {w : World} {B g n cap : Nat} {l : List Ch} (h : OwnC w B g n cap l) : l.length = n := by
  have hl : (flC l).length = n * 4 := h.1
  rw [flC_len] at hl; omega
theorem ownc_cells {w : World} {B g n cap k : Nat} {l : List Ch} {x : Ch} (hk : l[k]? = some x) (h : OwnC w B g n cap l) :
    w.cell? ⟨g, k * 4, none⟩ = some (.int .i64 x.1) ∧ w.cell? ⟨g, k * 4 + 1, none⟩ = some (.int .i64 x.2.1) ∧ w.cell? ⟨g, k * 4 + 2, none⟩ = some (.int .i64 x.2.2.1) ∧ w.cell? ⟨g, k * 4 + 3, none⟩ = some (.int .i64 x.2.2.2) := by
  have hl := ownc_len h
  have hj : k < l.length := (List.getElem?_eq_some_iff.1 hk).1
  obtain ⟨a1, a2, a3, a4⟩ := flC_get hk
  exact ⟨(h.cellAt (k * 4) (by omega)).trans a1, (h.cellAt (k * 4 + 1) (by omega)).trans a2, (h.cellAt (k * 4 + 2) (by omega)).trans a3, (h.cellAt (k * 4 + 3) (by omega)).trans a4⟩
theorem chs_own {w : World} {B g n cap : Nat} {l : List Ch} (h : OwnC w B g n cap l) : Chs w (some ⟨g, 0, none⟩) l := by
  intro j z hj
  obtain ⟨c0, c1, c2, c3⟩ := ownc_cells hj h
  exact ⟨g, 0, rfl, own_lt h, by rw [Nat.zero_add]; exact c0, by rw [Nat.zero_add]; exact c1, by rw [Nat.zero_add]; exact c2, by rw [Nat.zero_add]; exact c3⟩
theorem ownc_put {w : World} {B g n cap k : Nat} {l : List Ch} {x : Ch} (hk : k < l.length) (h : OwnC w B g n cap l) :
    OwnC ((((w.setCell ⟨g, k * 4, none⟩ (.int .i64 x.1)).setCell ⟨g, k * 4 + 1, none⟩ (.int .i64 x.2.1)).setCell ⟨g, k * 4 + 2, none⟩ (.int .i64 x.2.2.1)).setCell ⟨g, k * 4 + 3, none⟩ (.int .i64 x.2.2.2)) B g n cap (l.set k x) := by
  have h1 := (h.stored (k * 4) (iv x.1)).1
  have h2 := (h1.stored (k * 4 + 1) (iv x.2.1)).1
  have h3 := (h2.stored (k * 4 + 2) (iv x.2.2.1)).1
  have h4 := (h3.stored (k * 4 + 3) (iv x.2.2.2)).1
  rw [flC_set hk] at h4
  exact h4
theorem C_news {w : World} {E : Nat} {c : Ch} {t : TypeId} {m : Nat × Nat} (hblk : w.heap[E]? = some (.cells #[.int .i64 c.1, .int .i64 c.2.1, .int .i64 c.2.2.1, .int .i64 c.2.2.2] t m)) : ∀ j u, [iv c.1, iv c.2.1, iv c.2.2.1, iv c.2.2.2][j]? = some u → w.cell? ((⟨E, 0, none⟩ : Addr).add j) = some u := by
  have := World.news_of_block hblk
  simpa [iv] using this

/-- one change more behind an owned list: it lies where it lay, or in a new block -/
theorem wpList_c {T : TypeId} (hT : Tryz.prog.underlying T = some (.slice 103)) {ops : Array Oper} {rest : List Oper} {o : Oper} {a : Act} {Q : Exit → Act → World → Prop} (w : World) (hgd : o.guard = none) (s x : Operand) (ho : o.op = .call { callee := .builtin .append, args := #[s, x], argTypes := #[T, T] })
    (B g n cap : Nat) (L : List Ch) (v : Ch) (hs : a.eval s = .slice (some ⟨g, 0, none⟩) n cap) (hown : OwnC w B g n cap L) (E : Nat) (hx : a.eval x = .slice (some ⟨E, 0, none⟩) 1 1)
    (hblk : w.heap[E]? = some (.cells #[.int .i64 v.1, .int .i64 v.2.1, .int .i64 v.2.2.1, .int .i64 v.2.2.2] 103 (0, 0))) (hl : n ≤ 1000000) (hB : B ≤ w.heap.size)
    (h : ∀ g' cap' w', OwnC w' B g' (n + 1) cap' (L ++ [v]) → w.grownBy w' (some g) → (g' = g ∨ g' = w.heap.size) → wpList Tryz.prog ops Q rest (a.put o.dst (.slice (some ⟨g', 0, none⟩) (n + 1) cap')) w') : wpList Tryz.prog ops Q (o :: rest) a w := by
  obtain ⟨i0, hi, hz0, hz1, hz2⟩ := info_parts info48
  have hBg : B ≤ g := (hown.lt g rfl).1
  refine wpList_append_lies w hgd s x T ho B 103 i0 (.agg #[.int .i64 0, .int .i64 0, .int .i64 0, .int .i64 0]) 4 32 hT hi hz0 hz1 hz2 rfl (by decide) _ n (flC L) hs hown ⟨E, 0, none⟩ 1 1 [iv v.1, iv v.2.1, iv v.2.2.1, iv v.2.2.2] hx rfl (C_news hblk) (by intro u hu; simp at hu; rcases hu with rfl | rfl | rfl | rfl <;> rfl) (by decide) (by unfold maxLen; omega) (by omega) hB w.heap.size rfl ?_
  intro g' cap' w' h1 h2 h3 h4
  refine h g' cap' w' (by show World.ownsRow _ _ _ _ _ _ _; rw [flC_append]; exact h1) ?_ ?_
  · simpa [Value.ownBlock] using h2
  · rcases h3 with h3 | h3
    · simp [Value.ownBlock] at h3; left; omega
    · right; omega
/-- a literal with no changes -/
theorem ownc_lit0 (w : World) {B : Nat} (hB : B ≤ w.heap.size) : OwnC (w.alloc (.cells #[] 103)) B w.heap.size 0 0 [] := by
  have h := World.ownsRow_lit (base := B) (e := 103) (size := 4) w #[] 0 hB (by unfold maxLen; omega) rfl
  exact h

end Go.Proofs.YtioaehjppiodfaaGreatDoor

namespace Go.Proofs.YtioaehjppiodfaaGreatDoor
open Go.RowKit
set_option linter.unusedVariables false
set_option linter.unusedSimpArgs false

def midC (l : List Ch) (n k : Nat) : List Ch := l.take k ++ List.replicate (n - k) (0, 0, 0, 0)
theorem midC_len {l : List Ch} {n k : Nat} (hl : l.length = n) (hk : k ≤ n) : (midC l n k).length = n := by simp [midC]; omega
theorem take_snocC {l : List Ch} {k : Nat} {c : Ch} (h : l[k]? = some c) : l.take (k + 1) = l.take k ++ [c] := by
  rw [List.take_add_one, h]; rfl
theorem midC_set {l : List Ch} {n k : Nat} {x : Ch} (hl : l.length = n) (h : l[k]? = some x) : (midC l n k).set k x = midC l n (k + 1) := by
  have hk : k < l.length := (List.getElem?_eq_some_iff.1 h).1
  unfold midC
  rw [take_snocC h, List.set_append_right _ _ (by simp; omega)]
  have e : n - k = (n - (k + 1)) + 1 := by omega
  rw [e, List.replicate_succ]
  have e2 : k - (l.take k).length = 0 := by simp; omega
  rw [e2]; simp
theorem flC_rep (n : Nat) : flC (List.replicate n (0, 0, 0, 0)) = List.replicate (n * 4) (iv 0) := by
  induction n with
  | zero => rfl
  | succ n ih =>
    have e : (n + 1) * 4 = n * 4 + 1 + 1 + 1 + 1 := by omega
    rw [e, List.replicate_succ, List.replicate_succ, List.replicate_succ, List.replicate_succ, List.replicate_succ, ← ih]
    rfl
theorem made_flC (n : Nat) : (madeCells #[.int .i64 0, .int .i64 0, .int .i64 0, .int .i64 0] (n * 4)).toList = flC (List.replicate n (0, 0, 0, 0)) := by
  rw [flC_rep]
  apply List.ext_getElem
  · simp [madeCells]
  · intro i h1 h2
    simp [madeCells, iv]
    have : i % 4 = 0 ∨ i % 4 = 1 ∨ i % 4 = 2 ∨ i % 4 = 3 := by omega
    rcases this with h | h | h | h <;> simp [h]

theorem keep8 {w w0 w1 : World} {a1 a2 a3 a4 a5 a6 a7 a8 : Addr} {v1 v2 v3 v4 v5 v6 v7 v8 : Value}
    (h : w0.cell? a1 = some v1 ∧ w0.cell? a2 = some v2 ∧ w0.cell? a3 = some v3 ∧ w0.cell? a4 = some v4 ∧ w0.cell? a5 = some v5 ∧ w0.cell? a6 = some v6 ∧ w0.cell? a7 = some v7 ∧ w0.cell? a8 = some v8 ∧ Below w.heap.size w w0) (hb : Below w0.heap.size w0 w1) :
    w1.cell? a1 = some v1 ∧ w1.cell? a2 = some v2 ∧ w1.cell? a3 = some v3 ∧ w1.cell? a4 = some v4 ∧ w1.cell? a5 = some v5 ∧ w1.cell? a6 = some v6 ∧ w1.cell? a7 = some v7 ∧ w1.cell? a8 = some v8 ∧ Below w.heap.size w w1 := by
  obtain ⟨h1, h2, h3, h4, h5, h6, h7, h8, h9⟩ := h
  exact ⟨cell_later hb h1, cell_later hb h2, cell_later hb h3, cell_later hb h4, cell_later hb h5, cell_later hb h6, cell_later hb h7, cell_later hb h8, h9.trans (hb.mono h9.size)⟩
theorem keep8d {w w0 : World} {a1 a2 a3 a4 a5 a6 a7 a8 : Addr} {v1 v2 v3 v4 v5 v6 v7 v8 : Value}
    (h : w0.cell? a1 = some v1 ∧ w0.cell? a2 = some v2 ∧ w0.cell? a3 = some v3 ∧ w0.cell? a4 = some v4 ∧ w0.cell? a5 = some v5 ∧ w0.cell? a6 = some v6 ∧ w0.cell? a7 = some v7 ∧ w0.cell? a8 = some v8 ∧ Below w.heap.size w w0) :
    w0.drew.cell? a1 = some v1 ∧ w0.drew.cell? a2 = some v2 ∧ w0.drew.cell? a3 = some v3 ∧ w0.drew.cell? a4 = some v4 ∧ w0.drew.cell? a5 = some v5 ∧ w0.drew.cell? a6 = some v6 ∧ w0.drew.cell? a7 = some v7 ∧ w0.drew.cell? a8 = some v8 ∧ Below w.heap.size w w0.drew := by
  obtain ⟨h1, h2, h3, h4, h5, h6, h7, h8, h9⟩ := h
  exact ⟨h1, h2, h3, h4, h5, h6, h7, h8, h9.drew⟩

theorem mark_four {wr : World} {B g n cap k : Nat} {q : Int} {ys : List Value} (hlt : k < n) (hy : wr.ownsRow B 103 4 (.slice (some ⟨g, 0, none⟩) n cap) n ys) (hm : Mkd q (k * 4) ys) :
    ∃ ys, ((((wr.setCell ⟨g, k * 4, none⟩ (.int .i64 (q + k * 4))).setCell ⟨g, k * 4 + 1, none⟩ (.int .i64 (q + k * 4 + 1))).setCell ⟨g, k * 4 + 2, none⟩ (.int .i64 (q + k * 4 + 1 + 1))).setCell ⟨g, k * 4 + 3, none⟩ (.int .i64 (q + k * 4 + 1 + 1 + 1))).ownsRow B 103 4 (.slice (some ⟨g, 0, none⟩) n cap) n ys ∧ Mkd q ((k + 1) * 4) ys := by
  have hl : ys.length = n * 4 := hy.1
  have h1 := (hy.stored (k * 4) (iv (q + ((k * 4 : Nat) : Int)))).1
  have m1 := hm.set (by omega)
  have h2 := (h1.stored (k * 4 + 1) (iv (q + ((k * 4 + 1 : Nat) : Int)))).1
  have m2 := m1.set (by rw [List.length_set]; omega)
  have h3 := (h2.stored (k * 4 + 2) (iv (q + ((k * 4 + 2 : Nat) : Int)))).1
  have m3 := m2.set (by rw [List.length_set, List.length_set]; omega)
  have h4 := (h3.stored (k * 4 + 3) (iv (q + ((k * 4 + 3 : Nat) : Int)))).1
  have m4 := m3.set (by rw [List.length_set, List.length_set, List.length_set]; omega)
  have e1 : q + ((k * 4 : Nat) : Int) = q + k * 4 := by omega
  have e2 : q + ((k * 4 + 1 : Nat) : Int) = q + k * 4 + 1 := by omega
  have e3 : q + ((k * 4 + 2 : Nat) : Int) = q + k * 4 + 1 + 1 := by omega
  have e4 : q + ((k * 4 + 1 + 1 : Nat) : Int) = q + k * 4 + 1 + 1 := by omega
  have e6 : q + ((k * 4 + 3 : Nat) : Int) = q + k * 4 + 1 + 1 + 1 := by omega
  have e7 : q + ((k * 4 + 1 + 1 + 1 : Nat) : Int) = q + k * 4 + 1 + 1 + 1 := by omega
  have e5 : (k + 1) * 4 = k * 4 + 1 + 1 + 1 + 1 := by omega
  rw [e1, e2, e3, e6] at h4
  rw [e1, e2, e4, e7] at m4
  rw [e5]
  exact ⟨_, h4, m4⟩

end Go.Proofs.YtioaehjppiodfaaGreatDoor
