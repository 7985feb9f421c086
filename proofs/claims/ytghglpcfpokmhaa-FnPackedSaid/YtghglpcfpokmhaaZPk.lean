/-
  Lists of structs of 3 numbers in memory: owned rows and lists that are read; no conditions.
  Contracts of the law's functions that weigh, copy and hold against each other lists of structs, write marks into them and look for them again.
  How the law weighs a list of assets: the contract; nothing that was there is written.
  Contracts of both PackOks; nothing that was there is written.
-/
import Derived.Test.YtghglpcfpokmhaaZBasA
namespace Go.Proofs.Ytghglpcfpokmhaa
open Go.RowKit
set_option linter.unusedVariables false
set_option linter.unusedSimpArgs false

theorem info44 : (Try.prog.info? 38).map (fun i => (i.zero, i.size, i.bytes)) = some (some (.agg #[.string ⟨#[]⟩, .int .i64 0, .int .i64 0]), 3, 32) := by kernel_rfl
abbrev kv (c : Kl) : Value := .agg #[.string c.1, .int .i64 c.2.1, .int .i64 c.2.2]
/-- a list, cell by cell -/
def flK : List Kl → List Value
  | [] => []
  | x :: l => sv (x.1) :: iv x.2.1 :: iv x.2.2 :: flK l
theorem flK_len (l : List Kl) : (flK l).length = l.length * 3 := by
  induction l with
  | nil => rfl
  | cons x l ih => simp [flK, ih]; omega
theorem flK_append (l m : List Kl) : flK (l ++ m) = flK l ++ flK m := by
  induction l with
  | nil => rfl
  | cons x l ih => simp [flK, ih]
theorem flK_get {l : List Kl} {j : Nat} {x : Kl} (h : l[j]? = some x) : (flK l)[j * 3]? = some (sv (x.1)) ∧ (flK l)[j * 3 + 1]? = some (iv x.2.1) ∧ (flK l)[j * 3 + 2]? = some (iv x.2.2) := by
  induction l generalizing j with
  | nil => simp at h
  | cons y l ih =>
    cases j with
    | zero => simp at h; subst h; exact ⟨rfl, rfl, rfl⟩
    | succ j =>
      have h' : l[j]? = some x := by simpa using h
      have := ih h'
      have e0 : (j + 1) * 3 = j * 3 + 1 + 1 + 1 := by omega
      have e1 : (j + 1) * 3 + 1 = j * 3 + 1 + 1 + 1 + 1 := by omega
      have e2 : (j + 1) * 3 + 2 = j * 3 + 2 + 1 + 1 + 1 := by omega
      rw [e2, e1, e0]
      simpa [flK] using this
theorem flK_set {l : List Kl} {k : Nat} {x : Kl} (hk : k < l.length) : ((((flK l).set (k * 3) (sv (x.1))).set (k * 3 + 1) (iv x.2.1)).set (k * 3 + 2) (iv x.2.2)) = flK (l.set k x) := by
  induction l generalizing k with
  | nil => simp at hk
  | cons y l ih =>
    cases k with
    | zero => simp [flK]
    | succ k =>
      have e0 : (k + 1) * 3 = k * 3 + 1 + 1 + 1 := by omega
      have e1 : (k + 1) * 3 + 1 = k * 3 + 1 + 1 + 1 + 1 := by omega
      have e2 : (k + 1) * 3 + 2 = k * 3 + 2 + 1 + 1 + 1 := by omega
      rw [e2, e1, e0]
      simp only [flK, List.set_cons_succ]
      rw [ih (by simpa using hk)]
/-- the list l behind the address a -/
def Kls (w : World) (a : Option Addr) (l : List Kl) : Prop :=
  ∀ j x, l[j]? = some x → ∃ b o, a = some ⟨b, o, none⟩ ∧ b < w.heap.size ∧ w.cell? ⟨b, o + j * 3, none⟩ = some (.string x.1) ∧ w.cell? ⟨b, o + j * 3 + 1, none⟩ = some (.int .i64 x.2.1) ∧ w.cell? ⟨b, o + j * 3 + 2, none⟩ = some (.int .i64 x.2.2)
theorem Kls.nil {w : World} {a : Option Addr} : Kls w a [] := by intro j z hz; simp at hz
theorem Kls.below {w w' : World} {a : Option Addr} {l : List Kl} (h : Kls w a l) (s : Below w.heap.size w w') : Kls w' a l := by
  intro j x hx
  obtain ⟨b, o, e, h1, c0, c1, c2⟩ := h j x hx
  have C := fun o => (bcell s).1 b o h1
  exact ⟨b, o, e, Nat.lt_of_lt_of_le h1 s.size, (C _).trans c0, (C _).trans c1, (C _).trans c2⟩
/-- an owned list -/
abbrev Own (w : World) (B g n cap : Nat) (l : List Kl) : Prop := w.ownsRow B 38 3 (.slice (some ⟨g, 0, none⟩) n cap) n (flK l)
theorem own_len {w : World} {B g n cap : Nat} {l : List Kl} (h : Own w B g n cap l) : l.length = n := by
  have hl : (flK l).length = n * 3 := h.1
  rw [flK_len] at hl; omega
theorem own_cells {w : World} {B g n cap k : Nat} {l : List Kl} {x : Kl} (hk : l[k]? = some x) (h : Own w B g n cap l) :
    w.cell? ⟨g, k * 3, none⟩ = some (.string x.1) ∧ w.cell? ⟨g, k * 3 + 1, none⟩ = some (.int .i64 x.2.1) ∧ w.cell? ⟨g, k * 3 + 2, none⟩ = some (.int .i64 x.2.2) := by
  have hl := own_len h
  have hj : k < l.length := (List.getElem?_eq_some_iff.1 hk).1
  obtain ⟨a0, a1, a2⟩ := flK_get hk
  exact ⟨(h.cellAt (k * 3) (by omega)).trans a0, (h.cellAt (k * 3 + 1) (by omega)).trans a1, (h.cellAt (k * 3 + 2) (by omega)).trans a2⟩
theorem kls_own {w : World} {B g n cap : Nat} {l : List Kl} (h : Own w B g n cap l) : Kls w (some ⟨g, 0, none⟩) l := by
  intro j z hj
  obtain ⟨c0, c1, c2⟩ := own_cells hj h
  exact ⟨g, 0, rfl, own_lt h, by rw [Nat.zero_add]; exact c0, by rw [Nat.zero_add]; exact c1, by rw [Nat.zero_add]; exact c2⟩
theorem own_put {w : World} {B g n cap k : Nat} {l : List Kl} {x : Kl} (hk : k < l.length) (h : Own w B g n cap l) :
    Own (((w.setCell ⟨g, k * 3, none⟩ (.string x.1)).setCell ⟨g, k * 3 + 1, none⟩ (.int .i64 x.2.1)).setCell ⟨g, k * 3 + 2, none⟩ (.int .i64 x.2.2)) B g n cap (l.set k x) := by
  have h0 := (h.stored (k * 3) (sv (x.1))).1
  have h1 := (h0.stored (k * 3 + 1) (iv x.2.1)).1
  have h2 := (h1.stored (k * 3 + 2) (iv x.2.2)).1
  rw [flK_set hk] at h2
  exact h2
theorem K_news {w : World} {E : Nat} {c : Kl} {t : TypeId} {m : Nat × Nat} (hblk : w.heap[E]? = some (.cells #[.string c.1, .int .i64 c.2.1, .int .i64 c.2.2] t m)) : ∀ j u, [sv (c.1), iv c.2.1, iv c.2.2][j]? = some u → w.cell? ((⟨E, 0, none⟩ : Addr).add j) = some u := by
  have := World.news_of_block hblk
  simpa [iv, sv] using this
/-- one more behind an owned list -/
theorem wpList_k {T : TypeId} (hT : Try.prog.underlying T = some (.slice 38)) {ops : Array Oper} {rest : List Oper} {o : Oper} {a : Act} {Q : Exit → Act → World → Prop} (w : World) (hgd : o.guard = none) (s x : Operand) (ho : o.op = .call { callee := .builtin .append, args := #[s, x], argTypes := #[T, T] })
    (B g n cap : Nat) (L : List Kl) (v : Kl) (hs : a.eval s = .slice (some ⟨g, 0, none⟩) n cap) (hown : Own w B g n cap L) (E : Nat) (hx : a.eval x = .slice (some ⟨E, 0, none⟩) 1 1)
    (hblk : w.heap[E]? = some (.cells #[.string v.1, .int .i64 v.2.1, .int .i64 v.2.2] 38 (0, 0))) (hl : n ≤ 1000000) (hB : B ≤ w.heap.size)
    (h : ∀ g' cap' w', Own w' B g' (n + 1) cap' (L ++ [v]) → Below B w w' → B ≤ g' → wpList Try.prog ops Q rest (a.put o.dst (.slice (some ⟨g', 0, none⟩) (n + 1) cap')) w') : wpList Try.prog ops Q (o :: rest) a w := by
  obtain ⟨i0, hi, hz0, hz1, hz2⟩ := info_parts info44
  have hBg : B ≤ g := (hown.lt g rfl).1
  refine wpList_append_lies w hgd s x T ho B 38 i0 (.agg #[.string ⟨#[]⟩, .int .i64 0, .int .i64 0]) 3 32 hT hi hz0 hz1 hz2 rfl (by decide) _ n (flK L) hs hown ⟨E, 0, none⟩ 1 1 [sv (v.1), iv v.2.1, iv v.2.2] hx rfl (K_news hblk) (by intro u hu; simp at hu; rcases hu with rfl | rfl | rfl <;> rfl) (by decide) (by unfold maxLen; omega) (by omega) hB w.heap.size rfl ?_
  intro g' cap' w' h1 h2 h3 h4
  refine h g' cap' w' (by show World.ownsRow _ _ _ _ _ _ _; rw [flK_append]; exact h1) ?_ ?_
  · exact (Below.refl _ _).grown h2 hB (fun k hk => by simp [Value.ownBlock] at hk; omega)
  · rcases h3 with h3 | h3
    · simp [Value.ownBlock] at h3; omega
    · omega
theorem wpList_kN {T : TypeId} (hT : Try.prog.underlying T = some (.slice 38)) {ops : Array Oper} {rest : List Oper} {o : Oper} {a : Act} {Q : Exit → Act → World → Prop} {X wr : World} {B C g n cap : Nat} {v0 : ByteArray} {v1 : Int} {v2 : Int} {L : List Kl} (hgd : o.guard = none) (s x : Operand) (ho : o.op = .call { callee := .builtin .append, args := #[s, x], argTypes := #[T, T] })
    (hs : a.eval s = .slice (some ⟨g, 0, none⟩) n cap) (hown : Own wr B g n cap L) (hX : Below C wr X) (hg : g < C) (E : Nat) (hE : X.heap.size = E) (hx : a.eval x = .slice (some ⟨E, 0, none⟩) 1 1) (hl : n ≤ 1000000) (hB : B ≤ wr.heap.size) (hBC : B ≤ C)
    (h : ∀ g' cap' w', Own w' B g' (n + 1) cap' (L ++ [(v0, v1, v2)]) → Below B wr w' → B ≤ g' → g' < w'.heap.size → wpList Try.prog ops Q rest (a.put o.dst (.slice (some ⟨g', 0, none⟩) (n + 1) cap')) w') : wpList Try.prog ops Q (o :: rest) a (X.alloc (.cells #[.string v0, .int .i64 v1, .int .i64 v2] 38)) := by
  subst hE
  have hb2 : Below B wr (X.alloc (.cells #[.string v0, .int .i64 v1, .int .i64 v2] 38)) := (hX.mono hBC).alloc (Nat.le_trans hB hX.size) _
  refine wpList_k hT _ hgd s x ho B g n cap L (v0, v1, v2) hs (own_blk (own_blk hown hX hg) ((Below.refl X.heap.size X).alloc (Nat.le_refl _) _) ?_) X.heap.size hx (heap_alloc_new X _) hl (Nat.le_trans hB hb2.size) ?_
  · exact (own_lt (own_blk hown hX hg))
  · intro g' cap' w' h1 h2 h3
    exact h g' cap' w' h1 (hb2.trans h2) h3 (own_lt h1)
/-- a literal with none -/
theorem own_lit0 (w : World) {B : Nat} (hB : B ≤ w.heap.size) : Own (w.alloc (.cells #[] 38)) B w.heap.size 0 0 [] := by
  have h := World.ownsRow_lit (base := B) (e := 38) (size := 3) w #[] 0 hB (by unfold maxLen; omega) rfl
  exact h

end Go.Proofs.Ytghglpcfpokmhaa

namespace Go.Proofs.Ytghglpcfpokmhaa
open Go.RowKit
set_option linter.unusedVariables false
set_option linter.unusedSimpArgs false

/-- the copy's list as it stands: the first are there, nought behind them -/
def mid (l : List Kl) (n k : Nat) : List Kl := l.take k ++ List.replicate (n - k) (⟨#[]⟩, 0, 0)
theorem mid_len {l : List Kl} {n k : Nat} (hl : l.length = n) (hk : k ≤ n) : (mid l n k).length = n := by simp [mid]; omega
theorem mid_set {l : List Kl} {n k : Nat} {x : Kl} (hl : l.length = n) (h : l[k]? = some x) : (mid l n k).set k x = mid l n (k + 1) := by
  have hk : k < l.length := (List.getElem?_eq_some_iff.1 h).1
  unfold mid
  rw [take_snocK h, List.set_append_right _ _ (by simp; omega)]
  have e : n - k = (n - (k + 1)) + 1 := by omega
  rw [e, List.replicate_succ]
  have e2 : k - (l.take k).length = 0 := by simp; omega
  rw [e2]; simp
theorem made_flK (n : Nat) : (madeCells #[.string ⟨#[]⟩, .int .i64 0, .int .i64 0] (n * 3)).toList = flK (List.replicate n (⟨#[]⟩, 0, 0)) := by
  apply List.ext_getElem
  · simp [madeCells, flK_len]
  · intro i h1 h2
    have hn : i < n * 3 := by rw [flK_len] at h2; simpa using h2
    have hj : (List.replicate n ((⟨#[]⟩, 0, 0) : Kl))[i / 3]? = some (⟨#[]⟩, 0, 0) := by rw [List.getElem?_replicate, if_pos (by omega)]
    obtain ⟨a0, a1, a2⟩ := flK_get hj
    have hr : i % 3 = 0 ∨ i % 3 = 1 ∨ i % 3 = 2 := by omega
    rcases hr with h | h | h
    · have e : i / 3 * 3 = i := by omega
      rw [e, List.getElem?_eq_getElem h2] at a0
      rw [Option.some.inj a0]
      simp [madeCells, h, iv, sv]
    · have e : i / 3 * 3 + 1 = i := by omega
      rw [e, List.getElem?_eq_getElem h2] at a1
      rw [Option.some.inj a1]
      simp [madeCells, h, iv, sv]
    · have e : i / 3 * 3 + 2 = i := by omega
      rw [e, List.getElem?_eq_getElem h2] at a2
      rw [Option.some.inj a2]
      simp [madeCells, h, iv, sv]

theorem keepN {w w0 w1 : World} {a0 a1 a2 a3 a4 a5 : Addr} {v0 v1 v2 v3 v4 v5 : Value}
    (h : w0.cell? a0 = some v0 ∧ w0.cell? a1 = some v1 ∧ w0.cell? a2 = some v2 ∧ w0.cell? a3 = some v3 ∧ w0.cell? a4 = some v4 ∧ w0.cell? a5 = some v5 ∧ Below w.heap.size w w0) (hb : Below w0.heap.size w0 w1) :
    w1.cell? a0 = some v0 ∧ w1.cell? a1 = some v1 ∧ w1.cell? a2 = some v2 ∧ w1.cell? a3 = some v3 ∧ w1.cell? a4 = some v4 ∧ w1.cell? a5 = some v5 ∧ Below w.heap.size w w1 := by
  obtain ⟨h0, h1, h2, h3, h4, h5, hB⟩ := h
  exact ⟨cell_later hb h0, cell_later hb h1, cell_later hb h2, cell_later hb h3, cell_later hb h4, cell_later hb h5, hB.trans (hb.mono hB.size)⟩
theorem keepNd {w w0 : World} {a0 a1 a2 a3 a4 a5 : Addr} {v0 v1 v2 v3 v4 v5 : Value}
    (h : w0.cell? a0 = some v0 ∧ w0.cell? a1 = some v1 ∧ w0.cell? a2 = some v2 ∧ w0.cell? a3 = some v3 ∧ w0.cell? a4 = some v4 ∧ w0.cell? a5 = some v5 ∧ Below w.heap.size w w0) : w0.drew.cell? a0 = some v0 ∧ w0.drew.cell? a1 = some v1 ∧ w0.drew.cell? a2 = some v2 ∧ w0.drew.cell? a3 = some v3 ∧ w0.drew.cell? a4 = some v4 ∧ w0.drew.cell? a5 = some v5 ∧ Below w.heap.size w w0.drew := by
  obtain ⟨h0, h1, h2, h3, h4, h5, hB⟩ := h
  exact ⟨h0, h1, h2, h3, h4, h5, hB.drew⟩

end Go.Proofs.Ytghglpcfpokmhaa

namespace Go.Proofs.Ytghglpcfpokmhaa
open Go.RowKit
set_option linter.unusedVariables false
set_option linter.unusedSimpArgs false

end Go.Proofs.Ytghglpcfpokmhaa

namespace Go.Proofs.Ytghglpcfpokmhaa
open Go.RowKit
set_option linter.unusedVariables false
set_option linter.unusedSimpArgs false

def SzOk (l : List Kl) : Prop := ∀ x ∈ l, x.1.size ≤ maxLen
theorem cel3 {X : World} {v0 v1 v2 : Value} {t : TypeId} : (X.alloc (.cells #[v0, v1, v2] t)).cell? ⟨X.heap.size, 0, none⟩ = some v0 ∧ (X.alloc (.cells #[v0, v1, v2] t)).cell? ⟨X.heap.size, 1, none⟩ = some v1 ∧ (X.alloc (.cells #[v0, v1, v2] t)).cell? ⟨X.heap.size, 2, none⟩ = some v2 := blk3 (heap_alloc_new X _)
end Go.Proofs.Ytghglpcfpokmhaa
