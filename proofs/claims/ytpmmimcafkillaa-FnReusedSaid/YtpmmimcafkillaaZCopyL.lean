/-
  Lists of numbers that grow: one number more, four more; an answer that is a new list; no conditions.
  Laws of memory for a run's four cells; contracts of the leaves that copy a run and hold two against each other; nothing that was there is written.
  Lists of structs of 4 numbers in memory: owned rows and lists that are read; no conditions.
  Contracts of the law's functions that weigh, copy and hold against each other lists of structs, write marks into them and look for them again.
-/
import Derived.Test.YtpmmimcafkillaaZMm
import Derived.Deep.Heap
namespace Go.Proofs.Ytpmmimcafkillaa
open Go.RowKit
set_option linter.unusedVariables false
set_option linter.unusedSimpArgs false

theorem heap_alloc_new (w : World) (o : Obj) : (w.alloc o).heap[w.heap.size]? = some o := Deep.blk_alloc_new _ _
theorem iv_news {w : World} {E : Nat} {v : Int} {t : TypeId} {m : Nat × Nat} (hblk : w.heap[E]? = some (.cells #[.int .i64 v] t m)) : ∀ j u, [iv v][j]? = some u → w.cell? ((⟨E, 0, none⟩ : Addr).add j) = some u := by
  have := World.news_of_block hblk
  simpa [iv] using this
/-- an answer that is a new list -/
def AnI (w : World) (L : List Int) (e : Ending) (w' : World) : Prop := ∃ G cap, e = .returned (.slice (some ⟨G, 0, none⟩) L.length cap) ∧ w.heap.size ≤ G ∧ OwnI w' w.heap.size G L.length cap L ∧ Below w.heap.size w w'
theorem AnI.mk {w w' : World} {L : List Int} {k g c : Nat} (hL : L.length = k) (hg : w.heap.size ≤ g) (ho : OwnI w' w.heap.size g k c L) (hb : Below w.heap.size w w') : AnI w L (.returned (.slice (some ⟨g, 0, none⟩) k c)) w' := by
  subst hL; exact ⟨g, c, rfl, hg, ho, hb⟩
theorem wpList_iA {ops : Array Oper} {rest : List Oper} {o : Oper} {a : Act} {Q : Exit → Act → World → Prop} (w : World) (hgd : o.guard = none) (s x : Operand) (ho : o.op = .call { callee := .builtin .append, args := #[s, x], argTypes := #[29, 29] })
    (B g n cap : Nat) (L : List Int) (v : Int) (hs : a.eval s = .slice (some ⟨g, 0, none⟩) n cap) (hown : OwnI w B g n cap L) (hx : a.eval x = .slice (some ⟨w.heap.size, 0, none⟩) 1 1)
    (hl : n ≤ 1000000) (hB : B ≤ w.heap.size)
    (h : ∀ g' cap' w', OwnI w' B g' (n + 1) cap' (L ++ [v]) → Below B w w' → B ≤ g' → wpList Try.prog ops Q rest (a.put o.dst (.slice (some ⟨g', 0, none⟩) (n + 1) cap')) w') : wpList Try.prog ops Q (o :: rest) a (w.alloc (.cells #[.int .i64 v] 2)) := by
  obtain ⟨i0, hi, hz0, hz1, hz2⟩ := info_parts infoI
  have hb : Below w.heap.size w (w.alloc (.cells #[.int .i64 v] 2)) := (Below.refl _ _).alloc (Nat.le_refl _) _
  have hblk : (w.alloc (.cells #[.int .i64 v] 2)).heap[w.heap.size]? = some (.cells #[.int .i64 v] 2 (0, 0)) := heap_alloc_new w _
  have hnews := iv_news hblk
  have hsz := hb.size
  generalize w.alloc (.cells #[.int .i64 v] 2) = W at *
  have hown2 := ownsRow_below hown hb
  have hBg : B ≤ g := (hown.lt g rfl).1
  refine wpList_append_lies W hgd s x 29 ho B 2 i0 (.int .i64 0) 1 8 Try.underlying29 hi hz0 hz1 hz2 rfl (by decide) _ n (L.map iv) hs hown2 ⟨w.heap.size, 0, none⟩ 1 1 [iv v] hx rfl hnews (by intro u hu; simp at hu; subst hu; rfl) (by decide) (by unfold maxLen; omega) (by omega) (by omega) W.heap.size rfl ?_
  intro g' cap' w' h1 h2 h3 h4
  refine h g' cap' w' (by show World.ownsRow _ _ _ _ _ _ _; rw [List.map_append]; exact h1) ?_ (own_ge h1)
  exact (hb.mono hB).trans ((Below.refl _ _).grown h2 (by omega) (fun k hk => by simp [Value.ownBlock] at hk; omega))
end Go.Proofs.Ytpmmimcafkillaa

namespace Go.Proofs.Ytpmmimcafkillaa
open Go.RowKit
set_option linter.unusedVariables false
set_option linter.unusedSimpArgs false

/-- a run as a value: task, worker, from, to -/
abbrev Kl := Int × Int × Int × Int
theorem cell_later {w w1 : World} {a : Addr} {v : Value} (hb : Below w.heap.size w w1) (h : w.cell? a = some v) : w1.cell? a = some v := by
  rw [hb.cell (World.block_lt_of_cell? _ _ h)]; exact h
theorem heap_set_ne {w : World} {b i : Nat} {v : Value} {r : Nat} (h : r ≠ b) : (w.setCell ⟨b, i, none⟩ v).heap[r]? = w.heap[r]? := by
  have hg : b ≠ r := fun e => h e.symm
  simp [World.setCell, Array.getElem?_modify, hg]
theorem blk_below {X Y : World} {b : Nat} {o : Obj} (h : X.heap[b]? = some o) (hb : Below X.heap.size X Y) : Y.heap[b]? = some o := by
  rw [hb.block b (Array.getElem?_eq_some_iff.1 h).1]; exact h

end Go.Proofs.Ytpmmimcafkillaa

namespace Go.Proofs.Ytpmmimcafkillaa
open Go.RowKit
set_option linter.unusedVariables false
set_option linter.unusedSimpArgs false

abbrev kv (c : Kl) : Value := .agg #[.int .i64 c.1, .int .i64 c.2.1, .int .i64 c.2.2.1, .int .i64 c.2.2.2]
/-- a list, cell by cell -/
def flK : List Kl → List Value
  | [] => []
  | x :: l => iv x.1 :: iv x.2.1 :: iv x.2.2.1 :: iv x.2.2.2 :: flK l
/-- the list l behind the address a -/
def Kls (w : World) (a : Option Addr) (l : List Kl) : Prop :=
  ∀ j x, l[j]? = some x → ∃ b o, a = some ⟨b, o, none⟩ ∧ b < w.heap.size ∧ w.cell? ⟨b, o + j * 4, none⟩ = some (.int .i64 x.1) ∧ w.cell? ⟨b, o + j * 4 + 1, none⟩ = some (.int .i64 x.2.1) ∧ w.cell? ⟨b, o + j * 4 + 2, none⟩ = some (.int .i64 x.2.2.1) ∧ w.cell? ⟨b, o + j * 4 + 3, none⟩ = some (.int .i64 x.2.2.2)
theorem Kls.nil {w : World} {a : Option Addr} : Kls w a [] := by intro j z hz; simp at hz
theorem Kls.below {w w' : World} {a : Option Addr} {l : List Kl} (h : Kls w a l) (s : Below w.heap.size w w') : Kls w' a l := by
  intro j x hx
  obtain ⟨b, o, e, h1, c0, c1, c2, c3⟩ := h j x hx
  have C := fun o => (bcell s).1 b o h1
  exact ⟨b, o, e, Nat.lt_of_lt_of_le h1 s.size, (C _).trans c0, (C _).trans c1, (C _).trans c2, (C _).trans c3⟩
/-- an owned list -/
abbrev Own (w : World) (B g n cap : Nat) (l : List Kl) : Prop := w.ownsRow B 31 4 (.slice (some ⟨g, 0, none⟩) n cap) n (flK l)
end Go.Proofs.Ytpmmimcafkillaa

namespace Go.Proofs.Ytpmmimcafkillaa
open Go.RowKit
set_option linter.unusedVariables false
set_option linter.unusedSimpArgs false

end Go.Proofs.Ytpmmimcafkillaa
