/-
  Contracts of the model's draws of clips and tracks, over a cursor on bytes that came in: each answers; the answer is new memory, and what was there but for the cursor stays.
-/
import Derived.Test.YtmpbcmpjfcddoaaDr
namespace Go.Proofs.Ytmpbcmpjfcddoaa
open Go.RowKit
open D (grown_trans grown_set grown_refl)
set_option linter.unusedVariables false
set_option linter.unusedSimpArgs false

theorem grown_alloc {w w1 : World} {g : Option Nat} (h : w.grownBy w1 g) (o : Obj) : w.grownBy (w1.alloc o) g :=
  grown_trans h (grown_below ((Below.refl _ _).alloc (Nat.le_refl _) _))
/-- the draws' state: a cursor in g over bytes below B, and all but the cursor as in w -/
structure DS (w : World) (B g : Nat) (a : Option Addr) (len cap : Nat) (wr : World) : Prop where
  cur : CurAt wr g a len cap
  rd : RdB wr B a len
  gr : w.grownBy wr (some g)
theorem DS.step {w wr w1 : World} {B g : Nat} {a : Option Addr} {len cap : Nat} (h : DS w B g a len cap wr) (hB : B ≤ g) (hc : CurAt w1 g a len cap) (hg : wr.grownBy w1 (some g)) : DS w B g a len cap w1 :=
  ⟨hc, h.rd.grown hg hB, grown_trans h.gr hg⟩
theorem DS.later {w wr w1 : World} {B g : Nat} {a : Option Addr} {len cap : Nat} (h : DS w B g a len cap wr) (hB : B ≤ g) (hb : Below wr.heap.size wr w1) : DS w B g a len cap w1 :=
  h.step hB (h.cur.below hb) (grown_below hb)
theorem grown_cell {w w1 : World} {g b o : Nat} {v : Value} (h : w.grownBy w1 (some g)) (hne : b ≠ g) (hc : w.cell? ⟨b, o, none⟩ = some v) : w1.cell? ⟨b, o, none⟩ = some v :=
  h.cell hc (by intro e; have := Option.some.inj e; simp at this; omega)
theorem grown_frozen {w w1 : World} {g b o : Nat} (h : w.grownBy w1 (some g)) (hne : b ≠ g) (hb : b < w.heap.size) : w1.frozen? ⟨b, o, none⟩ = w.frozen? ⟨b, o, none⟩ :=
  World.frozen?_of_block (a := ⟨b, o, none⟩) (h.block b hb (by intro e; injection e with e; omega))

/-- three numbers in a block that may be written -/
structure Ck3 (w : World) (r : Nat) : Prop where
  ex : ∃ x y z : Int, w.cell? ⟨r, 0, none⟩ = some (.int .i64 x) ∧ w.cell? ⟨r, 1, none⟩ = some (.int .i64 y) ∧ w.cell? ⟨r, 2, none⟩ = some (.int .i64 z)
  f0 : w.frozen? ⟨r, 0, none⟩ = false
  f1 : w.frozen? ⟨r, 1, none⟩ = false
  f2 : w.frozen? ⟨r, 2, none⟩ = false
theorem Ck3.lt {w : World} {r : Nat} (h : Ck3 w r) : r < w.heap.size := by
  obtain ⟨x, y, z, c0, _, _⟩ := h.ex
  exact World.block_lt_of_cell? _ _ c0
theorem Ck3.grown {w w1 : World} {r g : Nat} (h : Ck3 w r) (hg : w.grownBy w1 (some g)) (hne : r ≠ g) : Ck3 w1 r := by
  obtain ⟨x, y, z, c0, c1, c2⟩ := h.ex
  have hl := h.lt
  exact ⟨⟨x, y, z, grown_cell hg hne c0, grown_cell hg hne c1, grown_cell hg hne c2⟩, (grown_frozen hg hne hl).trans h.f0, (grown_frozen hg hne hl).trans h.f1, (grown_frozen hg hne hl).trans h.f2⟩
theorem Ck3.set {w : World} {r i : Nat} {v : Int} (h : Ck3 w r) (hi : i < 3) : Ck3 (w.setCell ⟨r, i, none⟩ (.int .i64 v)) r := by
  obtain ⟨x, y, z, c0, c1, c2⟩ := h.ex
  refine ⟨?_, by rw [World.frozen?_setCell]; exact h.f0, by rw [World.frozen?_setCell]; exact h.f1, by rw [World.frozen?_setCell]; exact h.f2⟩
  match i, hi with
  | 0, _ => exact ⟨v, y, z, World.cell?_setCell_same _ _ _ c0, by rw [World.cell?_setCell_other _ _ _ _ (ne_addr (by decide))]; exact c1, by rw [World.cell?_setCell_other _ _ _ _ (ne_addr (by decide))]; exact c2⟩
  | 1, _ => exact ⟨x, v, z, by rw [World.cell?_setCell_other _ _ _ _ (ne_addr (by decide))]; exact c0, World.cell?_setCell_same _ _ _ c1, by rw [World.cell?_setCell_other _ _ _ _ (ne_addr (by decide))]; exact c2⟩
  | 2, _ => exact ⟨x, y, v, by rw [World.cell?_setCell_other _ _ _ _ (ne_addr (by decide))]; exact c0, by rw [World.cell?_setCell_other _ _ _ _ (ne_addr (by decide))]; exact c1, World.cell?_setCell_same _ _ _ c2⟩

theorem Ck3.block {w w1 : World} {r : Nat} (h : Ck3 w r) (hb : w1.heap[r]? = w.heap[r]?) : Ck3 w1 r := by
  obtain ⟨x, y, z, c0, c1, c2⟩ := h.ex
  have C := fun i => World.cell?_of_block (a := ⟨r, i, none⟩) hb
  have F := fun i => World.frozen?_of_block (a := ⟨r, i, none⟩) hb
  exact ⟨⟨x, y, z, (C _).trans c0, (C _).trans c1, (C _).trans c2⟩, (F _).trans h.f0, (F _).trans h.f1, (F _).trans h.f2⟩
theorem grown_set_new {w w1 : World} {g : Option Nat} {r i : Nat} {v : Value} (h : w.grownBy w1 g) (hr : w.heap.size ≤ r) : w.grownBy (w1.setCell ⟨r, i, none⟩ v) g :=
  ⟨h.os, h.tape, h.output, by simp; exact h.size, fun j hj hn => (heap_set_ne (by omega)).trans (h.block j hj hn)⟩
/-- the state while a clip is drawn: the cursor, the answer's cells, the clip's cells -/
structure St (w : World) (B g : Nat) (a : Option Addr) (len cap r kb : Nat) (wr : World) (x y z : Int) : Prop where
  ds : DS w B g a len cap wr
  rr : Ck3 wr r
  c0 : wr.cell? ⟨kb, 0, none⟩ = some (.int .i64 x)
  c1 : wr.cell? ⟨kb, 1, none⟩ = some (.int .i64 y)
  c2 : wr.cell? ⟨kb, 2, none⟩ = some (.int .i64 z)
  f0 : wr.frozen? ⟨kb, 0, none⟩ = false
  f1 : wr.frozen? ⟨kb, 1, none⟩ = false
  f2 : wr.frozen? ⟨kb, 2, none⟩ = false
section
variable {w : World} {B g : Nat} {a : Option Addr} {len cap r kb : Nat} {wr w1 : World} {x y z : Int}
theorem St.call (h : St w B g a len cap r kb wr x y z) (hB : B ≤ g) (hr : r ≠ g) (hk : kb ≠ g) (hc : CurAt w1 g a len cap) (hg : wr.grownBy w1 (some g)) : St w B g a len cap r kb w1 x y z := by
  have hl := World.block_lt_of_cell? _ _ h.c0
  simp only at hl
  exact ⟨h.ds.step hB hc hg, h.rr.grown hg hr, grown_cell hg hk h.c0, grown_cell hg hk h.c1, grown_cell hg hk h.c2, (grown_frozen hg hk hl).trans h.f0, (grown_frozen hg hk hl).trans h.f1, (grown_frozen hg hk hl).trans h.f2⟩
theorem St.later (h : St w B g a len cap r kb wr x y z) (hB : B ≤ g) (hr : r ≠ g) (hk : kb ≠ g) (hb : Below wr.heap.size wr w1) : St w B g a len cap r kb w1 x y z :=
  h.call hB hr hk (h.ds.cur.below hb) (grown_below hb)
theorem DS.set (h : DS w B g a len cap wr) (hB : B ≤ g) (hwk : w.heap.size ≤ kb) (hk : kb ≠ g) (hBk : B ≤ kb) {i : Nat} {v : Value} : DS w B g a len cap (wr.setCell ⟨kb, i, none⟩ v) := by
  refine ⟨h.cur.other (heap_set_ne (fun e => hk e.symm)), ?_, grown_set_new h.gr hwk⟩
  intro j hj
  obtain ⟨b, o, q, e, hb, hc, h0, h1⟩ := h.rd j hj
  exact ⟨b, o, q, e, hb, by rw [World.cell?_setCell_other _ _ _ _ (ne_blk (by omega))]; exact hc, h0, h1⟩
theorem St.set0 (h : St w B g a len cap r kb wr x y z) (hB : B ≤ g) (hwk : w.heap.size ≤ kb) (hk : kb ≠ g) (hBk : B ≤ kb) (hr : r ≠ kb) (v : Int) : St w B g a len cap r kb (wr.setCell ⟨kb, 0, none⟩ (.int .i64 v)) v y z :=
  ⟨h.ds.set hB hwk hk hBk, h.rr.block (heap_set_ne hr), World.cell?_setCell_same _ _ _ h.c0, by rw [World.cell?_setCell_other _ _ _ _ (ne_addr (by decide))]; exact h.c1, by rw [World.cell?_setCell_other _ _ _ _ (ne_addr (by decide))]; exact h.c2, by rw [World.frozen?_setCell]; exact h.f0, by rw [World.frozen?_setCell]; exact h.f1, by rw [World.frozen?_setCell]; exact h.f2⟩
theorem St.set1 (h : St w B g a len cap r kb wr x y z) (hB : B ≤ g) (hwk : w.heap.size ≤ kb) (hk : kb ≠ g) (hBk : B ≤ kb) (hr : r ≠ kb) (v : Int) : St w B g a len cap r kb (wr.setCell ⟨kb, 1, none⟩ (.int .i64 v)) x v z :=
  ⟨h.ds.set hB hwk hk hBk, h.rr.block (heap_set_ne hr), by rw [World.cell?_setCell_other _ _ _ _ (ne_addr (by decide))]; exact h.c0, World.cell?_setCell_same _ _ _ h.c1, by rw [World.cell?_setCell_other _ _ _ _ (ne_addr (by decide))]; exact h.c2, by rw [World.frozen?_setCell]; exact h.f0, by rw [World.frozen?_setCell]; exact h.f1, by rw [World.frozen?_setCell]; exact h.f2⟩
theorem St.set2 (h : St w B g a len cap r kb wr x y z) (hB : B ≤ g) (hwk : w.heap.size ≤ kb) (hk : kb ≠ g) (hBk : B ≤ kb) (hr : r ≠ kb) (v : Int) : St w B g a len cap r kb (wr.setCell ⟨kb, 2, none⟩ (.int .i64 v)) x y v :=
  ⟨h.ds.set hB hwk hk hBk, h.rr.block (heap_set_ne hr), by rw [World.cell?_setCell_other _ _ _ _ (ne_addr (by decide))]; exact h.c0, by rw [World.cell?_setCell_other _ _ _ _ (ne_addr (by decide))]; exact h.c1, World.cell?_setCell_same _ _ _ h.c2, by rw [World.frozen?_setCell]; exact h.f0, by rw [World.frozen?_setCell]; exact h.f1, by rw [World.frozen?_setCell]; exact h.f2⟩
theorem St.fin (h : St w B g a len cap r kb wr x y z) (hB : B ≤ g) (hwr : w.heap.size ≤ r) (hr : r ≠ g) (hBr : B ≤ r) : DS w B g a len cap (((wr.setCell ⟨r, 0, none⟩ (.int .i64 x)).setCell ⟨r, 1, none⟩ (.int .i64 y)).setCell ⟨r, 2, none⟩ (.int .i64 z)) :=
  ((h.ds.set hB hwr hr hBr).set hB hwr hr hBr).set hB hwr hr hBr
end
theorem lit3 {w : World} {T : TypeId} {k : Nat} {a0 a1 a2 : Int} (hk : k < 3) : ∃ v : Int, (w.alloc (.cells #[.int .i64 a0, .int .i64 a1, .int .i64 a2] T)).cell? ⟨w.heap.size, k, none⟩ = some (.int .i64 v) := by
  match k, hk with
  | 0, _ => exact ⟨a0, by simp [go_sem]⟩
  | 1, _ => exact ⟨a1, by simp [go_sem]⟩
  | 2, _ => exact ⟨a2, by simp [go_sem]⟩
theorem lit4 {w : World} {T : TypeId} {k : Nat} {a0 a1 a2 a3 : Int} (hk : k < 4) : ∃ v : Int, (w.alloc (.cells #[.int .i64 a0, .int .i64 a1, .int .i64 a2, .int .i64 a3] T)).cell? ⟨w.heap.size, k, none⟩ = some (.int .i64 v) := by
  match k, hk with
  | 0, _ => exact ⟨a0, by simp [go_sem]⟩
  | 1, _ => exact ⟨a1, by simp [go_sem]⟩
  | 2, _ => exact ⟨a2, by simp [go_sem]⟩
  | 3, _ => exact ⟨a3, by simp [go_sem]⟩
theorem lit5 {w : World} {T : TypeId} {k : Nat} {a0 a1 a2 a3 a4 : Int} (hk : k < 5) : ∃ v : Int, (w.alloc (.cells #[.int .i64 a0, .int .i64 a1, .int .i64 a2, .int .i64 a3, .int .i64 a4] T)).cell? ⟨w.heap.size, k, none⟩ = some (.int .i64 v) := by
  match k, hk with
  | 0, _ => exact ⟨a0, by simp [go_sem]⟩
  | 1, _ => exact ⟨a1, by simp [go_sem]⟩
  | 2, _ => exact ⟨a2, by simp [go_sem]⟩
  | 3, _ => exact ⟨a3, by simp [go_sem]⟩
  | 4, _ => exact ⟨a4, by simp [go_sem]⟩

end Go.Proofs.Ytmpbcmpjfcddoaa
