/-
  The contract of the model's draw of a lock, a minute and a body: some answer; nothing that was there is written.
-/
import Derived.Test.YtpdnceeniokemaaDrS
import Derived.Test.YtpdnceeniokemaaLkB
namespace Go.Proofs.Ytpdnceeniokemaa
open Go.RowKit
set_option linter.unusedVariables false
set_option linter.unusedSimpArgs false

/-- a lock in a block of its own beside the cursor -/
structure LQ (w : World) (B g : Nat) (a : Option Addr) (len cap q : Nat) (wr : World) (f t s : Int) : Prop where
  ds : DS w B g a len cap wr
  qb : wr.heap[q]? = some (.cells #[.int .i64 f, .int .i64 t, .int .i64 s] 25 (0, 0))
section
variable {w wr w1 : World} {B g : Nat} {a : Option Addr} {len cap q : Nat} {f t s : Int}
theorem LQ.lt (h : LQ w B g a len cap q wr f t s) : q < wr.heap.size := (Array.getElem?_eq_some_iff.1 h.qb).1
theorem LQ.step (h : LQ w B g a len cap q wr f t s) (hB : B ≤ g) (hq : q ≠ g) (hc : CurAt w1 g a len cap) (hg : wr.grownBy w1 (some g)) : LQ w B g a len cap q w1 f t s :=
  ⟨h.ds.step hB hc hg, (hg.block q h.lt (by intro e; injection e with e; exact hq e)).trans h.qb⟩
theorem LQ.later (h : LQ w B g a len cap q wr f t s) (hB : B ≤ g) (hb : Below wr.heap.size wr w1) : LQ w B g a len cap q w1 f t s :=
  ⟨h.ds.later hB hb, (hb.block q h.lt).trans h.qb⟩
theorem LQ.drew (h : LQ w B g a len cap q wr f t s) : LQ w B g a len cap q wr.drew f t s := ⟨⟨h.ds.cur, h.ds.rd, grown_drewN h.ds.gr 1⟩, h.qb⟩
theorem LQ.froz (h : LQ w B g a len cap q wr f t s) (i : Nat) : wr.frozen? ⟨q, i, none⟩ = false := by simp [World.frozen?, h.qb]
theorem LQ.cells (h : LQ w B g a len cap q wr f t s) : wr.cell? ⟨q, 0, none⟩ = some (.int .i64 f) ∧ wr.cell? ⟨q, 1, none⟩ = some (.int .i64 t) ∧ wr.cell? ⟨q, 2, none⟩ = some (.int .i64 s) := blk3 h.qb
theorem LQ.set1 (h : LQ w B g a len cap q wr f t s) (hB : B ≤ w.heap.size) (hg : g < w.heap.size) (hq : w.heap.size ≤ q) (v : Int) : LQ w B g a len cap q (wr.setCell ⟨q, 1, none⟩ (.int .i64 v)) f v s := by
  refine ⟨h.ds.app hB hg ((Below.refl _ _).setCell (p := ⟨q, 1, none⟩) hq _), ?_⟩
  simp [World.setCell, Array.getElem?_modify, h.qb]
theorem LQ.set0 (h : LQ w B g a len cap q wr f t s) (hB : B ≤ w.heap.size) (hg : g < w.heap.size) (hq : w.heap.size ≤ q) (v : Int) : LQ w B g a len cap q (wr.setCell ⟨q, 0, none⟩ (.int .i64 v)) v t s := by
  refine ⟨h.ds.app hB hg ((Below.refl _ _).setCell (p := ⟨q, 0, none⟩) hq _), ?_⟩
  simp [World.setCell, Array.getElem?_modify, h.qb]
end
/-- .. whatever its end, its beginning, both -/
def LT (w : World) (B g : Nat) (a : Option Addr) (len cap q : Nat) (f s : Int) (w' : World) : Prop := w'.cell? ⟨q, 0, none⟩ = some (.int .i64 f) ∧ ∃ t, LQ w B g a len cap q w' f t s
def LF (w : World) (B g : Nat) (a : Option Addr) (len cap q : Nat) (t s : Int) (w' : World) : Prop := w'.cell? ⟨q, 1, none⟩ = some (.int .i64 t) ∧ ∃ f, LQ w B g a len cap q w' f t s
section
variable {w : World} {B g : Nat} {a : Option Addr} {len cap q : Nat}
theorem below_T {f s n : Int} (hB : B ≤ g) (hl : len ≤ 9223372036854775807) (hq : q ≠ g) (n0 : 0 < n) (w' : World) (h : LT w B g a len cap q f s w') :
    Calls Try.prog 50 #[.pointer (some ⟨g, 0, none⟩), .int .i64 n] w' fun e w1 => ∃ x t, e = .returned (.int .i64 x) ∧ LT w B g a len cap q f s w1 ∧ w1.cell? ⟨q, 1, none⟩ = some (.int .i64 t) ∧ w1.frozen? ⟨q, 1, none⟩ = false := by
  obtain ⟨c0, t, hq1⟩ := h
  refine (below_any B g a len cap n w' hB hl hq1.ds.cur hq1.ds.rd n0).mono ?_
  rintro e w1 ⟨x, rfl, _, _, k1, g1⟩
  have h1 := hq1.step hB hq k1 g1
  exact ⟨x, t, rfl, ⟨h1.cells.1, t, h1⟩, h1.cells.2.1, h1.froz 1⟩
theorem from_Q {f t s : Int} (hB : B ≤ g) (hl : len ≤ 9223372036854775807) (hq : q ≠ g) (w' : World) (h : w'.cell? ⟨q, 0, none⟩ = some (.int .i64 f) ∧ LQ w B g a len cap q w' f t s) :
    Calls Try.prog 52 #[.pointer (some ⟨g, 0, none⟩), .int .i64 (-2), .int .i64 52] w' fun e w1 => ∃ x, e = .returned (.int .i64 x) ∧ (w1.cell? ⟨q, 0, none⟩ = some (.int .i64 f) ∧ LQ w B g a len cap q w1 f t s) := by
  obtain ⟨c0, hq1⟩ := h
  refine (from_any B g a len cap (-2) 52 w' hB hl hq1.ds.cur hq1.ds.rd (by omega) (by omega) (by omega)).mono ?_
  rintro e w1 ⟨x, rfl, _, _, k1, g1⟩
  have h1 := hq1.step hB hq k1 g1
  exact ⟨x, rfl, h1.cells.1, h1⟩
theorem below_F {t s n : Int} (hB : B ≤ g) (hl : len ≤ 9223372036854775807) (hq : q ≠ g) (n0 : 0 < n) (w' : World) (h : LF w B g a len cap q t s w') :
    Calls Try.prog 50 #[.pointer (some ⟨g, 0, none⟩), .int .i64 n] w' fun e w1 => ∃ (x : Int) (f : Int), e = .returned (.int .i64 x) ∧ (0 ≤ x ∧ x < n) ∧ LF w B g a len cap q t s w1 ∧ w1.cell? ⟨q, 0, none⟩ = some (.int .i64 f) ∧ w1.frozen? ⟨q, 0, none⟩ = false ∧ w'.grownBy w1 (some g) := by
  obtain ⟨c0, f, hq1⟩ := h
  refine (below_any B g a len cap n w' hB hl hq1.ds.cur hq1.ds.rd n0).mono ?_
  rintro e w1 ⟨x, rfl, x0, x1, k1, g1⟩
  have h1 := hq1.step hB hq k1 g1
  exact ⟨x, f, rfl, ⟨x0, x1⟩, ⟨h1.cells.2.1, f, h1⟩, h1.cells.1, h1.froz 0, g1⟩
theorem LT.drew {f s : Int} {w' : World} (h : LT w B g a len cap q f s w') : LT w B g a len cap q f s w'.drew := ⟨h.1, h.2.choose, h.2.choose_spec.drew⟩
theorem LF.drew {t s : Int} {w' : World} (h : LF w B g a len cap q t s w') : LF w B g a len cap q t s w'.drew := ⟨h.1, h.2.choose, h.2.choose_spec.drew⟩
theorem LT.set {f s v : Int} {w' : World} (h : LT w B g a len cap q f s w') (hB : B ≤ w.heap.size) (hg : g < w.heap.size) (hq : w.heap.size ≤ q) : LT w B g a len cap q f s (w'.setCell ⟨q, 1, none⟩ (.int .i64 v)) := by
  obtain ⟨_, t, h1⟩ := h
  have h2 := h1.set1 hB hg hq v
  exact ⟨h2.cells.1, v, h2⟩
theorem LF.set {t s v : Int} {w' : World} (h : LF w B g a len cap q t s w') (hB : B ≤ w.heap.size) (hg : g < w.heap.size) (hq : w.heap.size ≤ q) : LF w B g a len cap q t s (w'.setCell ⟨q, 0, none⟩ (.int .i64 v)) := by
  obtain ⟨_, f, h1⟩ := h
  have h2 := h1.set0 hB hg hq v
  exact ⟨h2.cells.2.1, v, h2⟩
theorem LF.alloc {t s : Int} {w' : World} (h : LF w B g a len cap q t s w') (hB : B ≤ g) (ob : Obj) : LF w B g a len cap q t s (w'.alloc ob) := by
  obtain ⟨_, f, h1⟩ := h
  have h2 := h1.later hB ((Below.refl w'.heap.size w').alloc (Nat.le_refl _) ob)
  exact ⟨h2.cells.2.1, f, h2⟩
end
/-- what is drawn -/
def AnL (W : World) (e : Ending) (w' : World) : Prop := ∃ (f t s m : Int) (G c : Nat) (L : List Int), e = .returned (.tuple #[.agg #[.int .i64 f, .int .i64 t, .int .i64 s], .int .i64 m, .slice (some ⟨G, 0, none⟩) L.length c]) ∧ Byt L ∧ L.length ≤ 40001 ∧ OwnB w' W.heap.size G L.length c L ∧ Below W.heap.size W w'
/-- the body is drawn, and all is handed over -/
theorem body_Q {w : World} {B g : Nat} {a : Option Addr} {len cap q r : Nat} {f t s : Int} (hB : B ≤ g) (hBw : B ≤ w.heap.size) (hl : len ≤ 9223372036854775807) (hq : q ≠ g) (hr : r ≠ g) (w' : World)
    (h : (w'.cell? ⟨q, 0, none⟩ = some (.int .i64 f) ∧ w'.cell? ⟨q, 1, none⟩ = some (.int .i64 t) ∧ w'.cell? ⟨q, 2, none⟩ = some (.int .i64 s)) ∧ LQ w B g a len cap q w' f t s) (hrb : w.heap[r]? = some (.cells #[.int .i64 0, .int .i64 0, .int .i64 0] 25 (0, 0))) :
    Calls Try.prog 55 #[.pointer (some ⟨g, 0, none⟩)] w' fun e w1 => ∃ G c L, e = .returned (.slice (some ⟨G, 0, none⟩) L.length c) ∧ ((w1.cell? ⟨q, 0, none⟩ = some (.int .i64 f) ∧ w1.cell? ⟨q, 1, none⟩ = some (.int .i64 t) ∧ w1.cell? ⟨q, 2, none⟩ = some (.int .i64 s)) ∧ LQ w B g a len cap q w1 f t s) ∧ OwnB w1 w.heap.size G L.length c L ∧ Byt L ∧ L.length ≤ 40001 ∧ w1.heap[r]? = some (.cells #[.int .i64 0, .int .i64 0, .int .i64 0] 25 (0, 0)) := by
  obtain ⟨cc, hq1⟩ := h
  have hs := hq1.ds.gr.size
  refine (dbody_any B g a len cap w' hB (Nat.le_trans hBw hs) hl hq1.ds.cur hq1.ds.rd).mono ?_
  rintro e w1 ⟨G, c, L, rfl, ow, hy, hn, dd⟩
  have h1 := hq1.step hB hq dd.cur dd.gr
  have hlt : r < w.heap.size := (Array.getElem?_eq_some_iff.1 hrb).1
  refine ⟨G, c, L, rfl, ⟨h1.cells, h1⟩, own_mono ow hs, hy, hn, ?_⟩
  exact (h1.ds.gr.block r hlt (by intro e; injection e with e; exact hr e)).trans hrb
theorem cell_later' {w w1 : World} {a : Addr} {v : Value} (hb : Below w.heap.size w w1) (h : w.cell? a = some v) : w1.cell? a = some v := by
  rw [hb.cell (World.block_lt_of_cell? _ _ h)]; exact h
theorem froz_later {w w1 : World} {a : Addr} {v : Value} (hb : Below w.heap.size w w1) (h : w.cell? a = some v) (hf : w.frozen? a = false) : w1.frozen? a = false := by
  rw [hb.frozen (World.block_lt_of_cell? _ _ h)]; exact hf
theorem frz {w : World} {r : Nat} {cs : Array Value} {t : TypeId} (h : w.heap[r]? = some (.cells cs t (0, 0))) (i : Nat) : w.frozen? ⟨r, i, none⟩ = false := by simp [World.frozen?, h]
theorem rdb_later {w w1 : World} {B : Nat} {a : Option Addr} {len : Nat} (h : RdB w B a len) (hb : Below B w w1) : RdB w1 B a len := by
  intro j hj
  obtain ⟨b, o, z, e, hb2, hc, h0, h1⟩ := h j hj
  exact ⟨b, o, z, e, hb2, (hb.cell (p := ⟨b, o + j, none⟩) hb2).trans hc, h0, h1⟩
theorem rdb_up {w : World} {B C : Nat} {a : Option Addr} {len : Nat} (h : RdB w B a len) (hb : B ≤ C) : RdB w C a len := by
  intro j hj
  obtain ⟨b, o, z, e, hb2, r⟩ := h j hj
  exact ⟨b, o, z, e, by omega, r⟩
theorem keepR {w : World} {q r : Nat} {f t s x y z : Value} (h : w.cell? ⟨q, 0, none⟩ = some f ∧ w.cell? ⟨q, 1, none⟩ = some t ∧ w.cell? ⟨q, 2, none⟩ = some s) (hqr : q ≠ r) :
    (((w.setCell ⟨r, 0, none⟩ x).setCell ⟨r, 1, none⟩ y).setCell ⟨r, 2, none⟩ z).cell? ⟨q, 0, none⟩ = some f ∧ (((w.setCell ⟨r, 0, none⟩ x).setCell ⟨r, 1, none⟩ y).setCell ⟨r, 2, none⟩ z).cell? ⟨q, 1, none⟩ = some t ∧ (((w.setCell ⟨r, 0, none⟩ x).setCell ⟨r, 1, none⟩ y).setCell ⟨r, 2, none⟩ z).cell? ⟨q, 2, none⟩ = some s := by
  have ne : ∀ i j, (⟨r, i, none⟩ : Addr) ≠ ⟨q, j, none⟩ := fun i j e => by injection e with e1 _ _; exact hqr e1.symm
  refine ⟨?_, ?_, ?_⟩ <;> (rw [World.cell?_setCell_other _ _ _ _ (ne _ _), World.cell?_setCell_other _ _ _ _ (ne _ _), World.cell?_setCell_other _ _ _ _ (ne _ _)])
  · exact h.1
  · exact h.2.1
  · exact h.2.2
theorem own_off {w : World} {B n m g cap : Nat} {e : TypeId} {xs : List Value} {p : Addr} (h : w.ownsRow B e m (.slice (some ⟨g, 0, none⟩) n cap) n xs) (hp : p.block ≠ g) (u : Value) : (w.setCell p u).ownsRow B e m (.slice (some ⟨g, 0, none⟩) n cap) n xs := by
  obtain ⟨h1, h2⟩ := h
  refine ⟨h1, ?_⟩
  rcases h2 with ⟨h2, _⟩ | ⟨g', cap', cur, hv, hg, hh, r⟩
  · cases h2
  · have hv' := hv
    simp only [Value.slice.injEq, Option.some.injEq, Addr.mk.injEq, and_true, true_and] at hv
    obtain ⟨rfl, rfl⟩ := hv
    exact Or.inr ⟨g, cap, cur, rfl, hg, by rw [Below.heap_setCell _ _ _ _ (Ne.symm hp)]; exact hh, r⟩
/-- all is handed over -/
theorem anl_of {W w1 wz : World} {B g : Nat} {a : Option Addr} {len cap q r G c : Nat} {f t s m : Int} {L : List Int} (hr : r = W.heap.size) (hrw : r < w1.heap.size) (hb : Below W.heap.size W w1) (hgw : W.heap.size ≤ g) (h : LQ w1 B g a len cap q wz f t s) (ho : OwnB wz w1.heap.size G L.length c L) (hy : Byt L) (hn : L.length ≤ 40001) (x y z : Value) :
    AnL W (.returned (.tuple #[.agg #[.int .i64 f, .int .i64 t, .int .i64 s], .int .i64 m, .slice (some ⟨G, 0, none⟩) L.length c])) (((wz.setCell ⟨r, 0, none⟩ x).setCell ⟨r, 1, none⟩ y).setCell ⟨r, 2, none⟩ z) := by
  have hG := own_ge ho
  have hne : r ≠ G := by omega
  have b1 := below_grown hb h.ds.gr hgw
  refine ⟨f, t, s, m, G, c, L, rfl, hy, hn, own_mono (own_off (own_off (own_off ho hne _) hne _) hne _) hb.size, ?_⟩
  subst hr
  exact ((b1.setCell (p := ⟨W.heap.size, 0, none⟩) (Nat.le_refl _) _).setCell (p := ⟨W.heap.size, 1, none⟩) (Nat.le_refl _) _).setCell (p := ⟨W.heap.size, 2, none⟩) (Nat.le_refl _) _

end Go.Proofs.Ytpdnceeniokemaa
