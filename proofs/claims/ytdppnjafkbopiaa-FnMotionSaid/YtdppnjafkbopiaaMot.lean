/-
  Contract of the program's search for a motion; nothing that was there is written.
-/
import Derived.Test.YtdppnjafkbopiaaIbl
import Derived.Test.YtdppnjafkbopiaaDif
import Derived.Deep.MidRow
import Derived.Deep.CutRange
import Derived.Deep.CutBlock
import Derived.Deep.DeepCutAuto
namespace Go.Proofs.Ytdppnjafkbopiaa
open Go.RowKit
set_option linter.unusedVariables false
set_option linter.unusedSimpArgs false

/-- a block's cells -/
abbrev sqL (f : Nat → Int) : List Value := [.int .i64 (f 0), .int .i64 (f 1), .int .i64 (f 2), .int .i64 (f 3), .int .i64 (f 4), .int .i64 (f 5), .int .i64 (f 6), .int .i64 (f 7), .int .i64 (f 8), .int .i64 (f 9), .int .i64 (f 10), .int .i64 (f 11), .int .i64 (f 12), .int .i64 (f 13), .int .i64 (f 14), .int .i64 (f 15)]
theorem range_of {w : World} {b : Nat} {t : TypeId} {f : Nat → Int} (h : Bk w b t f) : w.rangeAt b 0 (sqL f) := by
  have := World.rangeAt_of_block h 0 16
  simpa using this
theorem keepX {w w0 w1 : World} {b c : Nat} {f : List Value} {v0 v1 v2 : Value}
    (h : w0.rangeAt b 0 f ∧ w0.cell? ⟨c, 0, none⟩ = some v0 ∧ w0.cell? ⟨c, 1, none⟩ = some v1 ∧ w0.cell? ⟨c, 2, none⟩ = some v2 ∧ Below w.heap.size w w0) (hb : Below w0.heap.size w0 w1) :
    w1.rangeAt b 0 f ∧ w1.cell? ⟨c, 0, none⟩ = some v0 ∧ w1.cell? ⟨c, 1, none⟩ = some v1 ∧ w1.cell? ⟨c, 2, none⟩ = some v2 ∧ Below w.heap.size w w1 := by
  obtain ⟨h0, h1, h2, h3, h7⟩ := h
  exact ⟨fun j v hv => cell_later hb (h0 j v hv), cell_later hb h1, cell_later hb h2, cell_later hb h3, laterB h7 hb⟩
theorem keepXd {w w0 : World} {b c : Nat} {f : List Value} {v0 v1 v2 : Value}
    (h : w0.rangeAt b 0 f ∧ w0.cell? ⟨c, 0, none⟩ = some v0 ∧ w0.cell? ⟨c, 1, none⟩ = some v1 ∧ w0.cell? ⟨c, 2, none⟩ = some v2 ∧ Below w.heap.size w w0) :
    w0.drew.rangeAt b 0 f ∧ w0.drew.cell? ⟨c, 0, none⟩ = some v0 ∧ w0.drew.cell? ⟨c, 1, none⟩ = some v1 ∧ w0.drew.cell? ⟨c, 2, none⟩ = some v2 ∧ Below w.heap.size w w0.drew := by
  obtain ⟨h0, h1, h2, h3, h7⟩ := h
  exact ⟨h0, h1, h2, h3, h7.drew⟩
theorem keepY {w w0 w1 : World} {b c d : Nat} {f : List Value} {v0 v1 v2 v3 v4 : Value}
    (h : w0.rangeAt b 0 f ∧ w0.cell? ⟨c, 0, none⟩ = some v0 ∧ w0.cell? ⟨c, 1, none⟩ = some v1 ∧ w0.cell? ⟨c, 2, none⟩ = some v2 ∧ w0.cell? ⟨d, 0, none⟩ = some v3 ∧ w0.cell? ⟨d, 1, none⟩ = some v4 ∧ Below w.heap.size w w0) (hb : Below w0.heap.size w0 w1) :
    w1.rangeAt b 0 f ∧ w1.cell? ⟨c, 0, none⟩ = some v0 ∧ w1.cell? ⟨c, 1, none⟩ = some v1 ∧ w1.cell? ⟨c, 2, none⟩ = some v2 ∧ w1.cell? ⟨d, 0, none⟩ = some v3 ∧ w1.cell? ⟨d, 1, none⟩ = some v4 ∧ Below w.heap.size w w1 := by
  obtain ⟨h0, h1, h2, h3, h4, h5, h7⟩ := h
  exact ⟨fun j v hv => cell_later hb (h0 j v hv), cell_later hb h1, cell_later hb h2, cell_later hb h3, cell_later hb h4, cell_later hb h5, laterB h7 hb⟩
theorem keepYd {w w0 : World} {b c d : Nat} {f : List Value} {v0 v1 v2 v3 v4 : Value}
    (h : w0.rangeAt b 0 f ∧ w0.cell? ⟨c, 0, none⟩ = some v0 ∧ w0.cell? ⟨c, 1, none⟩ = some v1 ∧ w0.cell? ⟨c, 2, none⟩ = some v2 ∧ w0.cell? ⟨d, 0, none⟩ = some v3 ∧ w0.cell? ⟨d, 1, none⟩ = some v4 ∧ Below w.heap.size w w0) :
    w0.drew.rangeAt b 0 f ∧ w0.drew.cell? ⟨c, 0, none⟩ = some v0 ∧ w0.drew.cell? ⟨c, 1, none⟩ = some v1 ∧ w0.drew.cell? ⟨c, 2, none⟩ = some v2 ∧ w0.drew.cell? ⟨d, 0, none⟩ = some v3 ∧ w0.drew.cell? ⟨d, 1, none⟩ = some v4 ∧ Below w.heap.size w w0.drew := by
  obtain ⟨h0, h1, h2, h3, h4, h5, h7⟩ := h
  exact ⟨h0, h1, h2, h3, h4, h5, h7.drew⟩
theorem keepZ {w w0 w1 : World} {a1 a2 a3 a4 : Addr} {v1 v2 v3 v4 : Value}
    (h : w0.cell? a1 = some v1 ∧ w0.cell? a2 = some v2 ∧ w0.cell? a3 = some v3 ∧ w0.cell? a4 = some v4 ∧ Below w.heap.size w w0) (hb : Below w0.heap.size w0 w1) :
    w1.cell? a1 = some v1 ∧ w1.cell? a2 = some v2 ∧ w1.cell? a3 = some v3 ∧ w1.cell? a4 = some v4 ∧ Below w.heap.size w w1 := by
  obtain ⟨h1, h2, h3, h4, h7⟩ := h
  exact ⟨cell_later hb h1, cell_later hb h2, cell_later hb h3, cell_later hb h4, laterB h7 hb⟩
theorem keepZd {w w0 : World} {a1 a2 a3 a4 : Addr} {v1 v2 v3 v4 : Value}
    (h : w0.cell? a1 = some v1 ∧ w0.cell? a2 = some v2 ∧ w0.cell? a3 = some v3 ∧ w0.cell? a4 = some v4 ∧ Below w.heap.size w w0) :
    w0.drew.cell? a1 = some v1 ∧ w0.drew.cell? a2 = some v2 ∧ w0.drew.cell? a3 = some v3 ∧ w0.drew.cell? a4 = some v4 ∧ Below w.heap.size w w0.drew := by
  obtain ⟨h1, h2, h3, h4, h7⟩ := h
  exact ⟨h1, h2, h3, h4, h7.drew⟩
abbrev SZw (x : World) (Bn B8 : Nat) (dx dy p q : Int) (w : World) : Prop := w.cell? ⟨Bn, 0, none⟩ = some (.int .i64 dx) ∧ w.cell? ⟨Bn, 1, none⟩ = some (.int .i64 dy) ∧ w.cell? ⟨B8, 0, none⟩ = some (.int .i64 p) ∧ w.cell? ⟨B8, 1, none⟩ = some (.int .i64 q) ∧ Below x.heap.size x w
theorem P2d {w : World} {b : Nat} {t : TypeId} {x y : Int} (h : P2 w b t x y) : P2 w.drew b t x y := h
/-- what stands while the first of the motions is weighed: the block's pixels, the old picture -/
abbrev SX (x : World) (B7 B0 : Nat) (f : List Value) (v0 v1 v2 : Value) (w : World) : Prop := w.rangeAt B7 0 f ∧ w.cell? ⟨B0, 0, none⟩ = some v0 ∧ w.cell? ⟨B0, 1, none⟩ = some v1 ∧ w.cell? ⟨B0, 2, none⟩ = some v2 ∧ Below x.heap.size x w
section
variable {x w0 w1 : World} {B7 B0 : Nat} {f : List Value} {v0 v1 v2 : Value}
theorem kx_keep (h : SX x B7 B0 f v0 v1 v2 w0) (hb : Below w0.heap.size w0 w1) : SX x B7 B0 f v0 v1 v2 w1 := keepX h hb
theorem kx_bel (h : SX x B7 B0 f v0 v1 v2 w0) : Below x.heap.size x w0 := h.2.2.2.2
theorem kx_alloc {o : Obj} (h : SX x B7 B0 f v0 v1 v2 w0) : SX x B7 B0 f v0 v1 v2 (w0.alloc o) := keepX h ((Below.refl _ _).alloc (Nat.le_refl _) _)
theorem kx_drew (h : SX x B7 B0 f v0 v1 v2 w0) : SX x B7 B0 f v0 v1 v2 w0.drew := keepXd h
theorem kx_undrew (h : SX x B7 B0 f v0 v1 v2 w0.drew) : SX x B7 B0 f v0 v1 v2 w0 := ⟨h.1, h.2.1, h.2.2.1, h.2.2.2.1, h.2.2.2.2.os, h.2.2.2.2.tape, h.2.2.2.2.output, h.2.2.2.2.size, h.2.2.2.2.block⟩
theorem kx_allocd {o : Obj} (h : SX x B7 B0 f v0 v1 v2 w0.drew) : SX x B7 B0 f v0 v1 v2 (w0.alloc o).drew := kx_drew (kx_alloc (kx_undrew h))
theorem kx_old {o : Obj} (h : SX x B7 B0 f v0 v1 v2 (w0.alloc o)) (h7 : B7 < x.heap.size) (h0 : B0 < x.heap.size) (hs : x.heap.size ≤ w0.heap.size) : SX x B7 B0 f v0 v1 v2 w0 := by
  obtain ⟨h1, h2, h3, h4, h5⟩ := h
  have R : ∀ b i, b < x.heap.size → (w0.alloc o).cell? ⟨b, i, none⟩ = w0.cell? ⟨b, i, none⟩ := fun b i hb => ((Below.refl w0.heap.size w0).alloc (Nat.le_refl _) o).cell (p := ⟨b, i, none⟩) (by show b < _; omega)
  refine ⟨fun j v hv => (R _ _ h7).symm.trans (h1 j v hv), (R _ _ h0).symm.trans h2, (R _ _ h0).symm.trans h3, (R _ _ h0).symm.trans h4, h5.os, h5.tape, h5.output, hs, ?_⟩
  intro k hk
  exact (Below.heap_alloc w0 o k (by omega)).symm.trans (h5.block k hk)
theorem kx_swap {o o' : Obj} (h : SX x B7 B0 f v0 v1 v2 (w0.alloc o)) (h7 : B7 < x.heap.size) (h0 : B0 < x.heap.size) (hs : x.heap.size ≤ w0.heap.size) : SX x B7 B0 f v0 v1 v2 (w0.alloc o') := kx_alloc (kx_old h h7 h0 hs)
theorem kx_set {g i : Nat} {v : Value} (h : SX x B7 B0 f v0 v1 v2 w0) (h7 : B7 < x.heap.size) (h0 : B0 < x.heap.size) (hg : x.heap.size ≤ g) : SX x B7 B0 f v0 v1 v2 (w0.setCell ⟨g, i, none⟩ v) := by
  obtain ⟨h1, h2, h3, h4, h5⟩ := h
  have R : ∀ b j, b < x.heap.size → (w0.setCell ⟨g, i, none⟩ v).cell? ⟨b, j, none⟩ = w0.cell? ⟨b, j, none⟩ := fun b j hb => ((Below.refl x.heap.size w0).setCell (p := ⟨g, i, none⟩) hg v).cell (p := ⟨b, j, none⟩) hb
  exact ⟨fun j v hv => (R _ _ h7).trans (h1 j v hv), (R _ _ h0).trans h2, (R _ _ h0).trans h3, (R _ _ h0).trans h4, below_set h5 hg⟩
theorem kx_set2 {g i j : Nat} {u v : Value} (h : SX x B7 B0 f v0 v1 v2 w0) (h7 : B7 < x.heap.size) (h0 : B0 < x.heap.size) (hg : x.heap.size ≤ g) : SX x B7 B0 f v0 v1 v2 ((w0.setCell ⟨g, i, none⟩ u).setCell ⟨g, j, none⟩ v) := kx_set (kx_set h h7 h0 hg) h7 h0 hg
end
/-- the differences of block n of p and the block of old that it may have been -/
def mdif (W H : Int) (l m : List Int) (n dx dy : Int) : Int := dif (blk W H m n 0 0) (blk W H l n dx dy) 16
set_option maxHeartbeats 6400000 in
theorem imo_any (W H : Int) (a b : Option Addr) (ca cb : Nat) (l m : List Int) (n : Int) (w : World) (hp : PcOk W H l) (hq : PcOk W H m) (ha : Ins w a l) (hb : Ins w b m) (n0 : 0 ≤ n) (n1 : n < nBl W H) :
    Calls Try.prog 15 #[pcv W H a l.length ca, pcv W H b m.length cb, .int .i64 n] w fun e w' => ∃ p q, e = .returned (mvv p q) ∧ Best (mdif W H l m n) p q ∧ Below w.heap.size w w' := by
  have ha' := hide ha
  have hb' := hide hb
  have hme := hide (fun i => blk_px (n := n) (dx := 0) (dy := 0) hq i)
  have hoe := hide (fun dx dy i => blk_px (n := n) (dx := dx) (dy := dy) hp i)
  have c58p := hide (fun w' (h : Below w.heap.size w w') => iblk_any W H b cb m n 0 0 w' hq (hb.below h) n0 n1 inM0)
  have c58o := hide (fun dx dy w' (hm : InM dx dy) (h : Below w.heap.size w w') => iblk_any W H a ca l n dx dy w' hp (ha.below h) n0 n1 hm)
  have hDD := hide (show ∀ dx dy, mdif W H l m n dx dy = dif (blk W H m n 0 0) (blk W H l n dx dy) 16 from fun _ _ => rfl)
  have hDb := hide (show ∀ dx dy, 0 ≤ mdif W H l m n dx dy ∧ mdif W H l m n dx dy ≤ 4080 from fun dx dy => by have := dif_bd (unhide hme) (unhide hoe dx dy) 16; unfold mdif; omega)
  have b1 : Below w.heap.size w (w.alloc (.cells #[.int .i64 W, .int .i64 H, .slice a l.length ca] 26)) := (Below.refl _ _).alloc (Nat.le_refl _) _
  have p1 := P3.new w 26 W H (.slice a l.length ca)
  have z1 := Deep.nblk_alloc w (.cells #[.int .i64 W, .int .i64 H, .slice a l.length ca] 26)
  clear ha hb hp hq
  go_enter Try.func15, Try.ntmps15
  go_wp2_with fail
  generalize w.alloc (.cells #[.int .i64 W, .int .i64 H, .slice a l.length ca] 26) = w1 at *
  have b2 := laterB b1 ((Below.refl w1.heap.size w1).alloc (Nat.le_refl _) (.cells #[.int .i64 W, .int .i64 H, .slice b m.length cb] 26))
  have p2 := p1.later ((Below.refl w1.heap.size w1).alloc (Nat.le_refl _) (.cells #[.int .i64 W, .int .i64 H, .slice b m.length cb] 26))
  have z2 := Deep.nblk_alloc w1 (.cells #[.int .i64 W, .int .i64 H, .slice b m.length cb] 26)
  generalize w1.alloc (.cells #[.int .i64 W, .int .i64 H, .slice b m.length cb] 26) = w2 at *
  have b3 := laterB b2 ((Below.refl w2.heap.size w2).alloc (Nat.le_refl _) (.cells #[.int .i64 0, .int .i64 0] 41))
  have p3 := p2.later ((Below.refl w2.heap.size w2).alloc (Nat.le_refl _) (.cells #[.int .i64 0, .int .i64 0] 41))
  have r3 := P2.new w2 41 0 0
  have z3 := Deep.nblk_alloc w2 (.cells #[.int .i64 0, .int .i64 0] 41)
  generalize w2.alloc (.cells #[.int .i64 0, .int .i64 0] 41) = w3 at *
  rw [z2, z1] at r3
  have e6 : Hid (w.heap.size + 1 + 1 < w3.heap.size) := hide (by omega)
  clear b1 p1 z1 b2 p2 z2 z3 w1 w2
  refine (unhide c58p _ b3).mono ?_
  rintro e w4 ⟨rfl, k4⟩
  have P := hide (p3.later k4)
  have R := hide (r3.later k4)
  have Bw := hide (laterB b3 k4)
  have e6' : w.heap.size + 1 + 1 < w4.heap.size := Nat.lt_of_lt_of_le (unhide e6) k4.size
  clear p3 r3 b3 k4 c58p e6
  generalize blk W H m n 0 0 = me at *
  go_upto_region 2 with fail
  have x5 := Bk.new w4 52 me
  have k5 : Below w4.heap.size w4 (w4.alloc (.cells #[.int .i64 (me 0), .int .i64 (me 1), .int .i64 (me 2), .int .i64 (me 3), .int .i64 (me 4), .int .i64 (me 5), .int .i64 (me 6), .int .i64 (me 7), .int .i64 (me 8), .int .i64 (me 9), .int .i64 (me 10), .int .i64 (me 11), .int .i64 (me 12), .int .i64 (me 13), .int .i64 (me 14), .int .i64 (me 15)] 52)) := (Below.refl _ _).alloc (Nat.le_refl _) _
  have P := hide ((unhide P).later k5)
  have R := hide ((unhide R).later k5)
  have Bw := hide (laterB (unhide Bw) k5)
  have d67 : Hid (w.heap.size + 1 + 1 < w4.heap.size ∧ w4.heap.size < (w4.alloc (.cells #[.int .i64 (me 0), .int .i64 (me 1), .int .i64 (me 2), .int .i64 (me 3), .int .i64 (me 4), .int .i64 (me 5), .int .i64 (me 6), .int .i64 (me 7), .int .i64 (me 8), .int .i64 (me 9), .int .i64 (me 10), .int .i64 (me 11), .int .i64 (me 12), .int .i64 (me 13), .int .i64 (me 14), .int .i64 (me 15)] 52)).heap.size) := hide ⟨e6', by rw [Deep.nblk_alloc]; omega⟩
  generalize w4.alloc (.cells #[.int .i64 (me 0), .int .i64 (me 1), .int .i64 (me 2), .int .i64 (me 3), .int .i64 (me 4), .int .i64 (me 5), .int .i64 (me 6), .int .i64 (me 7), .int .i64 (me 8), .int .i64 (me 9), .int .i64 (me 10), .int .i64 (me 11), .int .i64 (me 12), .int .i64 (me 13), .int .i64 (me 14), .int .i64 (me 15)] 52) = w5 at *
  clear k5 e6'
  generalize w4.heap.size = B7 at *
  have X := hide x5
  clear x5
  obtain ⟨B0, hB0⟩ : ∃ B0, w.heap.size = B0 := ⟨_, rfl⟩
  have hB0' := hide hB0
  rw [hB0] at P R ⊢
  clear hB0
  have hall : Hid (w5.rangeAt B7 0 (sqL me) ∧ w5.cell? ⟨B0, 0, none⟩ = some (.int .i64 W) ∧ w5.cell? ⟨B0, 1, none⟩ = some (.int .i64 H) ∧ w5.cell? ⟨B0, 2, none⟩ = some (.slice a l.length ca) ∧ Below w5.heap.size w5 w5) := hide ⟨range_of (unhide X), (unhide P).cells.1, (unhide P).cells.2.1, (unhide P).cells.2.2, Below.refl _ _⟩
  have c1 := hide (show ∀ w', Below w5.heap.size w5 w' → Calls Try.prog 24 #[pcv W H a l.length ca, .int .i64 n, mvv 0 0] w' _ from fun w' h => unhide c58o 0 0 w' inM0 (laterB (unhide Bw) h))
  have c2 := hide (show ∀ w', Calls Try.prog 25 #[sqv me, sqv (blk W H l n 0 0)] w' fun e w'' => e = .returned (.int .i64 (mdif W H l m n 0 0)) ∧ Below w'.heap.size w' w'' from fun w' => by rw [unhide hDD]; exact dif_any me _ w' (unhide hme) (unhide hoe 0 0))
  have hu : Try.prog.underlying 52 = some (.array 16 2) := Try.underlying52
  have hs : (Try.prog.info? 52).map (·.size) = some (sqL me).length := by kernel_rfl
  have y7 := (unhide d67).2
  have y0 : B0 < w5.heap.size := (unhide P).lt
  go_cut [8, 9] from 18 (fun s t wx => ∃ g, s = .pointer (some ⟨g, 0, none⟩) ∧ t = .int .i64 (mdif W H l m n 0 0) ∧ Hid (w5.heap.size ≤ g ∧ P2 wx g 41 0 0) ∧ Hid (Below w5.heap.size w5 wx))
  case first =>
    go_region_held3 (fun w' => w'.rangeAt B7 0 (sqL me) ∧ w'.cell? ⟨B0, 0, none⟩ = some (.int .i64 W) ∧ w'.cell? ⟨B0, 1, none⟩ = some (.int .i64 H) ∧ w'.cell? ⟨B0, 2, none⟩ = some (.slice a l.length ca) ∧ Below w5.heap.size w5 w')
      (first | (with_reducible refine kx_keep ?_ hbk; with_reducible assumption) | (with_reducible exact kx_drew (unhide hall)) | (with_reducible refine kx_set2 ?_ y7 y0 (by first | omega | (simp; omega) | simp); with_reducible assumption) | (with_reducible refine kx_swap (o := .cells #[.int .i64 0, .int .i64 0] 41) ?_ y7 y0 hsk; with_reducible assumption) | (with_reducible refine kx_allocd ?_; with_reducible assumption) | (with_reducible refine kx_alloc ?_; with_reducible assumption))
      ((first
        | (go_at_call 24
           refine (unhide c1 _ (kx_bel ‹_›)).mono ?_
           rintro e w6 ⟨rfl, hbk⟩
           have hsk := (kx_bel (kx_keep ‹_› hbk)).size
           (first | (with_reducible have nb := P2.later (P2d (P2.new _ 41 0 0)) hbk; (try simp only [Deep.nblk_alloc] at nb); have ⟨n1, n2⟩ := nb.cells; have n3 := nb.fz) | (with_reducible have nb := P2.later (P2.new _ 41 0 0) hbk; have ⟨n1, n2⟩ := nb.cells; have n3 := nb.fz) | skip))
        | (go_at_call 25
           refine (unhide c2 _).mono ?_
           rintro e w6 ⟨rfl, hbk⟩
           have hsk := (kx_bel (kx_keep ‹_› hbk)).size
           (first | (with_reducible have nb := P2.later nb hbk; have ⟨n1, n2⟩ := nb.cells; have n3 := nb.fz) | (with_reducible have nb := P2.later (P2.new _ 41 0 0) hbk; have ⟨n1, n2⟩ := nb.cells; have n3 := nb.fz) | skip))))
    all_goals
      have hH : SX w5 B7 B0 (sqL me) (.int .i64 W) (.int .i64 H) (.slice a l.length ca) _ := ‹_›
      go_wp2
      go_meet
      first | exact ⟨_, rfl, rfl, hide ⟨hsk, P2.new _ 41 0 0⟩, hide hH.2.2.2.2⟩ | exact ⟨_, rfl, rfl, hide ⟨(by first | exact Nat.le_refl _ | assumption), P2.set nb 0 0⟩, hide hH.2.2.2.2⟩
  case rest =>
    obtain ⟨B8, h8, h9, hg8, hbc⟩ := hcut
    subst h8 h9
    have P := hide ((unhide P).later (unhide hbc))
    have R := hide ((unhide R).later (unhide hbc))
    have X := hide ((unhide X).later (unhide hbc))
    have Bw := hide (laterB (unhide Bw) (unhide hbc))
    have Bs := hide (unhide hg8).2
    have y8 : w5.heap.size ≤ B8 := (unhide hg8).1
    have y6 : B0 + 1 + 1 < B7 := by have := (unhide d67).1; rw [unhide hB0'] at this; exact this
    have yw : w.heap.size ≤ B0 := by rw [unhide hB0']; exact Nat.le_refl _
    have hI0 := hide (ibest_start (mdif W H l m n) (-2) (-2) (Int.le_refl _) (Int.le_refl _))
    clear hbc hg8 hall c1 c2 d67 hs hu
    generalize w5.heap.size = S5 at *
    go_wp2
    go_loopw [9, 10] (fun s t wr => ∃ (dy p q : Int), -2 ≤ dy ∧ dy ≤ 3 ∧ t = .int .i64 dy ∧ s = .int .i64 (mdif W H l m n p q) ∧ Hid (IBest (mdif W H l m n) (-2) dy p q) ∧ Hid (P2 wr B8 41 p q) ∧ Hid (P3 wr B0 26 W H (.slice a l.length ca)) ∧ Hid (P2 wr (B0 + 1 + 1) 41 0 0) ∧ Hid (Bk wr B7 52 me) ∧ Hid (Below w.heap.size w wr)) (fun _ t _ => (3 - intOf t).toNat)
    case atStart => exact ⟨-2, 0, 0, by omega, by omega, rfl, rfl, hI0, Bs, P, R, X, Bw⟩
    case round =>
      clear hI0 Bs P R X Bw
      obtain ⟨dy, p, q, dy0, dy1, rfl, rfl, hI, Bs, P, R, X, Bw⟩ := hrel
      by_cases hly : dy ≤ 2
      · have hly2 : decide (dy ≤ 2) = true := decide_eq_true hly
        rename World => wa
        go_wp2
        go_loopw [9, 11] (fun s t wr => ∃ (dx p q : Int), -2 ≤ dx ∧ dx ≤ 3 ∧ t = .int .i64 dx ∧ s = .int .i64 (mdif W H l m n p q) ∧ Hid (IBest (mdif W H l m n) dx dy p q) ∧ Hid (P2 wr B8 41 p q) ∧ Hid (P3 wr B0 26 W H (.slice a l.length ca)) ∧ Hid (P2 wr (B0 + 1 + 1) 41 0 0) ∧ Hid (Bk wr B7 52 me) ∧ Hid (Below w.heap.size w wr)) (fun _ t _ => (3 - intOf t).toNat)
        case atStart => exact ⟨-2, p, q, by omega, by omega, rfl, rfl, hI, Bs, P, R, X, Bw⟩
        case round =>
          clear hI Bs P R X Bw
          obtain ⟨dx, p, q, dx0, dx1, rfl, rfl, hI, Bs, P, R, X, Bw⟩ := hrel
          by_cases hlx : dx ≤ 2
          · have hlx2 : decide (dx ≤ 2) = true := decide_eq_true hlx
            have hM : Hid (InM dx dy) := hide ⟨dx0, hlx, dy0, hly⟩
            have hMp : Hid (InM p q) := hide (unhide hI).1.1
            have hDn := unhide hDb dx dy
            have hDp := unhide hDb p q
            have hDq := hide (unhide hDD dx dy)
            go_upto_region 10 with fail
            have N := P2.new wr 41 dx dy
            have k0 : Below wr.heap.size wr (wr.alloc (.cells #[.int .i64 dx, .int .i64 dy] 41)) := (Below.refl _ _).alloc (Nat.le_refl _) _
            have Bs := hide ((unhide Bs).later k0)
            have P := hide ((unhide P).later k0)
            have R := hide ((unhide R).later k0)
            have X := hide ((unhide X).later k0)
            have Bw := hide (laterB (unhide Bw) k0)
            generalize wr.alloc (.cells #[.int .i64 dx, .int .i64 dy] 41) = wn at *
            have hBn := (unhide P).lt
            clear k0 hBn
            generalize wr.heap.size = Bn at *
            have N := hide N
            have hall : Hid (wn.rangeAt B7 0 (sqL me) ∧ wn.cell? ⟨B0, 0, none⟩ = some (.int .i64 W) ∧ wn.cell? ⟨B0, 1, none⟩ = some (.int .i64 H) ∧ wn.cell? ⟨B0, 2, none⟩ = some (.slice a l.length ca) ∧ wn.cell? ⟨Bn, 0, none⟩ = some (.int .i64 dx) ∧ wn.cell? ⟨Bn, 1, none⟩ = some (.int .i64 dy) ∧ Below wn.heap.size wn wn) := hide ⟨range_of (unhide X), (unhide P).cells.1, (unhide P).cells.2.1, (unhide P).cells.2.2, (unhide N).cells.1, (unhide N).cells.2, Below.refl _ _⟩
            have c1 := hide (show ∀ w', Below wn.heap.size wn w' → Calls Try.prog 24 #[pcv W H a l.length ca, .int .i64 n, mvv dx dy] w' _ from fun w' h => unhide c58o dx dy w' (unhide hM) (laterB (unhide Bw) h))
            have c2 := hide (show ∀ w', Calls Try.prog 25 #[sqv me, sqv (blk W H l n dx dy)] w' fun e w'' => e = .returned (.int .i64 (mdif W H l m n dx dy)) ∧ Below w'.heap.size w' w'' from fun w' => by rw [unhide hDq]; exact dif_any me _ w' (unhide hme) (unhide hoe dx dy))
            have hu : Try.prog.underlying 52 = some (.array 16 2) := Try.underlying52
            have hs : (Try.prog.info? 52).map (·.size) = some (sqL me).length := by kernel_rfl
            go_region_held3 (fun w' => w'.rangeAt B7 0 (sqL me) ∧ w'.cell? ⟨B0, 0, none⟩ = some (.int .i64 W) ∧ w'.cell? ⟨B0, 1, none⟩ = some (.int .i64 H) ∧ w'.cell? ⟨B0, 2, none⟩ = some (.slice a l.length ca) ∧ w'.cell? ⟨Bn, 0, none⟩ = some (.int .i64 dx) ∧ w'.cell? ⟨Bn, 1, none⟩ = some (.int .i64 dy) ∧ Below wn.heap.size wn w')
              (first | with_reducible exact hS7 | with_reducible exact hS6 | exact keepYd (unhide hall))
              ((first
                | (go_at_call 24
                   refine (unhide c1 _ (Below.refl _ _).drew).mono ?_
                   rintro e w6 ⟨rfl, k6⟩
                   have hS6 := keepY (keepYd (unhide hall)) k6
                   clear k6)
                | (go_at_call 25
                   refine (unhide c2 _).mono ?_
                   rintro e w7 ⟨rfl, k7⟩
                   have hS7 := keepY hS6 k7
                   clear k7)))
            have k8 := hS7.2.2.2.2.2.2
            have Bs := hide ((unhide Bs).later k8)
            have P := hide ((unhide P).later k8)
            have R := hide ((unhide R).later k8)
            have X := hide ((unhide X).later k8)
            have N := hide ((unhide N).later k8)
            have Bw := hide (laterB (unhide Bw) k8)
            clear k8 hS6 hS7 hall c1 c2 hs hu hDq
            generalize hDn1 : mdif W H l m n dx dy = Dn at *
            generalize hDp1 : mdif W H l m n p q = Dp at *
            obtain ⟨c, hc⟩ : ∃ c : Bool, c = true ↔ (Dn < Dp ∨ (Dn = Dp ∧ len2 dx dy < len2 p q)) := by
              by_cases h : Dn < Dp ∨ (Dn = Dp ∧ len2 dx dy < len2 p q)
              · exact ⟨true, ⟨fun _ => h, fun _ => rfl⟩⟩
              · exact ⟨false, ⟨(fun k => by cases k), fun k => absurd k h⟩⟩
            have hc' := hide hc
            have hDn1' := hide hDn1
            have hDp1' := hide hDp1
            clear hc hDn1 hDp1
            obtain ⟨hDn0, hDn9⟩ := hDn
            obtain ⟨hDp0, hDp9⟩ := hDp
            go_upto_region 11 with fail
            go_cut [56] from 29 to 58 (fun s wx => s = .bool c ∧ Hid (Below w7.heap.size w7 wx))
            case first =>
              by_cases hlt : Dn < Dp
              · have hb1 : decide (Dn < Dp) = true := decide_eq_true hlt
                have hct : c = true := (unhide hc').2 (Or.inl hlt)
                subst hct
                go_quiet (fail)
                go_wp2
                go_meet
                exact ⟨rfl, hide (below_drewN (Below.refl _ _) _)⟩
              · have hb1 : decide (Dn < Dp) = false := decide_eq_false hlt
                by_cases heq : Dn = Dp
                · have hb2 : (Dn == Dp) = true := by simpa using heq
                  obtain ⟨la, hla⟩ : ∃ la, len2 dx dy = la := ⟨_, rfl⟩
                  obtain ⟨lb, hlb⟩ : ∃ lb, len2 p q = lb := ⟨_, rfl⟩
                  have la1 := len2_bd (unhide hM)
                  have lb1 := len2_bd (unhide hMp)
                  rw [hla] at la1
                  rw [hlb] at lb1
                  have ca60 := hide (show ∀ w', Calls Try.prog 26 #[mvv dx dy] w' fun e w'' => e = .returned (.int .i64 la) ∧ Below w'.heap.size w' w'' from fun w' => by rw [← hla]; exact len_any dx dy w' (unhide hM))
                  have cb60 := hide (show ∀ w', Calls Try.prog 26 #[mvv p q] w' fun e w'' => e = .returned (.int .i64 lb) ∧ Below w'.heap.size w' w'' from fun w' => by rw [← hlb]; exact len_any p q w' (unhide hMp))
                  have hcl : decide (la < lb) = c := by
                    rw [Bool.eq_iff_iff, decide_eq_true_iff, unhide hc', ← hla, ← hlb]
                    constructor
                    · intro h; exact Or.inr ⟨heq, h⟩
                    · intro h; rcases h with h | h
                      · exact absurd h hlt
                      · exact h.2
                  have hall : Hid (w7.cell? ⟨Bn, 0, none⟩ = some (.int .i64 dx) ∧ w7.cell? ⟨Bn, 1, none⟩ = some (.int .i64 dy) ∧ w7.cell? ⟨B8, 0, none⟩ = some (.int .i64 p) ∧ w7.cell? ⟨B8, 1, none⟩ = some (.int .i64 q) ∧ Below w7.heap.size w7 w7) := hide ⟨(unhide N).cells.1, (unhide N).cells.2, (unhide Bs).cells.1, (unhide Bs).cells.2, Below.refl _ _⟩
                  clear hla hlb heq
                  go_region_held3 (fun w' => w'.cell? ⟨Bn, 0, none⟩ = some (.int .i64 dx) ∧ w'.cell? ⟨Bn, 1, none⟩ = some (.int .i64 dy) ∧ w'.cell? ⟨B8, 0, none⟩ = some (.int .i64 p) ∧ w'.cell? ⟨B8, 1, none⟩ = some (.int .i64 q) ∧ Below w7.heap.size w7 w')
                    (first | (with_reducible refine keepZ ?_ hbk; with_reducible assumption) | (with_reducible exact keepZd (unhide hall)))
                    ((first
                      | (go_at_call 26
                         with_reducible refine (unhide ca60 _).mono ?_
                         rintro e w8 ⟨rfl, hbk⟩)
                      | (go_at_call 26
                         with_reducible refine (unhide cb60 _).mono ?_
                         rintro e w8 ⟨rfl, hbk⟩)))
                  all_goals
                    have hH : SZw w7 Bn B8 dx dy p q _ := ‹_›
                    go_wp2
                    go_meet
                    exact ⟨by first | rfl | rw [hcl], hide hH.2.2.2.2⟩
                · have hb2 : (Dn == Dp) = false := by simpa using heq
                  have hct : c = false := by
                    cases c with
                    | false => rfl
                    | true => rcases (unhide hc').1 rfl with h | h
                              · exact absurd h hlt
                              · exact absurd h.1 heq
                  subst hct
                  go_quiet (fail)
                  go_wp2
                  go_meet
                  exact ⟨rfl, hide (below_drewN (Below.refl _ _) _)⟩
            case rest =>
              obtain ⟨h56, hbc⟩ := hcut
              subst h56
              have Bs := hide ((unhide Bs).later (unhide hbc))
              have P := hide ((unhide P).later (unhide hbc))
              have R := hide ((unhide R).later (unhide hbc))
              have X := hide ((unhide X).later (unhide hbc))
              have N := hide ((unhide N).later (unhide hbc))
              have Bw := hide (laterB (unhide Bw) (unhide hbc))
              clear hbc
              cases c with
              | true =>
                have hI := hide (ibest_take (unhide hI) (unhide hM) (by have := (unhide hc').1 rfl; rw [unhide hDn1', unhide hDp1']; exact this))
                obtain ⟨e0, e1⟩ := (unhide N).cells
                obtain ⟨f0, f1⟩ := (unhide Bs).cells
                have fz := (unhide Bs).fz
                go_wp2
                go_roundw
                case rel => exact ⟨dx + 1, dx, dy, by omega, by omega, rfl, by rw [unhide hDn1'], hI, hide ((unhide Bs).set dx dy), hide (((unhide P).ne (by omega)).ne (by omega)), hide (((unhide R).ne (by omega)).ne (by omega)), hide (((unhide X).ne (by omega)).ne (by omega)), hide (below_set (below_set (unhide Bw) (by omega)) (by omega))⟩
                case measure => simp [intOf]; omega
              | false =>
                have hI := hide (ibest_keep (unhide hI) (unhide hM) (by intro h; rw [unhide hDn1', unhide hDp1'] at h; have := (unhide hc').2 h; cases this))
                go_wp2
                go_roundw
                case rel => exact ⟨dx + 1, p, q, by omega, by omega, rfl, by rw [unhide hDp1'], hI, Bs, P, R, X, Bw⟩
                case measure => simp [intOf]; omega
          · have hxe : dx = 3 := by omega
            subst hxe
            have hI := hide (ibest_row (unhide hI))
            go_wp2
            go_roundw
            case rel => exact ⟨dy + 1, p, q, by omega, by omega, rfl, rfl, hI, Bs, P, R, X, Bw⟩
            case measure => simp [intOf]; omega
      · have hye : dy = 3 := by omega
        subst hye
        obtain ⟨c0, c1⟩ := (unhide Bs).cells
        obtain ⟨d0, d1⟩ := (unhide R).cells
        have fz := (unhide R).fz
        go_wp2
        have P9 := (unhide R).set p q
        have Q9 := below_set (b := B0 + 1 + 1) (o := 1) (v := .int .i64 q) (below_set (b := B0 + 1 + 1) (o := 0) (v := .int .i64 p) (unhide Bw) (by omega)) (by omega)
        clear c0 c1 d0 d1 fz
        generalize (wr.setCell ⟨B0 + 1 + 1, 0, none⟩ (.int .i64 p)).setCell ⟨B0 + 1 + 1, 1, none⟩ (.int .i64 q) = W9 at *
        obtain ⟨c0, c1⟩ := P9.cells
        exact bodyPost_ret (v := mvv p q) (by simp [results, Try.results15, go_sem, c0, c1]) rfl ⟨p, q, rfl, ibest_end (unhide hI), Q9⟩

end Go.Proofs.Ytdppnjafkbopiaa
