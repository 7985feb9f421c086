/-
  Contracts of the model's drawn arguments of TimeText and of FrameIn, over bytes that came in: each answers rates and a frame, and writes nothing that was there.
-/
import Derived.Test.YtffibbcombjkcaaDraw3
import Derived.Test.YtffibbcombjkcaaFin
namespace Go.Proofs.Ytffibbcombjkcaa
open Go.RowKit
set_option linter.unusedVariables false

theorem RdB.wider {w w1 : World} {B B' : Nat} {a : Option Addr} {len : Nat} (h : RdB w B a len) (hB : B ≤ B') (hw : B ≤ w.heap.size) (hb : Below w.heap.size w w1) : RdB w1 B' a len := by
  intro j hj
  obtain ⟨b, o, z, e, hlt, hc, h0, h1⟩ := h j hj
  exact ⟨b, o, z, e, by omega, (hb.cell (p := ⟨b, o + j, none⟩) (by show b < _; omega)).trans hc, h0, h1⟩
theorem below_grown2 {w w1 w2 : World} {g B : Nat} (h : Below B w w1) (hg : w1.grownBy w2 (some g)) (hB : B ≤ g) (hs : B ≤ w1.heap.size) : Below B w w2 :=
  h.trans ⟨hg.os, hg.tape, hg.output, hg.size, fun k hk => hg.block k (by omega) (by intro e; have := Option.some.inj e; omega)⟩
theorem drate_dr {B g : Nat} {a : Option Addr} {len cap : Nat} {w wX : World} (hB : B ≤ g) (hl : len ≤ 9223372036854775807) (h : Hid (Dr B g a len cap w wX)) :
    Calls Try.prog 28 #[.pointer (some ⟨g, 0, none⟩)] wX fun e w' => ∃ n d dr, e = .returned (.agg #[.int .i64 n, .int .i64 d, .bool dr]) ∧ Hid (Dr B g a len cap w w') ∧ Oth g wX w' ∧ (∀ b o, b < wX.heap.size → b ≠ g → w'.frozen? ⟨b, o, none⟩ = wX.frozen? ⟨b, o, none⟩) :=
  (drate_any B g a len cap wX hB hl h.1 h.2.1).mono fun e w' ⟨n, d, dr, he, k, gr⟩ => ⟨n, d, dr, he, Dr.next h hB k gr, oth_of gr h.1.lt, (gcell gr).2⟩
theorem dframe_dr {B g : Nat} {a : Option Addr} {len cap : Nat} {w wX : World} (n d : Int) (dr : Bool) (hB : B ≤ g) (hl : len ≤ 9223372036854775807) (h : Hid (Dr B g a len cap w wX)) :
    Calls Try.prog 29 #[.pointer (some ⟨g, 0, none⟩), .agg #[.int .i64 n, .int .i64 d, .bool dr]] wX fun e w' => ∃ f, e = .returned (.int .i64 f) ∧ Hid (Dr B g a len cap w w') ∧ Oth g wX w' ∧ (∀ b o, b < wX.heap.size → b ≠ g → w'.frozen? ⟨b, o, none⟩ = wX.frozen? ⟨b, o, none⟩) :=
  (dframe_any B g a len cap n d dr wX hB hl h.1 h.2.1).mono fun e w' ⟨f, he, k, gr⟩ => ⟨f, he, Dr.next h hB k gr, oth_of gr h.1.lt, (gcell gr).2⟩

theorem ne_blk {b c i j : Nat} (h : b ≠ c) : (⟨b, i, none⟩ : Addr) ≠ ⟨c, j, none⟩ := by intro e; injection e with e1 _ _; exact h e1
theorem set3_other {X : World} {b c j : Nat} {v0 v1 v2 : Value} (h : b ≠ c) : (((X.setCell ⟨b, 0, none⟩ v0).setCell ⟨b, 1, none⟩ v1).setCell ⟨b, 2, none⟩ v2).cell? ⟨c, j, none⟩ = X.cell? ⟨c, j, none⟩ := by
  rw [World.cell?_setCell_other _ _ _ _ (ne_blk h), World.cell?_setCell_other _ _ _ _ (ne_blk h), World.cell?_setCell_other _ _ _ _ (ne_blk h)]

set_option maxRecDepth 100000 in
set_option maxHeartbeats 1600000 in
theorem dtime_any (a : Option Addr) (len cap : Nat) (w : World) (hl2 : len ≤ 1000000) (hr : RdB w w.heap.size a len) :
    Calls Try.prog 12 #[.slice a len cap] w fun e w' => ∃ n d dr f, e = .returned (.tuple #[.agg #[.int .i64 n, .int .i64 d, .bool dr], .int .i64 f]) ∧ Below w.heap.size w w' := by
  have hl : len ≤ 9223372036854775807 := by omega
  have hr' := hide hr
  clear hr
  go_enter Try.func12, Try.ntmps12
  go_wp2_with fail
  refine (new_any a len cap _ hl hl2 ((unhide hr').wider (by simp) (Nat.le_refl _) (below1 w _))).mono ?_
  rintro e w1 ⟨g, rfl, hg, hc, hb1⟩
  have hgw : w.heap.size < g := by simp at hg; omega
  have hg1 := hc.lt
  have k1 : Below w.heap.size w w1 := below_box hb1
  have h1 : Hid (Dr w.heap.size g a len cap w1 w1) := hide ⟨hc, (unhide hr').wider (Nat.le_refl _) (Nat.le_refl _) k1, World.grownBy.refl _ _⟩
  have hc1 := (bcell hb1).1
  have hf1 := (bcell hb1).2
  have z1 : w.heap.size < w1.heap.size := by omega
  have nw : w.heap.size ≠ g := by omega
  clear hc
  go_wp2_with fail
  refine (drate_dr (Nat.le_of_lt hgw) hl h1).mono ?_
  rintro e w2 ⟨n, d, dr, rfl, h2, ⟨p2, s2, n2⟩, u2⟩
  have h2a : Hid (Dr w.heap.size g a len cap w1 (w2.alloc (.cells #[.int .i64 n, .int .i64 d, .bool dr] 25))) := dr_alloc (Nat.le_of_lt hgw) h2
  have h2d := dr_drew (Nat.le_of_lt hgw) h2a
  have z2 : w.heap.size < w2.heap.size := s2 _ z1
  have nv : w2.heap.size ≠ w.heap.size := by omega
  have nv' : w.heap.size ≠ w2.heap.size := by omega
  have z2a : w.heap.size < w2.heap.size + 1 := by omega
  go_wp2_with fail
  go_region_held3 (fun w' => w'.cell? ⟨w2.heap.size, 0, none⟩ = some (.int .i64 n) ∧ w'.cell? ⟨w2.heap.size, 1, none⟩ = some (.int .i64 d) ∧ w'.cell? ⟨w2.heap.size, 2, none⟩ = some (.bool dr))
    (go_keep)
    (first | (go_at_call 29; refine (dframe_dr n d dr (Nat.le_of_lt hgw) hl h2d).mono ?_; rintro e w3 ⟨f, rfl, h3, ⟨p3, s3, n3⟩, u3⟩))
  go_wp2
  have b0 : w3.cell? ⟨w.heap.size, 0, none⟩ = some (.int .i64 0) := by rw [p3 _ _ (by simp; omega) nw]; show (w2.alloc _).cell? _ = _; rw [World.cell?_alloc_past _ _ _ z2, p2 _ _ z1 nw, hc1 _ _ (by simp)]; simp
  have b1 : w3.cell? ⟨w.heap.size, 1, none⟩ = some (.int .i64 0) := by rw [p3 _ _ (by simp; omega) nw]; show (w2.alloc _).cell? _ = _; rw [World.cell?_alloc_past _ _ _ z2, p2 _ _ z1 nw, hc1 _ _ (by simp)]; simp
  have b2 : w3.cell? ⟨w.heap.size, 2, none⟩ = some (.bool false) := by rw [p3 _ _ (by simp; omega) nw]; show (w2.alloc _).cell? _ = _; rw [World.cell?_alloc_past _ _ _ z2, p2 _ _ z1 nw, hc1 _ _ (by simp)]; simp
  obtain ⟨y0, y1, y2⟩ := F_cells (X := w3) (b := w.heap.size) (v0 := .int .i64 n) (v1 := .int .i64 d) (v2 := .bool dr) b0 b1 b2
  have k3 : Below w.heap.size w w3 := below_grown2 k1 (unhide h3).2.2 (Nat.le_of_lt hgw) (Nat.le_of_lt z1)
  exact bodyPost_ret (v := .tuple #[.agg #[.int .i64 n, .int .i64 d, .bool dr], .int .i64 f]) (by simp [results, Try.results12, go_sem, y0, y1, y2]) rfl ⟨n, d, dr, f, rfl, ((k3.setCell (Nat.le_refl _) _).setCell (Nat.le_refl _) _).setCell (Nat.le_refl _) _⟩

set_option maxRecDepth 100000 in
set_option maxHeartbeats 3200000 in
theorem dfin_any (a : Option Addr) (len cap : Nat) (w : World) (hl2 : len ≤ 1000000) (hr : RdB w w.heap.size a len) :
    Calls Try.prog 16 #[.slice a len cap] w fun e w' => ∃ n d dr m e' ds f, e = .returned (.tuple #[.agg #[.int .i64 n, .int .i64 d, .bool dr], .agg #[.int .i64 m, .int .i64 e', .bool ds], .int .i64 f]) ∧ Below w.heap.size w w' := by
  have hl : len ≤ 9223372036854775807 := by omega
  have hr' := hide hr
  clear hr
  go_enter Try.func16, Try.ntmps16
  go_wp2_with fail
  refine (new_any a len cap _ hl hl2 ((unhide hr').wider (by simp; omega) (Nat.le_refl _) (below2 w _ _))).mono ?_
  rintro e w1 ⟨g, rfl, hg, hc, hb1⟩
  have hgw : w.heap.size + 1 < g := by simp at hg; omega
  have hgl : w.heap.size ≤ g := by omega
  have hg1 := hc.lt
  have k1 : Below w.heap.size w w1 := below_box2 hb1
  have h1 : Hid (Dr w.heap.size g a len cap w1 w1) := hide ⟨hc, (unhide hr').wider (Nat.le_refl _) (Nat.le_refl _) k1, World.grownBy.refl _ _⟩
  have hc1 := (bcell hb1).1
  have hf1 := (bcell hb1).2
  have z1 : w.heap.size < w1.heap.size := by omega
  have z1' : w.heap.size + 1 < w1.heap.size := by omega
  have nw : w.heap.size ≠ g := by omega
  have nw' : w.heap.size + 1 ≠ g := by omega
  clear hc
  go_wp2_with fail
  refine (drate_dr hgl hl h1).mono ?_
  rintro e w2 ⟨n, d, dr, rfl, h2, ⟨p2, s2, n2⟩, u2⟩
  have h2a : Hid (Dr w.heap.size g a len cap w1 (w2.alloc (.cells #[.int .i64 n, .int .i64 d, .bool dr] 25))) := dr_alloc hgl h2
  have z2 : w.heap.size < w2.heap.size := s2 _ z1
  have z2' : w.heap.size + 1 < w2.heap.size := s2 _ z1'
  have z2a : w.heap.size < w2.heap.size + 1 := by omega
  have z2b : w.heap.size + 1 < w2.heap.size + 1 := by omega
  go_wp2_with fail
  refine (drate_dr hgl hl h2a).mono ?_
  rintro e w3 ⟨m, e', ds, rfl, h3, ⟨p3, s3, n3⟩, u3⟩
  have h3a : Hid (Dr w.heap.size g a len cap w1 (w3.alloc (.cells #[.int .i64 m, .int .i64 e', .bool ds] 25))) := dr_alloc hgl h3
  have h3d := dr_drew hgl h3a
  have z3 : w.heap.size < w3.heap.size := s3 _ (by simp; omega)
  have z3' : w.heap.size + 1 < w3.heap.size := s3 _ (by simp; omega)
  have z23 : w2.heap.size < w3.heap.size := s3 _ (by simp)
  have z3a : w.heap.size < w3.heap.size + 1 := by omega
  have z3b : w.heap.size + 1 < w3.heap.size + 1 := by omega
  have z3c : w2.heap.size < w3.heap.size + 1 := by omega
  have a1 : w2.heap.size ≠ w.heap.size := by omega
  have a2 : w.heap.size ≠ w2.heap.size := by omega
  have a3 : w3.heap.size ≠ w.heap.size := by omega
  have a4 : w.heap.size ≠ w3.heap.size := by omega
  have a5 : w2.heap.size ≠ w.heap.size + 1 := by omega
  have a6 : w.heap.size + 1 ≠ w2.heap.size := by omega
  have a7 : w3.heap.size ≠ w.heap.size + 1 := by omega
  have a8 : w.heap.size + 1 ≠ w3.heap.size := by omega
  go_wp2_with fail
  go_region_held3 (fun w' => w'.cell? ⟨w2.heap.size, 0, none⟩ = some (.int .i64 n) ∧ w'.cell? ⟨w2.heap.size, 1, none⟩ = some (.int .i64 d) ∧ w'.cell? ⟨w2.heap.size, 2, none⟩ = some (.bool dr) ∧ w'.cell? ⟨w3.heap.size, 0, none⟩ = some (.int .i64 m) ∧ w'.cell? ⟨w3.heap.size, 1, none⟩ = some (.int .i64 e') ∧ w'.cell? ⟨w3.heap.size, 2, none⟩ = some (.bool ds))
    (go_keep)
    (first | (go_at_call 29; refine (dframe_dr n d dr hgl hl h3d).mono ?_; rintro e w4 ⟨f, rfl, h4, ⟨p4, s4, n4⟩, u4⟩))
  go_wp2
  have q : ∀ j, w4.cell? ⟨w.heap.size, j, none⟩ = w1.cell? ⟨w.heap.size, j, none⟩ := fun j => by rw [p4 _ _ (by simp; omega) nw]; show (w3.alloc _).cell? _ = _; rw [World.cell?_alloc_past _ _ _ z3, p3 _ _ (by simp; omega) nw, World.cell?_alloc_past _ _ _ z2, p2 _ _ z1 nw]
  have q' : ∀ j, w4.cell? ⟨w.heap.size + 1, j, none⟩ = w1.cell? ⟨w.heap.size + 1, j, none⟩ := fun j => by rw [p4 _ _ (by simp; omega) nw']; show (w3.alloc _).cell? _ = _; rw [World.cell?_alloc_past _ _ _ z3', p3 _ _ (by simp; omega) nw', World.cell?_alloc_past _ _ _ z2', p2 _ _ z1' nw']
  have b0 : w4.cell? ⟨w.heap.size, 0, none⟩ = some (.int .i64 0) := by rw [q, hc1 _ _ (by simp; omega)]; simp
  have b1 : w4.cell? ⟨w.heap.size, 1, none⟩ = some (.int .i64 0) := by rw [q, hc1 _ _ (by simp; omega)]; simp
  have b2 : w4.cell? ⟨w.heap.size, 2, none⟩ = some (.bool false) := by rw [q, hc1 _ _ (by simp; omega)]; simp
  have c0 : w4.cell? ⟨w.heap.size + 1, 0, none⟩ = some (.int .i64 0) := by rw [q', hc1 _ _ (by simp)]; simp
  have c1 : w4.cell? ⟨w.heap.size + 1, 1, none⟩ = some (.int .i64 0) := by rw [q', hc1 _ _ (by simp)]; simp
  have c2 : w4.cell? ⟨w.heap.size + 1, 2, none⟩ = some (.bool false) := by rw [q', hc1 _ _ (by simp)]; simp
  obtain ⟨y0, y1, y2⟩ := F_cells (X := w4) (b := w.heap.size) (v0 := .int .i64 n) (v1 := .int .i64 d) (v2 := .bool dr) b0 b1 b2
  have o1 : w.heap.size ≠ w.heap.size + 1 := by omega
  obtain ⟨x0, x1, x2⟩ := F_cells (X := ((w4.setCell ⟨w.heap.size, 0, none⟩ (.int .i64 n)).setCell ⟨w.heap.size, 1, none⟩ (.int .i64 d)).setCell ⟨w.heap.size, 2, none⟩ (.bool dr)) (b := w.heap.size + 1) (v0 := .int .i64 m) (v1 := .int .i64 e') (v2 := .bool ds) ((set3_other o1).trans c0) ((set3_other o1).trans c1) ((set3_other o1).trans c2)
  have y0' := (set3_other (v0 := .int .i64 m) (v1 := .int .i64 e') (v2 := .bool ds) (Ne.symm o1)).trans y0
  have y1' := (set3_other (v0 := .int .i64 m) (v1 := .int .i64 e') (v2 := .bool ds) (Ne.symm o1)).trans y1
  have y2' := (set3_other (v0 := .int .i64 m) (v1 := .int .i64 e') (v2 := .bool ds) (Ne.symm o1)).trans y2
  have k3 : Below w.heap.size w w4 := below_grown2 k1 (unhide h4).2.2 hgl (Nat.le_of_lt z1)
  exact bodyPost_ret (v := .tuple #[.agg #[.int .i64 n, .int .i64 d, .bool dr], .agg #[.int .i64 m, .int .i64 e', .bool ds], .int .i64 f]) (by simp [results, Try.results16, go_sem, y0', y1', y2', x0, x1, x2]) rfl ⟨n, d, dr, m, e', ds, f, rfl, (((((k3.setCell (Nat.le_refl _) _).setCell (Nat.le_refl _) _).setCell (Nat.le_refl _) _).setCell (Nat.le_succ _) _).setCell (Nat.le_succ _) _).setCell (Nat.le_succ _) _⟩

end Go.Proofs.Ytffibbcombjkcaa
