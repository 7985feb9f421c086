/-
  The fault of an error: its contract.
-/
import Derived.Test.YtfhbmfndjbdhcaaGreatDoorEAz
import Derived.Test.YtfhbmfndjbdhcaaGreatDoorIRead
namespace Go.Proofs.YtfhbmfndjbdhcaaGreatDoor
open Go.RowKit
set_option linter.unusedVariables false
set_option linter.unusedSimpArgs false

/-- all that was there stands, but for one block; nothing below B is turned -/
structure KpB (B tb : Nat) (w0 w w' : World) : Prop where
  low : Below B w0 w'
  size : w.heap.size ≤ w'.heap.size
  block : ∀ k, k < w.heap.size → k ≠ tb → w'.heap[k]? = w.heap[k]?
theorem KpB.of {B tb : Nat} {w0 w X : World} (hB : B ≤ w.heap.size) (kb : Below B w0 w) (h : Below w.heap.size w X) : KpB B tb w0 w X := ⟨kb.trans (h.mono hB), h.size, fun k hk _ => h.block k hk⟩
theorem KpB.set {B tb q : Nat} {w0 w X : World} {v : Value} (h : KpB B tb w0 w X) (hB : B ≤ tb) : KpB B tb w0 w (X.setCell ⟨tb, q, none⟩ v) :=
  ⟨h.low.setCell (p := ⟨tb, q, none⟩) hB _, Nat.le_trans h.size (by simp), fun k hk hne => by rw [Below.heap_setCell _ _ _ _ hne]; exact h.block k hk hne⟩
theorem blk1 {X : World} {b : Nat} {t : TypeId} {v0 : Value} (h : X.heap[b]? = some (.cells #[v0] t (0, 0))) : X.cell? ⟨b, 0, none⟩ = some v0 := by simp [World.cell?, h]
theorem blk2 {X : World} {b : Nat} {t : TypeId} {v0 v1 : Value} (h : X.heap[b]? = some (.cells #[v0, v1] t (0, 0))) : X.cell? ⟨b, 0, none⟩ = some v0 ∧ X.cell? ⟨b, 1, none⟩ = some v1 := by
  refine ⟨?_, ?_⟩ <;> simp [World.cell?, h]
theorem put1 {X : World} {b : Nat} {t : TypeId} {v0 v : Value} (h : X.heap[b]? = some (.cells #[v0] t (0, 0))) : (X.setCell ⟨b, 0, none⟩ v).heap[b]? = some (.cells #[v] t (0, 0)) := by
  simp [World.setCell, h, Array.getElem?_modify]
theorem put2 {X : World} {b : Nat} {t : TypeId} {v0 v1 u0 u1 : Value} (h : X.heap[b]? = some (.cells #[v0, v1] t (0, 0))) : ((X.setCell ⟨b, 0, none⟩ u0).setCell ⟨b, 1, none⟩ u1).heap[b]? = some (.cells #[u0, u1] t (0, 0)) := by
  simp [World.setCell, h, Array.getElem?_modify]
theorem al3 (w : World) (a b c : Obj) : Below w.heap.size w (((w.alloc a).alloc b).alloc c) := (((Below.refl _ w).alloc (Nat.le_refl _) _).alloc (by simp) _).alloc (by simp; omega) _
theorem al4 (w : World) (a b c d : Obj) : Below w.heap.size w ((((w.alloc a).alloc b).alloc c).alloc d) := (al3 w a b c).alloc (by simp; omega) _
theorem al5 (w : World) (a b c d e : Obj) : Below w.heap.size w (((((w.alloc a).alloc b).alloc c).alloc d).alloc e) := (al4 w a b c d).alloc (by simp; omega) _

theorem as_codeB (c : Int) (B tb : Nat) (old : Value) (w0 w : World) (hg : ErrT w) (hB : B ≤ tb) (kb : Below B w0 w) (ht : w.heap[tb]? = some (.cells #[old] 92 (0, 0))) :
    Calls Tryz.prog 57 #[.iface 92 (.int .i64 c), .iface 107 (.pointer (some ⟨tb, 0, none⟩))] w fun e w' => e = .returned (.bool true) ∧ w'.heap[tb]? = some (.cells #[.int .i64 c] 92 (0, 0)) ∧ KpB B tb w0 w w' := by
  have hlt : tb < w.heap.size := (Array.getElem?_eq_some_iff.1 ht).1
  refine (as_code c tb old w hg (blk1 ht) (Lib.frozen_of_heap ht _)).mono ?_
  rintro e w' ⟨rfl, rfl⟩
  exact ⟨rfl, put1 (blk_below ht (al4 w _ _ _ _)), (KpB.of (by omega) kb (al4 w _ _ _ _)).set hB⟩
theorem as_code_lineB (n c : Int) (B tb : Nat) (old : Value) (w0 w : World) (hg : ErrT w) (hB : B ≤ tb) (kb : Below B w0 w) (ht : w.heap[tb]? = some (.cells #[old] 92 (0, 0))) :
    Calls Tryz.prog 57 #[.iface 105 (.agg #[.int .i64 n, .iface 92 (.int .i64 c)]), .iface 107 (.pointer (some ⟨tb, 0, none⟩))] w fun e w' => e = .returned (.bool true) ∧ w'.heap[tb]? = some (.cells #[.int .i64 c] 92 (0, 0)) ∧ KpB B tb w0 w w' := by
  have hlt : tb < w.heap.size := (Array.getElem?_eq_some_iff.1 ht).1
  refine (as_code_line n c tb old w hg (blk1 ht) (Lib.frozen_of_heap ht _)).mono ?_
  rintro e w' ⟨rfl, rfl⟩
  exact ⟨rfl, put1 (blk_below ht (al5 w _ _ _ _ _)), (KpB.of (by omega) kb (al5 w _ _ _ _ _)).set hB⟩
theorem as_lineB (n c : Int) (B tb : Nat) (o0 o1 : Value) (w0 w : World) (hg : ErrT w) (hB : B ≤ tb) (kb : Below B w0 w) (ht : w.heap[tb]? = some (.cells #[o0, o1] 105 (0, 0))) :
    Calls Tryz.prog 57 #[.iface 105 (.agg #[.int .i64 n, .iface 92 (.int .i64 c)]), .iface 108 (.pointer (some ⟨tb, 0, none⟩))] w fun e w' => e = .returned (.bool true) ∧ w'.heap[tb]? = some (.cells #[.int .i64 n, .iface 92 (.int .i64 c)] 105 (0, 0)) ∧ KpB B tb w0 w w' := by
  have hlt : tb < w.heap.size := (Array.getElem?_eq_some_iff.1 ht).1
  refine (as_line n c tb o0 o1 w hg (blk2 ht).1 (Lib.frozen_of_heap ht _) (blk2 ht).2 (Lib.frozen_of_heap ht _)).mono ?_
  rintro e w' ⟨rfl, rfl⟩
  exact ⟨rfl, put2 (blk_below ht (al4 w _ _ _ _)), ((KpB.of (by omega) kb (al4 w _ _ _ _)).set hB).set hB⟩
theorem as_noneB (c : Int) (B tb : Nat) (o0 o1 : Value) (w0 w : World) (hg : ErrT w) (hB : B ≤ tb) (kb : Below B w0 w) (ht : w.heap[tb]? = some (.cells #[o0, o1] 105 (0, 0))) :
    Calls Tryz.prog 57 #[.iface 92 (.int .i64 c), .iface 108 (.pointer (some ⟨tb, 0, none⟩))] w fun e w' => e = .returned (.bool false) ∧ KpB B tb w0 w w' := by
  have hlt : tb < w.heap.size := (Array.getElem?_eq_some_iff.1 ht).1
  refine (as_none c tb o0 w hg (blk2 ht).1).mono ?_
  rintro e w' ⟨rfl, rfl⟩
  exact ⟨rfl, KpB.of (by omega) kb (al3 w _ _ _)⟩

theorem mem4 (w : World) (a b c d : Obj) : ((((w.alloc a).alloc b).alloc c).alloc d).heap[w.heap.size]? = some a ∧ ((((w.alloc a).alloc b).alloc c).alloc d).heap[w.heap.size + 1]? = some b ∧ ((((w.alloc a).alloc b).alloc c).alloc d).heap[w.heap.size + 1 + 1]? = some c ∧ ((((w.alloc a).alloc b).alloc c).alloc d).heap[w.heap.size + 1 + 1 + 1]? = some d := by
  refine ⟨?_, ?_, ?_, ?_⟩
  · rw [Below.heap_alloc _ _ _ (by simp only [World.alloc, Array.size_push]; omega), Below.heap_alloc _ _ _ (by simp only [World.alloc, Array.size_push]; omega), Below.heap_alloc _ _ _ (by simp only [World.alloc, Array.size_push]; omega)]; exact alloc_new _ _
  · rw [Below.heap_alloc _ _ _ (by simp only [World.alloc, Array.size_push]; omega), Below.heap_alloc _ _ _ (by simp only [World.alloc, Array.size_push]; omega)]
    have := alloc_new (w.alloc a) b
    simpa using this
  · rw [Below.heap_alloc _ _ _ (by simp)]
    have := alloc_new ((w.alloc a).alloc b) c
    simpa using this
  · have := alloc_new (((w.alloc a).alloc b).alloc c) d
    simpa using this

set_option maxRecDepth 100000 in
set_option maxHeartbeats 1000000 in
theorem fault_code (c : Int) (w : World) (hg : ErrT w) :
    Calls Tryz.prog 31 #[.iface 92 (.int .i64 c)] w fun e w' => e = .returned (.agg #[.int .i64 c, .int .i64 0]) ∧ Below w.heap.size w w' := by
  have hk := hide hg
  clear hg
  obtain ⟨b1, b2, b3, b4⟩ := mem4 w (.cells #[.int .i64 0, .int .i64 0] 31) (.cells #[.int .i64 0, .int .i64 0] 31) (.cells #[.int .i64 0] 92) (.cells #[.int .i64 0, .nilIface] 105)
  have kb := al4 w (.cells #[.int .i64 0, .int .i64 0] 31) (.cells #[.int .i64 0, .int .i64 0] 31) (.cells #[.int .i64 0] 92) (.cells #[.int .i64 0, .nilIface] 105)
  go_enter Tryz.func31, Tryz.ntmps31
  go_wp2_with fail
  generalize (((w.alloc (.cells #[.int .i64 0, .int .i64 0] 31)).alloc (.cells #[.int .i64 0, .int .i64 0] 31)).alloc (.cells #[.int .i64 0] 92)).alloc (.cells #[.int .i64 0, .nilIface] 105) = w1 at *
  generalize hQ0 : w.heap.size = Q0 at *
  generalize hQ1 : Q0 + 1 = Q1 at *
  generalize hQ2 : Q1 + 1 = Q2 at *
  generalize hQ3 : Q2 + 1 = Q3 at *
  have hz1 : Q3 < w1.heap.size := (Array.getElem?_eq_some_iff.1 b4).1
  refine (as_codeB c Q0 Q2 _ w w1 (cell_later (by rw [hQ0]; exact kb) (unhide hk)) (by omega) kb b3).mono ?_
  rintro e w2 ⟨rfl, c3, kp2⟩
  have c1 := (kp2.block Q0 (by omega) (by omega)).trans b1
  have c2 := (kp2.block Q1 (by omega) (by omega)).trans b2
  have c4 := (kp2.block Q3 (by omega) (by omega)).trans b4
  have kb2 := kp2.low
  have hz2 : Q3 < w2.heap.size := (Array.getElem?_eq_some_iff.1 c4).1
  have u3 := blk1 c3
  obtain ⟨u20, u21⟩ := blk2 c2
  have f20 := Lib.frozen_of_heap c2 (⟨Q1, 0, none⟩ : Addr).off
  clear kp2 b1 b2 b3 b4 kb
  go_wp2_with fail
  have d1 := set_blk (q := Q1) (o := 0) (v := .int .i64 c) c1 (by omega)
  have d2 : (w2.setCell ⟨Q1, 0, none⟩ (.int .i64 c)).heap[Q1]? = some (.cells #[.int .i64 c, .int .i64 0] 31 (0, 0)) := by simp [World.setCell, c2, Array.getElem?_modify]
  have d4 := set_blk (q := Q1) (o := 0) (v := .int .i64 c) c4 (by omega)
  have kb3 := kb2.setCell (p := ⟨Q1, 0, none⟩) (show Q0 ≤ Q1 by omega) (.int .i64 c)
  clear c1 c2 c3 c4 kb2 u3 u20 u21 f20
  generalize w2.setCell ⟨Q1, 0, none⟩ (.int .i64 c) = w3 at *
  have hz3 : Q3 < w3.heap.size := (Array.getElem?_eq_some_iff.1 d4).1
  refine (as_noneB c Q0 Q3 _ _ w w3 (cell_later (by rw [hQ0]; exact kb3) (unhide hk)) (by omega) kb3 d4).mono ?_
  rintro e w4 ⟨rfl, kp4⟩
  have e1 := (kp4.block Q0 (by omega) (by omega)).trans d1
  have e2 := (kp4.block Q1 (by omega) (by omega)).trans d2
  have kb4 := kp4.low
  obtain ⟨x0, x1⟩ := blk2 e2
  obtain ⟨v0, v1⟩ := blk2 e1
  have g0 : w4.frozen? ⟨Q0, 0, none⟩ = false := Lib.frozen_of_heap e1 _
  have g1 : w4.frozen? ⟨Q0, 1, none⟩ = false := Lib.frozen_of_heap e1 _
  clear kp4 d1 d2 d4 kb3
  go_wp2
  have z9 := put2 (u0 := .int .i64 c) (u1 := .int .i64 0) e1
  have kb9 := (kb4.setCell (p := ⟨Q0, 0, none⟩) (Nat.le_refl Q0) (.int .i64 c)).setCell (p := ⟨Q0, 1, none⟩) (Nat.le_refl Q0) (.int .i64 0)
  clear v0 v1 g0 g1 x0 x1 e1 e2 kb4
  generalize (w4.setCell ⟨Q0, 0, none⟩ (.int .i64 c)).setCell ⟨Q0, 1, none⟩ (.int .i64 0) = w9 at *
  obtain ⟨o0, o1⟩ := blk2 z9
  refine bodyPost_ret (v := .agg #[.int .i64 c, .int .i64 0]) (by simp [results, Tryz.results31, go_sem, o0, o1]) rfl ?_
  exact ⟨rfl, by rw [hQ0]; exact kb9⟩

set_option maxRecDepth 100000 in
set_option maxHeartbeats 1000000 in
theorem fault_line (n c : Int) (w : World) (hg : ErrT w) :
    Calls Tryz.prog 31 #[.iface 105 (.agg #[.int .i64 n, .iface 92 (.int .i64 c)])] w fun e w' => e = .returned (.agg #[.int .i64 c, .int .i64 n]) ∧ Below w.heap.size w w' := by
  have hk := hide hg
  clear hg
  obtain ⟨b1, b2, b3, b4⟩ := mem4 w (.cells #[.int .i64 0, .int .i64 0] 31) (.cells #[.int .i64 0, .int .i64 0] 31) (.cells #[.int .i64 0] 92) (.cells #[.int .i64 0, .nilIface] 105)
  have kb := al4 w (.cells #[.int .i64 0, .int .i64 0] 31) (.cells #[.int .i64 0, .int .i64 0] 31) (.cells #[.int .i64 0] 92) (.cells #[.int .i64 0, .nilIface] 105)
  go_enter Tryz.func31, Tryz.ntmps31
  go_wp2_with fail
  generalize (((w.alloc (.cells #[.int .i64 0, .int .i64 0] 31)).alloc (.cells #[.int .i64 0, .int .i64 0] 31)).alloc (.cells #[.int .i64 0] 92)).alloc (.cells #[.int .i64 0, .nilIface] 105) = w1 at *
  generalize hQ0 : w.heap.size = Q0 at *
  generalize hQ1 : Q0 + 1 = Q1 at *
  generalize hQ2 : Q1 + 1 = Q2 at *
  generalize hQ3 : Q2 + 1 = Q3 at *
  have hz1 : Q3 < w1.heap.size := (Array.getElem?_eq_some_iff.1 b4).1
  refine (as_code_lineB n c Q0 Q2 _ w w1 (cell_later (by rw [hQ0]; exact kb) (unhide hk)) (by omega) kb b3).mono ?_
  rintro e w2 ⟨rfl, c3, kp2⟩
  have c1 := (kp2.block Q0 (by omega) (by omega)).trans b1
  have c2 := (kp2.block Q1 (by omega) (by omega)).trans b2
  have c4 := (kp2.block Q3 (by omega) (by omega)).trans b4
  have kb2 := kp2.low
  have hz2 : Q3 < w2.heap.size := (Array.getElem?_eq_some_iff.1 c4).1
  have u3 := blk1 c3
  obtain ⟨u20, u21⟩ := blk2 c2
  have f20 := Lib.frozen_of_heap c2 (⟨Q1, 0, none⟩ : Addr).off
  clear kp2 b1 b2 b3 b4 kb
  go_wp2_with fail
  have d1 := set_blk (q := Q1) (o := 0) (v := .int .i64 c) c1 (by omega)
  have d2 : (w2.setCell ⟨Q1, 0, none⟩ (.int .i64 c)).heap[Q1]? = some (.cells #[.int .i64 c, .int .i64 0] 31 (0, 0)) := by simp [World.setCell, c2, Array.getElem?_modify]
  have d4 := set_blk (q := Q1) (o := 0) (v := .int .i64 c) c4 (by omega)
  have kb3 := kb2.setCell (p := ⟨Q1, 0, none⟩) (show Q0 ≤ Q1 by omega) (.int .i64 c)
  clear c1 c2 c3 c4 kb2 u3 u20 u21 f20
  generalize w2.setCell ⟨Q1, 0, none⟩ (.int .i64 c) = w3 at *
  have hz3 : Q3 < w3.heap.size := (Array.getElem?_eq_some_iff.1 d4).1
  refine (as_lineB n c Q0 Q3 _ _ w w3 (cell_later (by rw [hQ0]; exact kb3) (unhide hk)) (by omega) kb3 d4).mono ?_
  rintro e w4 ⟨rfl, e4, kp4⟩
  have e1 := (kp4.block Q0 (by omega) (by omega)).trans d1
  have e2 := (kp4.block Q1 (by omega) (by omega)).trans d2
  have kb4 := kp4.low
  obtain ⟨y0, y1⟩ := blk2 e4
  obtain ⟨x0, x1⟩ := blk2 e2
  obtain ⟨v0, v1⟩ := blk2 e1
  have g0 : w4.frozen? ⟨Q0, 0, none⟩ = false := Lib.frozen_of_heap e1 _
  have g1 : w4.frozen? ⟨Q0, 1, none⟩ = false := Lib.frozen_of_heap e1 _
  have g2 : w4.frozen? ⟨Q1, 1, none⟩ = false := Lib.frozen_of_heap e2 _
  have hne : Q0 ≠ Q1 := by omega
  have hne' : Q1 ≠ Q0 := by omega
  clear kp4 d1 d2 d4 kb3
  go_wp2
  have z8 := set_blk (q := Q1) (o := 1) (v := .int .i64 n) e1 hne
  have kb8 := kb4.setCell (p := ⟨Q1, 1, none⟩) (show Q0 ≤ Q1 by omega) (.int .i64 n)
  have z9 := put2 (u0 := .int .i64 c) (u1 := .int .i64 n) z8
  have kb9 := (kb8.setCell (p := ⟨Q0, 0, none⟩) (Nat.le_refl Q0) (.int .i64 c)).setCell (p := ⟨Q0, 1, none⟩) (Nat.le_refl Q0) (.int .i64 n)
  clear v0 v1 g0 g1 g2 x0 x1 e1 e2 kb4 e4 y0 y1 z8 kb8
  generalize ((w4.setCell ⟨Q1, 1, none⟩ (.int .i64 n)).setCell ⟨Q0, 0, none⟩ (.int .i64 c)).setCell ⟨Q0, 1, none⟩ (.int .i64 n) = w9 at *
  obtain ⟨o0, o1⟩ := blk2 z9
  refine bodyPost_ret (v := .agg #[.int .i64 c, .int .i64 n]) (by simp [results, Tryz.results31, go_sem, o0, o1]) rfl ?_
  exact ⟨rfl, by rw [hQ0]; exact kb9⟩
end Go.Proofs.YtfhbmfndjbdhcaaGreatDoor
