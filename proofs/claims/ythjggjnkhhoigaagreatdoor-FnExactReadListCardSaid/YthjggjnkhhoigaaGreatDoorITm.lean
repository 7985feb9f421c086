/-
  The program's times of a line: their contract.
-/
import Derived.Laws.Cover3
import Derived.Test.YthjggjnkhhoigaaGreatDoorBs
import Derived.Test.YthjggjnkhhoigaaGreatDoorIRd
namespace Go.Proofs.YthjggjnkhhoigaaGreatDoor
open Go.RowKit
set_option linter.unusedVariables false
set_option linter.unusedSimpArgs false

theorem blk4 {X : World} {b : Nat} {t : TypeId} {v0 v1 v2 v3 : Value} (h : X.heap[b]? = some (.cells #[v0, v1, v2, v3] t (0, 0))) :
    X.cell? ⟨b, 0, none⟩ = some v0 ∧ X.cell? ⟨b, 1, none⟩ = some v1 ∧ X.cell? ⟨b, 2, none⟩ = some v2 ∧ X.cell? ⟨b, 3, none⟩ = some v3 := by
  refine ⟨?_, ?_, ?_, ?_⟩ <;> simp [World.cell?, h]
theorem blk4f {X : World} {b : Nat} {t : TypeId} {v0 v1 v2 v3 : Value} (h : X.heap[b]? = some (.cells #[v0, v1, v2, v3] t (0, 0))) :
    X.frozen? ⟨b, 0, none⟩ = false ∧ X.frozen? ⟨b, 1, none⟩ = false ∧ X.frozen? ⟨b, 2, none⟩ = false ∧ X.frozen? ⟨b, 3, none⟩ = false := by
  refine ⟨?_, ?_, ?_, ?_⟩ <;> exact Lib.frozen_of_heap h _
theorem put4 {X : World} {q : Nat} {t : TypeId} {a0 a1 a2 a3 v0 v1 v2 v3 : Value} (h : X.heap[q]? = some (.cells #[a0, a1, a2, a3] t (0, 0))) :
    ((((X.setCell ⟨q, 0, none⟩ v0).setCell ⟨q, 1, none⟩ v1).setCell ⟨q, 2, none⟩ v2).setCell ⟨q, 3, none⟩ v3).heap[q]? = some (.cells #[v0, v1, v2, v3] t (0, 0)) := by
  simp [World.setCell, h, Array.getElem?_modify]
theorem set4_belowB {w X : World} {B q : Nat} {v0 v1 v2 v3 : Value} (hb : Below B w X) (h : B ≤ q) :
    Below B w ((((X.setCell ⟨q, 0, none⟩ v0).setCell ⟨q, 1, none⟩ v1).setCell ⟨q, 2, none⟩ v2).setCell ⟨q, 3, none⟩ v3) :=
  (((hb.setCell (p := ⟨q, 0, none⟩) h _).setCell (p := ⟨q, 1, none⟩) h _).setCell (p := ⟨q, 2, none⟩) h _).setCell (p := ⟨q, 3, none⟩) h _
theorem blk6 {X : World} {b : Nat} {t : TypeId} {v0 v1 v2 v3 v4 v5 : Value} (h : X.heap[b]? = some (.cells #[v0, v1, v2, v3, v4, v5] t (0, 0))) :
    X.cell? ⟨b, 0, none⟩ = some v0 ∧ X.cell? ⟨b, 1, none⟩ = some v1 ∧ X.cell? ⟨b, 2, none⟩ = some v2 ∧ X.cell? ⟨b, 3, none⟩ = some v3 ∧ X.cell? ⟨b, 4, none⟩ = some v4 ∧ X.cell? ⟨b, 5, none⟩ = some v5 := by
  refine ⟨?_, ?_, ?_, ?_, ?_, ?_⟩ <;> simp [World.cell?, h]
theorem set_blk {X : World} {b q o : Nat} {v : Value} {ob : Obj} (h : X.heap[b]? = some ob) (hq : b ≠ q) : (X.setCell ⟨q, o, none⟩ v).heap[b]? = some ob := by rw [Below.heap_setCell _ _ _ _ hq]; exact h

theorem one4_0 {X : World} {q : Nat} {t : TypeId} {a0 a1 a2 a3 v : Value} (h : X.heap[q]? = some (.cells #[a0, a1, a2, a3] t (0, 0))) : (X.setCell ⟨q, 0, none⟩ v).heap[q]? = some (.cells #[v, a1, a2, a3] t (0, 0)) := by
  simp [World.setCell, h, Array.getElem?_modify]

theorem one4_1 {X : World} {q : Nat} {t : TypeId} {a0 a1 a2 a3 v : Value} (h : X.heap[q]? = some (.cells #[a0, a1, a2, a3] t (0, 0))) : (X.setCell ⟨q, 1, none⟩ v).heap[q]? = some (.cells #[a0, v, a2, a3] t (0, 0)) := by
  simp [World.setCell, h, Array.getElem?_modify]

theorem one4_2 {X : World} {q : Nat} {t : TypeId} {a0 a1 a2 a3 v : Value} (h : X.heap[q]? = some (.cells #[a0, a1, a2, a3] t (0, 0))) : (X.setCell ⟨q, 2, none⟩ v).heap[q]? = some (.cells #[a0, a1, v, a3] t (0, 0)) := by
  simp [World.setCell, h, Array.getElem?_modify]

theorem one4_3 {X : World} {q : Nat} {t : TypeId} {a0 a1 a2 a3 v : Value} (h : X.heap[q]? = some (.cells #[a0, a1, a2, a3] t (0, 0))) : (X.setCell ⟨q, 3, none⟩ v).heap[q]? = some (.cells #[a0, a1, a2, v] t (0, 0)) := by
  simp [World.setCell, h, Array.getElem?_modify]

/-- what the times of a line are told as -/
def TmP (n d : Int) (dr : Bool) (X0 X1 X2 X3 : ByteArray) (w : World) (e : Ending) (w' : World) : Prop :=
  (∃ x0 x1 x2 x3, (Pl.RD n d dr X0.data.toList x0 true ∧ Pl.RD n d dr X1.data.toList x1 true ∧ Pl.RD n d dr X2.data.toList x2 true ∧ Pl.RD n d dr X3.data.toList x3 true) ∧ e = .returned (.tuple #[.agg #[.int .i64 x0, .int .i64 x1, .int .i64 x2, .int .i64 x3], .nilIface]) ∧ Below w.heap.size w w') ∨
  (∃ x0 x1 x2 x3, (∃ X : ByteArray, (X = X0 ∨ X = X1 ∨ X = X2 ∨ X = X3) ∧ Pl.RD n d dr X.data.toList 0 false) ∧ e = .returned (.tuple #[.agg #[.int .i64 x0, .int .i64 x1, .int .i64 x2, .int .i64 x3], .iface 60 (.int .i64 7)]) ∧ Below w.heap.size w w')
/-- the first k times are read -/
def RdK (n d : Int) (dr : Bool) (X0 X1 X2 X3 : ByteArray) (k : Nat) (x0 x1 x2 x3 : Int) : Prop :=
  (0 < k → Pl.RD n d dr X0.data.toList x0 true) ∧ (1 < k → Pl.RD n d dr X1.data.toList x1 true) ∧ (2 < k → Pl.RD n d dr X2.data.toList x2 true) ∧ (3 < k → Pl.RD n d dr X3.data.toList x3 true)

set_option maxRecDepth 100000 in
set_option maxHeartbeats 1000000 in
theorem itimes_any (n d : Int) (dr : Bool) (R : Nat) (mp tr en : Value) (X0 X1 X2 X3 : ByteArray) (w : World) (hR : w.heap[R]? = some (.cells #[.int .i64 n, .int .i64 d, .bool dr, mp, tr, en] 66 (0, 0)))
    (h0 : X0.size ≤ 20000) (h1 : X1.size ≤ 20000) (h2 : X2.size ≤ 20000) (h3 : X3.size ≤ 20000) :
    Calls Tryz.prog 49 #[.pointer (some ⟨R, 0, none⟩), .agg #[.string X0, .string X1, .string X2, .string X3]] w (TmP n d dr X0 X1 X2 X3 w) := by
  have hP := hide (fun (e : Ending) (w' : World) (h : TmP n d dr X0 X1 X2 X3 w e w') => h)
  have hmx : (20000 : Nat) ≤ maxLen := by unfold maxLen; omega
  obtain ⟨Wa, hWa⟩ : ∃ X, w.alloc (.cells #[.string X0, .string X1, .string X2, .string X3] 91) = X := ⟨_, rfl⟩
  obtain ⟨Wb, hWb⟩ : ∃ X, Wa.alloc (.cells #[.int .i64 0, .int .i64 0, .int .i64 0, .int .i64 0] 88) = X := ⟨_, rfl⟩
  have kc : Below w.heap.size w (Wb.alloc (.cells #[.int .i64 0, .int .i64 0, .int .i64 0, .int .i64 0] 88)) := by
    rw [← hWb, ← hWa]
    exact (((Below.refl _ w).alloc (Nat.le_refl _) _).alloc (by simp) _).alloc (by simp; omega) _
  have za : Wa.heap.size = w.heap.size + 1 := by rw [← hWa]; simp
  have zb : Wb.heap.size = Wa.heap.size + 1 := by rw [← hWb]; simp
  have P1 : Wb.heap[Wa.heap.size]? = some (.cells #[.int .i64 0, .int .i64 0, .int .i64 0, .int .i64 0] 88 (0, 0)) := by rw [← hWb]; exact alloc_new _ _
  have P2 := alloc_new Wb (.cells #[.int .i64 0, .int .i64 0, .int .i64 0, .int .i64 0] 88)
  have P1' : (Wb.alloc (.cells #[.int .i64 0, .int .i64 0, .int .i64 0, .int .i64 0] 88)).heap[Wa.heap.size]? = some (.cells #[.int .i64 0, .int .i64 0, .int .i64 0, .int .i64 0] 88 (0, 0)) := by rw [Below.heap_alloc _ _ _ (by omega)]; exact P1
  have hWa' := hide hWa
  have hWb' := hide hWb
  obtain ⟨c0, c1, c2, c3, c4, c5⟩ := blk6 hR
  clear hWa hWb
  go_enter Tryz.func49, Tryz.ntmps49
  go_wp2_with fail
  rw [unhide hWa', unhide hWb']
  have g1 := P1'
  have g2 := P2
  rw [za] at g1 zb
  rw [zb] at g2
  have hRs : R < w.heap.size := (Array.getElem?_eq_some_iff.1 hR).1
  clear hWa' hWb' P1 P1' P2 zb za
  generalize Wb.alloc (.cells #[.int .i64 0, .int .i64 0, .int .i64 0, .int .i64 0] 88) = Wc at *
  generalize hQ : w.heap.size = Q at *
  generalize hQ1 : Q + 1 = Q1 at *
  generalize hQ2 : Q1 + 1 = Q2 at *
  have ix0 : ∀ w, (Instr.index 91 (.agg #[.string X0, .string X1, .string X2, .string X3]) (.int .i64 0)).run Tryz.prog w = .ok (.string X0) w := fun _ => by kernel_rfl
  have ix1 : ∀ w, (Instr.index 91 (.agg #[.string X0, .string X1, .string X2, .string X3]) (.int .i64 1)).run Tryz.prog w = .ok (.string X1) w := fun _ => by kernel_rfl
  have ix2 : ∀ w, (Instr.index 91 (.agg #[.string X0, .string X1, .string X2, .string X3]) (.int .i64 2)).run Tryz.prog w = .ok (.string X2) w := fun _ => by kernel_rfl
  have ix3 : ∀ w, (Instr.index 91 (.agg #[.string X0, .string X1, .string X2, .string X3]) (.int .i64 3)).run Tryz.prog w = .ok (.string X3) w := fun _ => by kernel_rfl
  have hr0 := hide hR
  have kc0 := hide kc
  clear hR kc c0 c1 c2 c3 c4 c5
  go_loopw [13] (fun t wr => ∃ (k : Nat) (x0 x1 x2 x3 : Int), k ≤ 4 ∧ t = .int .i64 k ∧ Hid (RdK n d dr X0 X1 X2 X3 k x0 x1 x2 x3) ∧ wr.heap[Q1]? = some (.cells #[.int .i64 0, .int .i64 0, .int .i64 0, .int .i64 0] 88 (0, 0)) ∧ wr.heap[Q2]? = some (.cells #[.int .i64 x0, .int .i64 x1, .int .i64 x2, .int .i64 x3] 88 (0, 0)) ∧ Below Q w wr) (fun t _ => 4 - (intOf t).toNat)
  case atStart => exact ⟨0, 0, 0, 0, 0, by omega, rfl, hide ⟨fun h => by omega, fun h => by omega, fun h => by omega, fun h => by omega⟩, g1, g2, unhide kc0⟩
  case round =>
    obtain ⟨k, x0, x1, x2, x3, hk4, rfl, hrd, G1, G2, kw⟩ := hrel
    have hRw : wr.heap[R]? = some (.cells #[.int .i64 n, .int .i64 d, .bool dr, mp, tr, en] 66 (0, 0)) := by rw [kw.block R hRs]; exact unhide hr0
    obtain ⟨c0, c1, c2, c3, c4, c5⟩ := blk6 hRw
    have hsz : Q2 < wr.heap.size := (Array.getElem?_eq_some_iff.1 G2).1
    obtain rfl | rfl | rfl | rfl | rfl : k = 0 ∨ k = 1 ∨ k = 2 ∨ k = 3 ∨ k = 4 := by omega
    · rw [show ((0 : Nat) : Int) = 0 from rfl]
      go_wp2_with fail
      refine (ird_any n d dr X0 wr (by omega)).mono ?_
      rintro e w2 ⟨x, ok, rfl, hx, k2⟩
      have G1 := blk_below G1 k2
      have G2 := blk_below G2 k2
      have kw : Below Q w w2 := kw.trans (k2.mono (by have := kw.size; omega))
      clear c0 c1 c2 c3 c4 c5 k2 hRw
      obtain ⟨m0, m1, m2, m3⟩ := blk4 G2
      obtain ⟨f0, f1, f2, f3⟩ := blk4f G2
      cases ok
      · obtain ⟨y0, y1, y2, y3⟩ := blk4f G1
        obtain ⟨z0, z1, z2, z3⟩ := blk4 G1
        have hx0 : x = 0 := by
          rcases hx with ⟨h, _⟩ | ⟨_, h, _⟩
          · cases h
          · exact h
        subst hx0
        have hx' := hide hx
        clear hx
        go_wp2
        have P9 := put4 (v0 := .int .i64 x0) (v1 := .int .i64 x1) (v2 := .int .i64 x2) (v3 := .int .i64 x3) G1
        have B9 := set4_belowB (v0 := .int .i64 x0) (v1 := .int .i64 x1) (v2 := .int .i64 x2) (v3 := .int .i64 x3) kw (show Q ≤ Q1 by omega)
        clear m0 m1 m2 m3 f0 f1 f2 f3 y0 y1 y2 y3 z0 z1 z2 z3
        generalize (((w2.setCell ⟨Q1, 0, none⟩ (.int .i64 x0)).setCell ⟨Q1, 1, none⟩ (.int .i64 x1)).setCell ⟨Q1, 2, none⟩ (.int .i64 x2)).setCell ⟨Q1, 3, none⟩ (.int .i64 x3) = W9 at *
        obtain ⟨o0, o1, o2, o3⟩ := blk4 P9
        refine bodyPost_ret (v := .tuple #[.agg #[.int .i64 x0, .int .i64 x1, .int .i64 x2, .int .i64 x3], .iface 60 (.int .i64 7)]) (by simp [results, Tryz.results49, go_sem, o0, o1, o2, o3]) rfl ?_
        exact unhide hP _ _ (.inr ⟨x0, x1, x2, x3, ⟨X0, by simp, unhide hx'⟩, rfl, by rw [hQ]; exact B9⟩)
      · have hx' := hide hx
        clear hx
        go_wp2_with fail
        go_roundw
        case rel =>
          have hx := unhide hx'
          obtain ⟨r0, r1, r2, r3⟩ := unhide hrd
          exact ⟨1, x, x1, x2, x3, by omega, by first | rfl | trivial, hide ⟨fun h => hx, fun h => by omega, fun h => by omega, fun h => by omega⟩, set_blk G1 (by omega), one4_0 G2, kw.setCell (p := ⟨Q2, 0, none⟩) (show Q ≤ Q2 by omega) _⟩
        case measure => simp [intOf]
    · rw [show ((1 : Nat) : Int) = 1 from rfl]
      go_wp2_with fail
      refine (ird_any n d dr X1 wr (by omega)).mono ?_
      rintro e w2 ⟨x, ok, rfl, hx, k2⟩
      have G1 := blk_below G1 k2
      have G2 := blk_below G2 k2
      have kw : Below Q w w2 := kw.trans (k2.mono (by have := kw.size; omega))
      clear c0 c1 c2 c3 c4 c5 k2 hRw
      obtain ⟨m0, m1, m2, m3⟩ := blk4 G2
      obtain ⟨f0, f1, f2, f3⟩ := blk4f G2
      cases ok
      · obtain ⟨y0, y1, y2, y3⟩ := blk4f G1
        obtain ⟨z0, z1, z2, z3⟩ := blk4 G1
        have hx0 : x = 0 := by
          rcases hx with ⟨h, _⟩ | ⟨_, h, _⟩
          · cases h
          · exact h
        subst hx0
        have hx' := hide hx
        clear hx
        go_wp2
        have P9 := put4 (v0 := .int .i64 x0) (v1 := .int .i64 x1) (v2 := .int .i64 x2) (v3 := .int .i64 x3) G1
        have B9 := set4_belowB (v0 := .int .i64 x0) (v1 := .int .i64 x1) (v2 := .int .i64 x2) (v3 := .int .i64 x3) kw (show Q ≤ Q1 by omega)
        clear m0 m1 m2 m3 f0 f1 f2 f3 y0 y1 y2 y3 z0 z1 z2 z3
        generalize (((w2.setCell ⟨Q1, 0, none⟩ (.int .i64 x0)).setCell ⟨Q1, 1, none⟩ (.int .i64 x1)).setCell ⟨Q1, 2, none⟩ (.int .i64 x2)).setCell ⟨Q1, 3, none⟩ (.int .i64 x3) = W9 at *
        obtain ⟨o0, o1, o2, o3⟩ := blk4 P9
        refine bodyPost_ret (v := .tuple #[.agg #[.int .i64 x0, .int .i64 x1, .int .i64 x2, .int .i64 x3], .iface 60 (.int .i64 7)]) (by simp [results, Tryz.results49, go_sem, o0, o1, o2, o3]) rfl ?_
        exact unhide hP _ _ (.inr ⟨x0, x1, x2, x3, ⟨X1, by simp, unhide hx'⟩, rfl, by rw [hQ]; exact B9⟩)
      · have hx' := hide hx
        clear hx
        go_wp2_with fail
        go_roundw
        case rel =>
          have hx := unhide hx'
          obtain ⟨r0, r1, r2, r3⟩ := unhide hrd
          exact ⟨2, x0, x, x2, x3, by omega, by first | rfl | trivial, hide ⟨fun h => r0 (by omega), fun h => hx, fun h => by omega, fun h => by omega⟩, set_blk G1 (by omega), one4_1 G2, kw.setCell (p := ⟨Q2, 1, none⟩) (show Q ≤ Q2 by omega) _⟩
        case measure => simp [intOf]
    · rw [show ((2 : Nat) : Int) = 2 from rfl]
      go_wp2_with fail
      refine (ird_any n d dr X2 wr (by omega)).mono ?_
      rintro e w2 ⟨x, ok, rfl, hx, k2⟩
      have G1 := blk_below G1 k2
      have G2 := blk_below G2 k2
      have kw : Below Q w w2 := kw.trans (k2.mono (by have := kw.size; omega))
      clear c0 c1 c2 c3 c4 c5 k2 hRw
      obtain ⟨m0, m1, m2, m3⟩ := blk4 G2
      obtain ⟨f0, f1, f2, f3⟩ := blk4f G2
      cases ok
      · obtain ⟨y0, y1, y2, y3⟩ := blk4f G1
        obtain ⟨z0, z1, z2, z3⟩ := blk4 G1
        have hx0 : x = 0 := by
          rcases hx with ⟨h, _⟩ | ⟨_, h, _⟩
          · cases h
          · exact h
        subst hx0
        have hx' := hide hx
        clear hx
        go_wp2
        have P9 := put4 (v0 := .int .i64 x0) (v1 := .int .i64 x1) (v2 := .int .i64 x2) (v3 := .int .i64 x3) G1
        have B9 := set4_belowB (v0 := .int .i64 x0) (v1 := .int .i64 x1) (v2 := .int .i64 x2) (v3 := .int .i64 x3) kw (show Q ≤ Q1 by omega)
        clear m0 m1 m2 m3 f0 f1 f2 f3 y0 y1 y2 y3 z0 z1 z2 z3
        generalize (((w2.setCell ⟨Q1, 0, none⟩ (.int .i64 x0)).setCell ⟨Q1, 1, none⟩ (.int .i64 x1)).setCell ⟨Q1, 2, none⟩ (.int .i64 x2)).setCell ⟨Q1, 3, none⟩ (.int .i64 x3) = W9 at *
        obtain ⟨o0, o1, o2, o3⟩ := blk4 P9
        refine bodyPost_ret (v := .tuple #[.agg #[.int .i64 x0, .int .i64 x1, .int .i64 x2, .int .i64 x3], .iface 60 (.int .i64 7)]) (by simp [results, Tryz.results49, go_sem, o0, o1, o2, o3]) rfl ?_
        exact unhide hP _ _ (.inr ⟨x0, x1, x2, x3, ⟨X2, by simp, unhide hx'⟩, rfl, by rw [hQ]; exact B9⟩)
      · have hx' := hide hx
        clear hx
        go_wp2_with fail
        go_roundw
        case rel =>
          have hx := unhide hx'
          obtain ⟨r0, r1, r2, r3⟩ := unhide hrd
          exact ⟨3, x0, x1, x, x3, by omega, by first | rfl | trivial, hide ⟨fun h => r0 (by omega), fun h => r1 (by omega), fun h => hx, fun h => by omega⟩, set_blk G1 (by omega), one4_2 G2, kw.setCell (p := ⟨Q2, 2, none⟩) (show Q ≤ Q2 by omega) _⟩
        case measure => simp [intOf]
    · rw [show ((3 : Nat) : Int) = 3 from rfl]
      go_wp2_with fail
      refine (ird_any n d dr X3 wr (by omega)).mono ?_
      rintro e w2 ⟨x, ok, rfl, hx, k2⟩
      have G1 := blk_below G1 k2
      have G2 := blk_below G2 k2
      have kw : Below Q w w2 := kw.trans (k2.mono (by have := kw.size; omega))
      clear c0 c1 c2 c3 c4 c5 k2 hRw
      obtain ⟨m0, m1, m2, m3⟩ := blk4 G2
      obtain ⟨f0, f1, f2, f3⟩ := blk4f G2
      cases ok
      · obtain ⟨y0, y1, y2, y3⟩ := blk4f G1
        obtain ⟨z0, z1, z2, z3⟩ := blk4 G1
        have hx0 : x = 0 := by
          rcases hx with ⟨h, _⟩ | ⟨_, h, _⟩
          · cases h
          · exact h
        subst hx0
        have hx' := hide hx
        clear hx
        go_wp2
        have P9 := put4 (v0 := .int .i64 x0) (v1 := .int .i64 x1) (v2 := .int .i64 x2) (v3 := .int .i64 x3) G1
        have B9 := set4_belowB (v0 := .int .i64 x0) (v1 := .int .i64 x1) (v2 := .int .i64 x2) (v3 := .int .i64 x3) kw (show Q ≤ Q1 by omega)
        clear m0 m1 m2 m3 f0 f1 f2 f3 y0 y1 y2 y3 z0 z1 z2 z3
        generalize (((w2.setCell ⟨Q1, 0, none⟩ (.int .i64 x0)).setCell ⟨Q1, 1, none⟩ (.int .i64 x1)).setCell ⟨Q1, 2, none⟩ (.int .i64 x2)).setCell ⟨Q1, 3, none⟩ (.int .i64 x3) = W9 at *
        obtain ⟨o0, o1, o2, o3⟩ := blk4 P9
        refine bodyPost_ret (v := .tuple #[.agg #[.int .i64 x0, .int .i64 x1, .int .i64 x2, .int .i64 x3], .iface 60 (.int .i64 7)]) (by simp [results, Tryz.results49, go_sem, o0, o1, o2, o3]) rfl ?_
        exact unhide hP _ _ (.inr ⟨x0, x1, x2, x3, ⟨X3, by simp, unhide hx'⟩, rfl, by rw [hQ]; exact B9⟩)
      · have hx' := hide hx
        clear hx
        go_wp2_with fail
        go_roundw
        case rel =>
          have hx := unhide hx'
          obtain ⟨r0, r1, r2, r3⟩ := unhide hrd
          exact ⟨4, x0, x1, x2, x, by omega, by first | rfl | trivial, hide ⟨fun h => r0 (by omega), fun h => r1 (by omega), fun h => r2 (by omega), fun h => hx⟩, set_blk G1 (by omega), one4_3 G2, kw.setCell (p := ⟨Q2, 3, none⟩) (show Q ≤ Q2 by omega) _⟩
        case measure => simp [intOf]
    · rw [show ((4 : Nat) : Int) = 4 from rfl]
      obtain ⟨m0, m1, m2, m3⟩ := blk4 G2
      obtain ⟨y0, y1, y2, y3⟩ := blk4f G1
      obtain ⟨z0, z1, z2, z3⟩ := blk4 G1
      clear c0 c1 c2 c3 c4 c5
      go_wp2
      have P9 := put4 (v0 := .int .i64 x0) (v1 := .int .i64 x1) (v2 := .int .i64 x2) (v3 := .int .i64 x3) G1
      have B9 := set4_belowB (v0 := .int .i64 x0) (v1 := .int .i64 x1) (v2 := .int .i64 x2) (v3 := .int .i64 x3) kw (show Q ≤ Q1 by omega)
      clear m0 m1 m2 m3 y0 y1 y2 y3 z0 z1 z2 z3
      generalize (((wr.setCell ⟨Q1, 0, none⟩ (.int .i64 x0)).setCell ⟨Q1, 1, none⟩ (.int .i64 x1)).setCell ⟨Q1, 2, none⟩ (.int .i64 x2)).setCell ⟨Q1, 3, none⟩ (.int .i64 x3) = W9 at *
      obtain ⟨o0, o1, o2, o3⟩ := blk4 P9
      refine bodyPost_ret (v := .tuple #[.agg #[.int .i64 x0, .int .i64 x1, .int .i64 x2, .int .i64 x3], .nilIface]) (by simp [results, Tryz.results49, go_sem, o0, o1, o2, o3]) rfl ?_
      obtain ⟨r0, r1, r2, r3⟩ := unhide hrd
      exact unhide hP _ _ (.inl ⟨x0, x1, x2, x3, ⟨r0 (by omega), r1 (by omega), r2 (by omega), r3 (by omega)⟩, rfl, by rw [hQ]; exact B9⟩)
end Go.Proofs.YthjggjnkhhoigaaGreatDoor
