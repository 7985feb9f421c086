/-
  Contracts of the model's new cursor and of its drawn rate: each answers, and writes into the cursor and what it makes alone.
-/
import Derived.Test.YtffibbcombjkcaaDraw
namespace Go.Proofs.Ytffibbcombjkcaa
open Go.RowKit
set_option linter.unusedVariables false

set_option maxHeartbeats 800000 in
theorem new_any (a : Option Addr) (len cap : Nat) (w : World) (hl : len ≤ 9223372036854775807) (hl2 : len ≤ 1000000) (hr : RdB w w.heap.size a len) :
    Calls Try.prog 27 #[.slice a len cap] w fun e w' => ∃ g, e = .returned (.pointer (some ⟨g, 0, none⟩)) ∧ w.heap.size ≤ g ∧ CurAt w' g a len cap ∧ Below w.heap.size w w' := by
  go_enter Try.func27, Try.ntmps27
  go_wp2
  go_loop [3, 4] (fun s t => ∃ (k : Nat) (h : Int), k ≤ len ∧ t = .int .i64 k ∧ s = .int .i64 h) (fun _ t => len - (intOf t).toNat)
  case atStart => exact ⟨0, _, Nat.zero_le _, rfl, rfl⟩
  case round =>
    obtain ⟨k, h, hk, rfl, rfl⟩ := hrel
    by_cases hlt : k < len
    · obtain ⟨b, o, z, rfl, hb, hz, z0, z1⟩ := hr k hlt
      have hr' := hide hr
      clear hr
      go_wp2
      go_round
      case rel => exact ⟨k + 1, _, by omega, by go_num, rfl⟩
      case measure => simp [intOf]; omega
    · have hr' := hide hr
      clear hr
      go_wp2
      go_ret
      refine ⟨w.heap.size, rfl, Nat.le_refl _, ⟨0, h, by simp, by simp, by simp, by simp, by simp, by omega, by omega⟩, (Below.refl _ _).alloc (Nat.le_refl _) _⟩

theorem gcell {W w1 : World} {g : Nat} (h : W.grownBy w1 (some g)) : (∀ b o, b < W.heap.size → b ≠ g → w1.cell? ⟨b, o, none⟩ = W.cell? ⟨b, o, none⟩) ∧ (∀ b o, b < W.heap.size → b ≠ g → w1.frozen? ⟨b, o, none⟩ = W.frozen? ⟨b, o, none⟩) :=
  ⟨fun b o hb hn => World.cell?_of_block (a := ⟨b, o, none⟩) (h.block b hb (by intro e; exact hn (Option.some.inj e))), fun b o hb hn => World.frozen?_of_block (a := ⟨b, o, none⟩) (h.block b hb (by intro e; exact hn (Option.some.inj e)))⟩
theorem set_other {w : World} {b i k : Nat} {v : Value} (h : k ≠ b) : (w.setCell ⟨b, i, none⟩ v).heap[k]? = w.heap[k]? := by
  simp [World.setCell, Array.getElem?_modify, Ne.symm h]
theorem grown_new {w w1 : World} {row : Option Nat} {b i : Nat} {v : Value} (h : w.grownBy w1 row) (hb : w.heap.size ≤ b) : w.grownBy (w1.setCell ⟨b, i, none⟩ v) row :=
  ⟨h.os, h.tape, h.output, by simpa using h.size, fun k hk hn => (set_other (by omega)).trans (h.block k hk hn)⟩
theorem CurAt.set {w : World} {g : Nat} {a : Option Addr} {len cap b i : Nat} {v : Value} (h : CurAt w g a len cap) (hb : b ≠ g) : CurAt (w.setCell ⟨b, i, none⟩ v) g a len cap := h.other (set_other (Ne.symm hb))
theorem F_cells {X : World} {b : Nat} {v0 v1 v2 a0 a1 a2 : Value} (h0 : X.cell? ⟨b, 0, none⟩ = some a0) (h1 : X.cell? ⟨b, 1, none⟩ = some a1) (h2 : X.cell? ⟨b, 2, none⟩ = some a2) :
    (((X.setCell ⟨b, 0, none⟩ v0).setCell ⟨b, 1, none⟩ v1).setCell ⟨b, 2, none⟩ v2).cell? ⟨b, 0, none⟩ = some v0 ∧ (((X.setCell ⟨b, 0, none⟩ v0).setCell ⟨b, 1, none⟩ v1).setCell ⟨b, 2, none⟩ v2).cell? ⟨b, 1, none⟩ = some v1 ∧ (((X.setCell ⟨b, 0, none⟩ v0).setCell ⟨b, 1, none⟩ v1).setCell ⟨b, 2, none⟩ v2).cell? ⟨b, 2, none⟩ = some v2 := by
  have e1 : (X.setCell ⟨b, 0, none⟩ v0).cell? ⟨b, 1, none⟩ = some a1 := by rw [World.cell?_setCell_other _ _ _ _ (ne_off (by decide))]; exact h1
  have e2 : ((X.setCell ⟨b, 0, none⟩ v0).setCell ⟨b, 1, none⟩ v1).cell? ⟨b, 2, none⟩ = some a2 := by
    rw [World.cell?_setCell_other _ _ _ _ (ne_off (by decide)), World.cell?_setCell_other _ _ _ _ (ne_off (by decide))]; exact h2
  refine ⟨?_, ?_, World.cell?_setCell_same _ _ _ e2⟩
  · rw [World.cell?_setCell_other _ _ _ _ (ne_off (by decide)), World.cell?_setCell_other _ _ _ _ (ne_off (by decide))]; exact World.cell?_setCell_same _ _ _ h0
  · rw [World.cell?_setCell_other _ _ _ _ (ne_off (by decide))]; exact World.cell?_setCell_same _ _ _ e1
theorem below1 (w : World) (o1 : Obj) : Below w.heap.size w (w.alloc o1) := (Below.refl _ _).alloc (Nat.le_refl _) _
theorem below2 (w : World) (o1 o2 : Obj) : Below w.heap.size w ((w.alloc o1).alloc o2) := ((Below.refl _ _).alloc (Nat.le_refl _) _).alloc (by simp) _

set_option maxHeartbeats 1600000 in
theorem drate_any (B g : Nat) (a : Option Addr) (len cap : Nat) (w : World) (hB : B ≤ g) (hl : len ≤ 9223372036854775807) (hc : CurAt w g a len cap) (hr : RdB w B a len) :
    Calls Try.prog 28 #[.pointer (some ⟨g, 0, none⟩)] w fun e w' => ∃ n d dr, e = .returned (.agg #[.int .i64 n, .int .i64 d, .bool dr]) ∧ CurAt w' g a len cap ∧ w.grownBy w' (some g) := by
  have hc' := hide hc
  have hr' := hide hr
  clear hc hr
  go_enter Try.func28, Try.ntmps28
  go_wp2_with fail
  refine (below_any B g a len cap 10 _ hB hl ((unhide hc').below (below2 w _ _)) ((unhide hr').grown (grown_below (below2 w _ _)) hB) (by omega)).mono ?_
  rintro e w1 ⟨x, rfl, x0, x1, k1, g1⟩
  obtain ⟨m, rfl⟩ := Int.eq_ofNat_of_zero_le x0
  have hgw := hide (unhide hc').lt
  obtain ⟨n, d, dr, q0, q1, q2⟩ : ∃ n d dr, w1.cell? ⟨w.heap.size + 1, m * 3, none⟩ = some (.int .i64 n) ∧ w1.cell? ⟨w.heap.size + 1, m * 3 + 1, none⟩ = some (.int .i64 d) ∧ w1.cell? ⟨w.heap.size + 1, m * 3 + 2, none⟩ = some (.bool dr) := by
    have e : ∀ j, w1.cell? ⟨w.heap.size + 1, j, none⟩ = _ := fun j => World.cell?_of_block (a := ⟨w.heap.size + 1, j, none⟩) (g1.block (w.heap.size + 1) (by simp) (by intro h; have := Option.some.inj h; have := unhide hgw; omega))
    obtain rfl | rfl | rfl | rfl | rfl | rfl | rfl | rfl | rfl | rfl : m = 0 ∨ m = 1 ∨ m = 2 ∨ m = 3 ∨ m = 4 ∨ m = 5 ∨ m = 6 ∨ m = 7 ∨ m = 8 ∨ m = 9 := by omega
    all_goals exact ⟨_, _, _, by rw [e]; simp; rfl, by rw [e]; simp; rfl, by rw [e]; simp; rfl⟩
  have r1 := ((unhide hr').grown (grown_below (below2 w _ _)) hB).grown g1 hB
  have t1 := grown_trans (grown_below (below2 w _ _)) g1
  obtain ⟨p1, u1⟩ := gcell g1
  have z1 : w.heap.size + 1 < w1.heap.size := by have := g1.size; simp at this; omega
  have z1' : w.heap.size < w1.heap.size := by omega
  have n1 : w.heap.size ≠ g := by have := unhide hgw; omega
  have n1' : w1.heap.size ≠ g := by have := unhide hgw; omega
  have k1' := hide k1
  have r1' := hide r1
  have t1' := hide t1
  clear k1 g1 r1 t1
  go_wp2_with fail
  refine (once_any B g a len cap 16 _ hB hl ((unhide k1').below (below1 w1 _)) ((unhide r1').grown (grown_below (below1 w1 _)) hB) (by omega)).mono ?_
  rintro e w2 ⟨v, rfl, k2, g2⟩
  have r2 := ((unhide r1').grown (grown_below (below1 w1 _)) hB).grown g2 hB
  have t2 := grown_trans (unhide t1') (grown_trans (grown_below (below1 w1 _)) g2)
  obtain ⟨p2, u2⟩ := gcell g2
  have z2 : w1.heap.size < w2.heap.size := by have := g2.size; simp at this; omega
  have z2' : w.heap.size < w2.heap.size := by omega
  have k2' := hide k2
  have r2' := hide r2
  have t2' := hide t2
  clear k2 g2 r2 t2 q0 q1 q2
  cases v
  · go_wp2
    have b0 : w2.cell? ⟨w.heap.size, 0, none⟩ = some (.int .i64 0) := by rw [p2 _ _ (by simp; omega) n1, World.cell?_alloc_past _ _ _ z1', p1 _ _ (by simp; omega) n1]; simp
    have b1 : w2.cell? ⟨w.heap.size, 1, none⟩ = some (.int .i64 0) := by rw [p2 _ _ (by simp; omega) n1, World.cell?_alloc_past _ _ _ z1', p1 _ _ (by simp; omega) n1]; simp
    have b2 : w2.cell? ⟨w.heap.size, 2, none⟩ = some (.bool false) := by rw [p2 _ _ (by simp; omega) n1, World.cell?_alloc_past _ _ _ z1', p1 _ _ (by simp; omega) n1]; simp
    obtain ⟨y0, y1, y2⟩ := F_cells (X := w2) (b := w.heap.size) (v0 := .int .i64 n) (v1 := .int .i64 d) (v2 := .bool dr) b0 b1 b2
    exact bodyPost_ret (v := .agg #[.int .i64 n, .int .i64 d, .bool dr]) (by simp [results, Try.results28, go_sem, y0, y1, y2]) rfl ⟨_, _, _, rfl, (((unhide k2').set n1).set n1).set n1, grown_new (grown_new (grown_new (unhide t2') (Nat.le_refl _)) (Nat.le_refl _)) (Nat.le_refl _)⟩
  · go_wp2_with fail
    refine (below_any B g a len cap 4 _ hB hl (unhide k2') (unhide r2') (by omega)).mono ?_
    rintro e w3 ⟨y, rfl, yy0, yy1, k3, g3⟩
    have r3 := (unhide r2').grown g3 hB
    have t3 := grown_trans (unhide t2') g3
    obtain ⟨p3, u3⟩ := gcell g3
    have z3 : w1.heap.size < w3.heap.size := by have := g3.size; omega
    have z3' : w.heap.size < w3.heap.size := by omega
    have k3' := hide k3
    have r3' := hide r3
    have t3' := hide t3
    clear k3 g3 r3 t3
    obtain rfl | rfl | rfl | rfl : y = 0 ∨ y = 1 ∨ y = 2 ∨ y = 3 := by omega
    · go_wp2_with fail
      refine (below_any B g a len cap 6 _ hB hl ((unhide k3').below (below1 w3 _)) ((unhide r3').grown (grown_below (below1 w3 _)) hB) (by omega)).mono ?_
      rintro e w4 ⟨x, rfl, xx0, xx1, k4, g4⟩
      obtain ⟨q, rfl⟩ := Int.eq_ofNat_of_zero_le xx0
      have t4 := grown_trans (unhide t3') (grown_trans (grown_below (below1 w3 _)) g4)
      obtain ⟨p4, u4⟩ := gcell g4
      have n3 : w3.heap.size ≠ g := by have := unhide hgw; omega
      have z4 : w1.heap.size < w4.heap.size := by have := g4.size; simp at this; omega
      have z4' : w.heap.size < w4.heap.size := by omega
      obtain ⟨c, hcq⟩ : ∃ c, w4.cell? ⟨w3.heap.size, q, none⟩ = some (.int .i64 c) := by
        have e := fun j => p4 w3.heap.size j (by simp) n3
        obtain rfl | rfl | rfl | rfl | rfl | rfl : q = 0 ∨ q = 1 ∨ q = 2 ∨ q = 3 ∨ q = 4 ∨ q = 5 := by omega
        all_goals exact ⟨_, by rw [e]; simp; rfl⟩
      have k4' := hide k4
      have t4' := hide t4
      clear k4 g4 t4 n3
      have z3a : w1.heap.size < w3.heap.size + 1 := by omega
      have z3b : w.heap.size < w3.heap.size + 1 := by omega
      go_wp2
      have b0 : (w4.setCell ⟨w1.heap.size, 0, none⟩ (.int .i64 c)).cell? ⟨w.heap.size, 0, none⟩ = some (.int .i64 0) := by rw [World.cell?_setCell_other _ _ _ _ (by intro e; injection e with e1 _ _; omega), p4 _ _ (by simp; omega) n1, World.cell?_alloc_past _ _ _ z3', p3 _ _ z2' n1, p2 _ _ (by simp; omega) n1, World.cell?_alloc_past _ _ _ z1', p1 _ _ (by simp; omega) n1]; simp
      have b1 : (w4.setCell ⟨w1.heap.size, 0, none⟩ (.int .i64 c)).cell? ⟨w.heap.size, 1, none⟩ = some (.int .i64 0) := by rw [World.cell?_setCell_other _ _ _ _ (by intro e; injection e with e1 _ _; omega), p4 _ _ (by simp; omega) n1, World.cell?_alloc_past _ _ _ z3', p3 _ _ z2' n1, p2 _ _ (by simp; omega) n1, World.cell?_alloc_past _ _ _ z1', p1 _ _ (by simp; omega) n1]; simp
      have b2 : (w4.setCell ⟨w1.heap.size, 0, none⟩ (.int .i64 c)).cell? ⟨w.heap.size, 2, none⟩ = some (.bool false) := by rw [World.cell?_setCell_other _ _ _ _ (by intro e; injection e with e1 _ _; omega), p4 _ _ (by simp; omega) n1, World.cell?_alloc_past _ _ _ z3', p3 _ _ z2' n1, p2 _ _ (by simp; omega) n1, World.cell?_alloc_past _ _ _ z1', p1 _ _ (by simp; omega) n1]; simp
      obtain ⟨y0, y1, y2⟩ := F_cells (X := (w4.setCell ⟨w1.heap.size, 0, none⟩ (.int .i64 c))) (b := w.heap.size) (v0 := .int .i64 c) (v1 := .int .i64 d) (v2 := .bool dr) b0 b1 b2
      exact bodyPost_ret (v := .agg #[.int .i64 c, .int .i64 d, .bool dr]) (by simp [results, Try.results28, go_sem, y0, y1, y2]) rfl ⟨_, _, _, rfl, ((((unhide k4').set n1').set n1).set n1).set n1, grown_new (grown_new (grown_new (grown_new (unhide t4') (by omega)) (Nat.le_refl _)) (Nat.le_refl _)) (Nat.le_refl _)⟩
    · go_wp2_with fail
      refine (below_any B g a len cap 5 _ hB hl ((unhide k3').below (below1 w3 _)) ((unhide r3').grown (grown_below (below1 w3 _)) hB) (by omega)).mono ?_
      rintro e w4 ⟨x, rfl, xx0, xx1, k4, g4⟩
      obtain ⟨q, rfl⟩ := Int.eq_ofNat_of_zero_le xx0
      have t4 := grown_trans (unhide t3') (grown_trans (grown_below (below1 w3 _)) g4)
      obtain ⟨p4, u4⟩ := gcell g4
      have n3 : w3.heap.size ≠ g := by have := unhide hgw; omega
      have z4 : w1.heap.size < w4.heap.size := by have := g4.size; simp at this; omega
      have z4' : w.heap.size < w4.heap.size := by omega
      obtain ⟨c, hcq⟩ : ∃ c, w4.cell? ⟨w3.heap.size, q, none⟩ = some (.int .i64 c) := by
        have e := fun j => p4 w3.heap.size j (by simp) n3
        obtain rfl | rfl | rfl | rfl | rfl : q = 0 ∨ q = 1 ∨ q = 2 ∨ q = 3 ∨ q = 4 := by omega
        all_goals exact ⟨_, by rw [e]; simp; rfl⟩
      have k4' := hide k4
      have t4' := hide t4
      clear k4 g4 t4 n3
      have z3a : w1.heap.size < w3.heap.size + 1 := by omega
      have z3b : w.heap.size < w3.heap.size + 1 := by omega
      go_wp2
      have b0 : (w4.setCell ⟨w1.heap.size, 1, none⟩ (.int .i64 c)).cell? ⟨w.heap.size, 0, none⟩ = some (.int .i64 0) := by rw [World.cell?_setCell_other _ _ _ _ (by intro e; injection e with e1 _ _; omega), p4 _ _ (by simp; omega) n1, World.cell?_alloc_past _ _ _ z3', p3 _ _ z2' n1, p2 _ _ (by simp; omega) n1, World.cell?_alloc_past _ _ _ z1', p1 _ _ (by simp; omega) n1]; simp
      have b1 : (w4.setCell ⟨w1.heap.size, 1, none⟩ (.int .i64 c)).cell? ⟨w.heap.size, 1, none⟩ = some (.int .i64 0) := by rw [World.cell?_setCell_other _ _ _ _ (by intro e; injection e with e1 _ _; omega), p4 _ _ (by simp; omega) n1, World.cell?_alloc_past _ _ _ z3', p3 _ _ z2' n1, p2 _ _ (by simp; omega) n1, World.cell?_alloc_past _ _ _ z1', p1 _ _ (by simp; omega) n1]; simp
      have b2 : (w4.setCell ⟨w1.heap.size, 1, none⟩ (.int .i64 c)).cell? ⟨w.heap.size, 2, none⟩ = some (.bool false) := by rw [World.cell?_setCell_other _ _ _ _ (by intro e; injection e with e1 _ _; omega), p4 _ _ (by simp; omega) n1, World.cell?_alloc_past _ _ _ z3', p3 _ _ z2' n1, p2 _ _ (by simp; omega) n1, World.cell?_alloc_past _ _ _ z1', p1 _ _ (by simp; omega) n1]; simp
      obtain ⟨y0, y1, y2⟩ := F_cells (X := (w4.setCell ⟨w1.heap.size, 1, none⟩ (.int .i64 c))) (b := w.heap.size) (v0 := .int .i64 n) (v1 := .int .i64 c) (v2 := .bool dr) b0 b1 b2
      exact bodyPost_ret (v := .agg #[.int .i64 n, .int .i64 c, .bool dr]) (by simp [results, Try.results28, go_sem, y0, y1, y2]) rfl ⟨_, _, _, rfl, ((((unhide k4').set n1').set n1).set n1).set n1, grown_new (grown_new (grown_new (grown_new (unhide t4') (by omega)) (Nat.le_refl _)) (Nat.le_refl _)) (Nat.le_refl _)⟩
    · go_wp2
      have b0 : (w3.setCell ⟨w1.heap.size, 2, none⟩ (.bool !dr)).cell? ⟨w.heap.size, 0, none⟩ = some (.int .i64 0) := by rw [World.cell?_setCell_other _ _ _ _ (by intro e; injection e with e1 _ _; omega), p3 _ _ z2' n1, p2 _ _ (by simp; omega) n1, World.cell?_alloc_past _ _ _ z1', p1 _ _ (by simp; omega) n1]; simp
      have b1 : (w3.setCell ⟨w1.heap.size, 2, none⟩ (.bool !dr)).cell? ⟨w.heap.size, 1, none⟩ = some (.int .i64 0) := by rw [World.cell?_setCell_other _ _ _ _ (by intro e; injection e with e1 _ _; omega), p3 _ _ z2' n1, p2 _ _ (by simp; omega) n1, World.cell?_alloc_past _ _ _ z1', p1 _ _ (by simp; omega) n1]; simp
      have b2 : (w3.setCell ⟨w1.heap.size, 2, none⟩ (.bool !dr)).cell? ⟨w.heap.size, 2, none⟩ = some (.bool false) := by rw [World.cell?_setCell_other _ _ _ _ (by intro e; injection e with e1 _ _; omega), p3 _ _ z2' n1, p2 _ _ (by simp; omega) n1, World.cell?_alloc_past _ _ _ z1', p1 _ _ (by simp; omega) n1]; simp
      obtain ⟨y0, y1, y2⟩ := F_cells (X := (w3.setCell ⟨w1.heap.size, 2, none⟩ (.bool !dr))) (b := w.heap.size) (v0 := .int .i64 n) (v1 := .int .i64 d) (v2 := .bool (!dr)) b0 b1 b2
      exact bodyPost_ret (v := .agg #[.int .i64 n, .int .i64 d, .bool (!dr)]) (by simp [results, Try.results28, go_sem, y0, y1, y2]) rfl ⟨_, _, _, rfl, ((((unhide k3').set n1').set n1).set n1).set n1, grown_new (grown_new (grown_new (grown_new (unhide t3') (by omega)) (Nat.le_refl _)) (Nat.le_refl _)) (Nat.le_refl _)⟩
    · go_wp2
      have b0 : (((w3.setCell ⟨w1.heap.size, 0, none⟩ (.int .i64 120000)).setCell ⟨w1.heap.size, 1, none⟩ (.int .i64 1001)).setCell ⟨w1.heap.size, 2, none⟩ (.bool false)).cell? ⟨w.heap.size, 0, none⟩ = some (.int .i64 0) := by rw [World.cell?_setCell_other _ _ _ _ (by intro e; injection e with e1 _ _; omega), World.cell?_setCell_other _ _ _ _ (by intro e; injection e with e1 _ _; omega), World.cell?_setCell_other _ _ _ _ (by intro e; injection e with e1 _ _; omega), p3 _ _ z2' n1, p2 _ _ (by simp; omega) n1, World.cell?_alloc_past _ _ _ z1', p1 _ _ (by simp; omega) n1]; simp
      have b1 : (((w3.setCell ⟨w1.heap.size, 0, none⟩ (.int .i64 120000)).setCell ⟨w1.heap.size, 1, none⟩ (.int .i64 1001)).setCell ⟨w1.heap.size, 2, none⟩ (.bool false)).cell? ⟨w.heap.size, 1, none⟩ = some (.int .i64 0) := by rw [World.cell?_setCell_other _ _ _ _ (by intro e; injection e with e1 _ _; omega), World.cell?_setCell_other _ _ _ _ (by intro e; injection e with e1 _ _; omega), World.cell?_setCell_other _ _ _ _ (by intro e; injection e with e1 _ _; omega), p3 _ _ z2' n1, p2 _ _ (by simp; omega) n1, World.cell?_alloc_past _ _ _ z1', p1 _ _ (by simp; omega) n1]; simp
      have b2 : (((w3.setCell ⟨w1.heap.size, 0, none⟩ (.int .i64 120000)).setCell ⟨w1.heap.size, 1, none⟩ (.int .i64 1001)).setCell ⟨w1.heap.size, 2, none⟩ (.bool false)).cell? ⟨w.heap.size, 2, none⟩ = some (.bool false) := by rw [World.cell?_setCell_other _ _ _ _ (by intro e; injection e with e1 _ _; omega), World.cell?_setCell_other _ _ _ _ (by intro e; injection e with e1 _ _; omega), World.cell?_setCell_other _ _ _ _ (by intro e; injection e with e1 _ _; omega), p3 _ _ z2' n1, p2 _ _ (by simp; omega) n1, World.cell?_alloc_past _ _ _ z1', p1 _ _ (by simp; omega) n1]; simp
      obtain ⟨y0, y1, y2⟩ := F_cells (X := (((w3.setCell ⟨w1.heap.size, 0, none⟩ (.int .i64 120000)).setCell ⟨w1.heap.size, 1, none⟩ (.int .i64 1001)).setCell ⟨w1.heap.size, 2, none⟩ (.bool false))) (b := w.heap.size) (v0 := .int .i64 120000) (v1 := .int .i64 1001) (v2 := .bool false) b0 b1 b2
      exact bodyPost_ret (v := .agg #[.int .i64 120000, .int .i64 1001, .bool false]) (by simp [results, Try.results28, go_sem, y0, y1, y2]) rfl ⟨_, _, _, rfl, ((((((unhide k3').set n1').set n1').set n1').set n1).set n1).set n1, grown_new (grown_new (grown_new (grown_new (grown_new (grown_new (unhide t3') (by omega)) (by omega)) (by omega)) (Nat.le_refl _)) (Nat.le_refl _)) (Nat.le_refl _)⟩

end Go.Proofs.Ytffibbcombjkcaa
