/-
  Contracts of the drawing functions of the model, over a cursor on bytes that came in: each answers, within its bounds, and writes into the cursor alone.
-/
import Derived.Test.YtdemcjppokhonaaKp
namespace Go.Proofs.Ytdemcjppokhonaa
open Go.RowKit
set_option linter.unusedVariables false

/-- a cursor in block g over the slice a, len, cap -/
def CurAt (w : World) (g : Nat) (a : Option Addr) (len cap : Nat) : Prop :=
  ∃ i h : Int, w.cell? ⟨g, 0, none⟩ = some (.slice a len cap) ∧ w.cell? ⟨g, 1, none⟩ = some (.int .i64 i) ∧ w.cell? ⟨g, 2, none⟩ = some (.int .i64 h) ∧ w.frozen? ⟨g, 1, none⟩ = false ∧ w.frozen? ⟨g, 2, none⟩ = false ∧ 0 ≤ i ∧ i ≤ len
/-- its bytes, in blocks below B -/
def RdB (w : World) (B : Nat) (a : Option Addr) (len : Nat) : Prop :=
  ∀ j, j < len → ∃ (b o : Nat) (z : Int), a = some ⟨b, o, none⟩ ∧ b < B ∧ w.cell? ⟨b, o + j, none⟩ = some (.int .u8 z) ∧ 0 ≤ z ∧ z ≤ 255

theorem grown_below {w w1 : World} {g : Option Nat} (h : Below w.heap.size w w1) : w.grownBy w1 g :=
  ⟨h.os, h.tape, h.output, h.size, fun j hj _ => h.block j hj⟩
theorem grown_drewN {w w1 : World} {g : Option Nat} (h : w.grownBy w1 g) (n : Nat) : w.grownBy (w1.drewN n) g :=
  grown_trans h ⟨rfl, rfl, rfl, Nat.le_refl _, fun _ _ _ => rfl⟩
theorem RdB.grown {w w1 : World} {B : Nat} {a : Option Addr} {len g : Nat} (h : RdB w B a len) (hg : w.grownBy w1 (some g)) (hB : B ≤ g) : RdB w1 B a len := by
  intro j hj
  obtain ⟨b, o, z, e, hb, hc, h0, h1⟩ := h j hj
  exact ⟨b, o, z, e, hb, hg.cell hc (by intro he; have := Option.some.inj he; simp at this; omega), h0, h1⟩

theorem and255 (n : Int) : 0 ≤ bits .and .i64 n 255 ∧ bits .and .i64 n 255 ≤ 255 := by
  have h : bits .and .i64 n 255 = IntKind.i64.wrap ((BitVec.ofInt 64 n &&& BitVec.ofInt 64 255).toNat : Int) := rfl
  have h2 : (BitVec.ofInt 64 n &&& BitVec.ofInt 64 255).toNat ≤ 255 := by
    rw [BitVec.toNat_and]
    have : (BitVec.ofInt 64 255).toNat = 255 := by decide
    rw [this]; exact Nat.and_le_right
  rw [h, IntKind.wrap_i64]
  omega

theorem cur_end {w : World} {g : Nat} {a : Option Addr} {len cap q : Nat} {i h h1 : Int} (c0 : w.cell? ⟨g, 0, none⟩ = some (.slice a len cap)) (c1 : w.cell? ⟨g, 1, none⟩ = some (.int .i64 i)) (c2 : w.cell? ⟨g, 2, none⟩ = some (.int .i64 h))
    (f1 : w.frozen? ⟨g, 1, none⟩ = false) (f2 : w.frozen? ⟨g, 2, none⟩ = false) (i0 : 0 ≤ i) (i1 : i ≤ len) : CurAt ((w.setCell ⟨g, 2, none⟩ (.int .i64 h1)).drewN q) g a len cap := by
  refine ⟨i, h1, ?_, ?_, ?_, ?_, ?_, i0, i1⟩
  · show (w.setCell ⟨g, 2, none⟩ (.int .i64 h1)).cell? _ = _
    rw [World.cell?_setCell_other _ _ _ _ (ne_off (by decide))]; exact c0
  · show (w.setCell ⟨g, 2, none⟩ (.int .i64 h1)).cell? _ = _
    rw [World.cell?_setCell_other _ _ _ _ (ne_off (by decide))]; exact c1
  · show (w.setCell ⟨g, 2, none⟩ (.int .i64 h1)).cell? _ = _
    exact World.cell?_setCell_same _ _ _ c2
  · show (w.setCell ⟨g, 2, none⟩ (.int .i64 h1)).frozen? _ = _
    rw [World.frozen?_setCell]; exact f1
  · show (w.setCell ⟨g, 2, none⟩ (.int .i64 h1)).frozen? _ = _
    rw [World.frozen?_setCell]; exact f2
theorem cur_next {w : World} {g : Nat} {a : Option Addr} {len cap : Nat} {i : Int} (h : CurAt w g a len cap) (i0 : 0 ≤ i) (i1 : i ≤ len) : CurAt (w.setCell ⟨g, 1, none⟩ (.int .i64 i)) g a len cap := by
  obtain ⟨i', h1, c0, c1, c2, f1, f2, _, _⟩ := h
  refine ⟨i, h1, ?_, ?_, ?_, ?_, ?_, i0, i1⟩
  · rw [World.cell?_setCell_other _ _ _ _ (ne_off (by decide))]; exact c0
  · exact World.cell?_setCell_same _ _ _ c1
  · rw [World.cell?_setCell_other _ _ _ _ (ne_off (by decide))]; exact c2
  · rw [World.frozen?_setCell]; exact f1
  · rw [World.frozen?_setCell]; exact f2
theorem CurAt.other {w w1 : World} {g : Nat} {a : Option Addr} {len cap : Nat} (h : CurAt w g a len cap) (hb : w1.heap[g]? = w.heap[g]?) : CurAt w1 g a len cap := by
  obtain ⟨i, h1, c0, c1, c2, f1, f2, i0, i1⟩ := h
  exact ⟨i, h1, (World.cell?_of_block (a := ⟨g, 0, none⟩) hb).trans c0, (World.cell?_of_block (a := ⟨g, 1, none⟩) hb).trans c1, (World.cell?_of_block (a := ⟨g, 2, none⟩) hb).trans c2, (World.frozen?_of_block (a := ⟨g, 1, none⟩) hb).trans f1, (World.frozen?_of_block (a := ⟨g, 2, none⟩) hb).trans f2, i0, i1⟩
theorem CurAt.lt {w : World} {g : Nat} {a : Option Addr} {len cap : Nat} (h : CurAt w g a len cap) : g < w.heap.size := by
  obtain ⟨i, h1, c0, _⟩ := h
  exact World.block_lt_of_cell? _ _ c0
theorem CurAt.below {w w1 : World} {g : Nat} {a : Option Addr} {len cap : Nat} (h : CurAt w g a len cap) (hb : Below w.heap.size w w1) : CurAt w1 g a len cap := h.other (hb.block g h.lt)

set_option maxHeartbeats 800000 in
theorem byte_more (g : Nat) (b o len cap : Nat) (i h z : Int) (w : World) (c0 : w.cell? ⟨g, 0, none⟩ = some (.slice (some ⟨b, o, none⟩) len cap)) (c1 : w.cell? ⟨g, 1, none⟩ = some (.int .i64 i)) (c2 : w.cell? ⟨g, 2, none⟩ = some (.int .i64 h))
    (f1 : w.frozen? ⟨g, 1, none⟩ = false) (f2 : w.frozen? ⟨g, 2, none⟩ = false) (i0 : 0 ≤ i) (i1 : i < len) (hl : len ≤ 9223372036854775807) (hbg : b ≠ g) (hz : w.cell? ⟨b, o + i.toNat, none⟩ = some (.int .u8 z)) (z0 : 0 ≤ z) (z1 : z ≤ 255) :
    Calls Try.prog 53 #[.pointer (some ⟨g, 0, none⟩)] w fun e w' => ∃ x, e = .returned (.int .i64 x) ∧ 0 ≤ x ∧ x ≤ 255 ∧ CurAt w' g (some ⟨b, o, none⟩) len cap ∧ w.grownBy w' (some g) := by
  obtain ⟨n, rfl⟩ := Int.eq_ofNat_of_zero_le i0
  rw [Int.toNat_natCast] at hz
  go_enter Try.func53, Try.ntmps53
  go_wp2
  generalize wrap64 (wrap64 (h * 6364136223846793005) + 1442695040888963407) = h1
  have hz' : (w.setCell ⟨g, 2, none⟩ (.int .i64 h1)).cell? ⟨b, o + n, none⟩ = some (.int .u8 z) := by
    rw [World.cell?_setCell_other _ _ _ _ (by intro e; injection e with e1 _ _; exact hbg e1.symm)]; exact hz
  go_quiet (fail)
  go_wp2
  obtain ⟨x0, x1⟩ := and255 (bits BinOp.xor IntKind.i64 (h1 / 8589934592) (h1 / 35184372088832))
  generalize bits BinOp.and IntKind.i64 (bits BinOp.xor IntKind.i64 (h1 / 8589934592) (h1 / 35184372088832)) 255 = x at *
  go_quiet (fail)
  go_wp2
  go_quiet (fail)
  go_wp2
  go_ret
  exact ⟨_, rfl, (and255 _).1, (and255 _).2, cur_next (cur_end c0 c1 c2 f1 f2 i0 (by omega)) (by omega) (by omega), grown_set (grown_drewN (grown_set (World.grownBy.refl _ _)) _)⟩

set_option maxHeartbeats 800000 in
theorem byte_last (g : Nat) (a : Option Addr) (len cap : Nat) (i h : Int) (w : World) (c0 : w.cell? ⟨g, 0, none⟩ = some (.slice a len cap)) (c1 : w.cell? ⟨g, 1, none⟩ = some (.int .i64 i)) (c2 : w.cell? ⟨g, 2, none⟩ = some (.int .i64 h))
    (f1 : w.frozen? ⟨g, 1, none⟩ = false) (f2 : w.frozen? ⟨g, 2, none⟩ = false) (i0 : 0 ≤ i) (i1 : i ≤ len) (i2 : ¬ i < len) (hl : len ≤ 9223372036854775807) :
    Calls Try.prog 53 #[.pointer (some ⟨g, 0, none⟩)] w fun e w' => ∃ x, e = .returned (.int .i64 x) ∧ 0 ≤ x ∧ x ≤ 255 ∧ CurAt w' g a len cap ∧ w.grownBy w' (some g) := by
  go_enter Try.func53, Try.ntmps53
  go_wp2
  generalize wrap64 (wrap64 (h * 6364136223846793005) + 1442695040888963407) = h1
  go_quiet (fail)
  go_wp2
  obtain ⟨x0, x1⟩ := and255 (bits BinOp.xor IntKind.i64 (h1 / 8589934592) (h1 / 35184372088832))
  generalize bits BinOp.and IntKind.i64 (bits BinOp.xor IntKind.i64 (h1 / 8589934592) (h1 / 35184372088832)) 255 = x at *
  go_quiet (fail)
  go_wp2
  go_ret
  exact ⟨x, rfl, x0, x1, by rw [World.drewN_drewN]; exact cur_end c0 c1 c2 f1 f2 i0 (by omega), grown_drewN (grown_drewN (grown_set (World.grownBy.refl _ _)) _) _⟩

theorem dbyte_any (B g : Nat) (a : Option Addr) (len cap : Nat) (w : World) (hB : B ≤ g) (hl : len ≤ 9223372036854775807) (hc : CurAt w g a len cap) (hr : RdB w B a len) :
    Calls Try.prog 53 #[.pointer (some ⟨g, 0, none⟩)] w fun e w' => ∃ x, e = .returned (.int .i64 x) ∧ 0 ≤ x ∧ x ≤ 255 ∧ CurAt w' g a len cap ∧ w.grownBy w' (some g) := by
  obtain ⟨i, h, c0, c1, c2, f1, f2, i0, i1⟩ := hc
  by_cases i2 : i < len
  · obtain ⟨b, o, z, rfl, hb, hz, z0, z1⟩ := hr i.toNat (by omega)
    exact byte_more g b o len cap i h z w c0 c1 c2 f1 f2 i0 i2 hl (by omega) hz z0 z1
  · exact byte_last g a len cap i h w c0 c1 c2 f1 f2 i0 i1 i2 hl

set_option maxHeartbeats 800000 in
theorem below_any (B g : Nat) (a : Option Addr) (len cap : Nat) (n : Int) (w : World) (hB : B ≤ g) (hl : len ≤ 9223372036854775807) (hc : CurAt w g a len cap) (hr : RdB w B a len) (n0 : 0 < n) :
    Calls Try.prog 41 #[.pointer (some ⟨g, 0, none⟩), .int .i64 n] w fun e w' => ∃ x, e = .returned (.int .i64 x) ∧ 0 ≤ x ∧ x < n ∧ CurAt w' g a len cap ∧ w.grownBy w' (some g) := by
  have hc' := hide hc
  have hr' := hide hr
  clear hc hr
  by_cases h : n ≤ 256
  · go_enter Try.func41, Try.ntmps41
    go_wp2_with fail
    refine (dbyte_any B g a len cap _ hB hl (unhide hc') (unhide hr')).mono ?_
    rintro e w1 ⟨x, rfl, x0, x1, k1, g1⟩
    go_wp2
    go_ret
    exact ⟨_, rfl, Int.emod_nonneg _ (by omega), Int.emod_lt_of_pos _ n0, k1, g1⟩
  · go_enter Try.func41, Try.ntmps41
    go_wp2_with fail
    refine (dbyte_any B g a len cap _ hB hl (unhide hc') (unhide hr')).mono ?_
    rintro e w1 ⟨x, rfl, x0, x1, k1, g1⟩
    have r1 := (unhide hr').grown g1 hB
    have k1' := hide k1
    have r1' := hide r1
    clear k1 r1
    go_wp2_with fail
    refine (dbyte_any B g a len cap _ hB hl (unhide k1') (unhide r1')).mono ?_
    rintro e w2 ⟨y, rfl, y0, y1, k2, g2⟩
    have r2 := (unhide r1').grown g2 hB
    have k2' := hide k2
    have r2' := hide r2
    clear k2 r2
    go_wp2_with fail
    refine (dbyte_any B g a len cap _ hB hl (unhide k2') (unhide r2')).mono ?_
    rintro e w3 ⟨z, rfl, z0, z1, k3, g3⟩
    have r3 := (unhide r2').grown g3 hB
    have k3' := hide k3
    have r3' := hide r3
    clear k3 r3
    go_wp2_with fail
    refine (dbyte_any B g a len cap _ hB hl (unhide k3') (unhide r3')).mono ?_
    rintro e w4 ⟨v, rfl, v0, v1, k4, g4⟩
    go_wp2
    go_ret
    exact ⟨_, rfl, Int.emod_nonneg _ (by omega), Int.emod_lt_of_pos _ n0, k4, grown_trans g1 (grown_trans g2 (grown_trans g3 g4))⟩

set_option maxHeartbeats 400000 in
theorem once_any (B g : Nat) (a : Option Addr) (len cap : Nat) (n : Int) (w : World) (hB : B ≤ g) (hl : len ≤ 9223372036854775807) (hc : CurAt w g a len cap) (hr : RdB w B a len) (n0 : 0 < n) :
    Calls Try.prog 44 #[.pointer (some ⟨g, 0, none⟩), .int .i64 n] w fun e w' => ∃ x, e = .returned (.bool x) ∧ CurAt w' g a len cap ∧ w.grownBy w' (some g) := by
  have hc' := hide hc
  have hr' := hide hr
  clear hc hr
  go_enter Try.func44, Try.ntmps44
  go_wp2_with fail
  refine (below_any B g a len cap n _ hB hl (unhide hc') (unhide hr') n0).mono ?_
  rintro e w1 ⟨x, rfl, x0, x1, k1, g1⟩
  go_wp2
  go_ret
  exact ⟨_, rfl, k1, g1⟩

set_option maxHeartbeats 800000 in
theorem new_any (a : Option Addr) (len cap : Nat) (w : World) (hl : len ≤ 9223372036854775807) (hl2 : len ≤ 1000000) (hr : RdB w w.heap.size a len) :
    Calls Try.prog 35 #[.slice a len cap] w fun e w' => ∃ g, e = .returned (.pointer (some ⟨g, 0, none⟩)) ∧ w.heap.size ≤ g ∧ CurAt w' g a len cap ∧ Below w.heap.size w w' := by
  go_enter Try.func35, Try.ntmps35
  go_wp2
  go_loop [3, 4] (fun s t => ∃ (k : Nat) (h : Int), k ≤ len ∧ t = .int .i64 k ∧ s = .int .i64 h) (fun _ t => len - (intOf t).toNat)
  case atStart => exact ⟨0, _, Nat.zero_le _, rfl, rfl⟩
  case round =>
    obtain ⟨k, h, hk, rfl, rfl⟩ := hrel
    by_cases hlt : k < len
    · obtain ⟨b, o, z, rfl, hb, hz, z0, z1⟩ := hr k hlt
      have hr' := hide hr
      clear hr
      go_wp2
      go_round
      case rel => exact ⟨k + 1, _, by omega, by go_num, rfl⟩
      case measure => simp [intOf]; omega
    · have hr' := hide hr
      clear hr
      go_wp2
      go_ret
      refine ⟨w.heap.size, rfl, Nat.le_refl _, ⟨0, h, by simp, by simp, by simp, by simp, by simp, by omega, by omega⟩, (Below.refl _ _).alloc (Nat.le_refl _) _⟩
end Go.Proofs.Ytdemcjppokhonaa
