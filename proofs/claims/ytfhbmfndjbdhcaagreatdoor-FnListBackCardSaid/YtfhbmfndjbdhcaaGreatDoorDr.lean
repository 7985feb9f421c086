/-
  Contracts of the drawing functions of the model, over a cursor on bytes that came in: each answers, within its bounds, and writes into the cursor alone.
  Contracts of the model's draws of clips and tracks, over a cursor on bytes that came in: each answers; the answer is new memory, and what was there but for the cursor stays.
  Contracts of the model's new cursor and of its drawn rate: each answers, and writes into the cursor and what it makes alone.
-/
import Derived.Test.YtfhbmfndjbdhcaaGreatDoorJn
namespace Go.Proofs.YtfhbmfndjbdhcaaGreatDoor
open Go.RowKit
set_option linter.unusedVariables false

/-- a cursor in block g over the slice a, len, cap -/
def CurAt (w : World) (g : Nat) (a : Option Addr) (len cap : Nat) : Prop :=
  ∃ i h : Int, w.cell? ⟨g, 0, none⟩ = some (.slice a len cap) ∧ w.cell? ⟨g, 1, none⟩ = some (.int .i64 i) ∧ w.cell? ⟨g, 2, none⟩ = some (.int .i64 h) ∧ w.frozen? ⟨g, 1, none⟩ = false ∧ w.frozen? ⟨g, 2, none⟩ = false ∧ 0 ≤ i ∧ i ≤ len
/-- its bytes, in blocks below B -/
def RdB (w : World) (B : Nat) (a : Option Addr) (len : Nat) : Prop :=
  ∀ j, j < len → ∃ (b o : Nat) (z : Int), a = some ⟨b, o, none⟩ ∧ b < B ∧ w.cell? ⟨b, o + j, none⟩ = some (.int .u8 z) ∧ 0 ≤ z ∧ z ≤ 255

theorem grow_below {w w1 : World} {g : Option Nat} (h : Below w.heap.size w w1) : w.grownBy w1 g :=
  ⟨h.os, h.tape, h.output, h.size, fun j hj _ => h.block j hj⟩
theorem grown_drewN {w w1 : World} {g : Option Nat} (h : w.grownBy w1 g) (n : Nat) : w.grownBy (w1.drewN n) g :=
  grown_trans h ⟨rfl, rfl, rfl, Nat.le_refl _, fun _ _ _ => rfl⟩
theorem RdB.grown {w w1 : World} {B : Nat} {a : Option Addr} {len g : Nat} (h : RdB w B a len) (hg : w.grownBy w1 (some g)) (hB : B ≤ g) : RdB w1 B a len := by
  intro j hj
  obtain ⟨b, o, z, e, hb, hc, h0, h1⟩ := h j hj
  exact ⟨b, o, z, e, hb, hg.cell hc (by intro he; have := Option.some.inj he; simp at this; omega), h0, h1⟩

theorem and255 (n : Int) : 0 ≤ bits .and .i64 n 255 ∧ bits .and .i64 n 255 ≤ 255 := by
  have h : bits .and .i64 n 255 = IntKind.i64.wrap ((BitVec.ofInt 64 n &&& BitVec.ofInt 64 255).toNat : Int) := rfl
  have h2 : (BitVec.ofInt 64 n &&& BitVec.ofInt 64 255).toNat ≤ 255 := by
    rw [BitVec.toNat_and]
    have : (BitVec.ofInt 64 255).toNat = 255 := by decide
    rw [this]; exact Nat.and_le_right
  rw [h, IntKind.wrap_i64]
  omega

theorem ne_off {g i j : Nat} (h : i ≠ j) : (⟨g, i, none⟩ : Addr) ≠ ⟨g, j, none⟩ := by intro e; injection e with _ e2 _; exact h e2
theorem cur_end {w : World} {g : Nat} {a : Option Addr} {len cap q : Nat} {i h h1 : Int} (c0 : w.cell? ⟨g, 0, none⟩ = some (.slice a len cap)) (c1 : w.cell? ⟨g, 1, none⟩ = some (.int .i64 i)) (c2 : w.cell? ⟨g, 2, none⟩ = some (.int .i64 h))
    (f1 : w.frozen? ⟨g, 1, none⟩ = false) (f2 : w.frozen? ⟨g, 2, none⟩ = false) (i0 : 0 ≤ i) (i1 : i ≤ len) : CurAt ((w.setCell ⟨g, 2, none⟩ (.int .i64 h1)).drewN q) g a len cap := by
  refine ⟨i, h1, ?_, ?_, ?_, ?_, ?_, i0, i1⟩
  · show (w.setCell ⟨g, 2, none⟩ (.int .i64 h1)).cell? _ = _
    rw [World.cell?_setCell_other _ _ _ _ (ne_off (by decide))]; exact c0
  · show (w.setCell ⟨g, 2, none⟩ (.int .i64 h1)).cell? _ = _
    rw [World.cell?_setCell_other _ _ _ _ (ne_off (by decide))]; exact c1
  · show (w.setCell ⟨g, 2, none⟩ (.int .i64 h1)).cell? _ = _
    exact World.cell?_setCell_same _ _ _ c2
  · show (w.setCell ⟨g, 2, none⟩ (.int .i64 h1)).frozen? _ = _
    rw [World.frozen?_setCell]; exact f1
  · show (w.setCell ⟨g, 2, none⟩ (.int .i64 h1)).frozen? _ = _
    rw [World.frozen?_setCell]; exact f2
theorem cur_next {w : World} {g : Nat} {a : Option Addr} {len cap : Nat} {i : Int} (h : CurAt w g a len cap) (i0 : 0 ≤ i) (i1 : i ≤ len) : CurAt (w.setCell ⟨g, 1, none⟩ (.int .i64 i)) g a len cap := by
  obtain ⟨i', h1, c0, c1, c2, f1, f2, _, _⟩ := h
  refine ⟨i, h1, ?_, ?_, ?_, ?_, ?_, i0, i1⟩
  · rw [World.cell?_setCell_other _ _ _ _ (ne_off (by decide))]; exact c0
  · exact World.cell?_setCell_same _ _ _ c1
  · rw [World.cell?_setCell_other _ _ _ _ (ne_off (by decide))]; exact c2
  · rw [World.frozen?_setCell]; exact f1
  · rw [World.frozen?_setCell]; exact f2
theorem CurAt.other {w w1 : World} {g : Nat} {a : Option Addr} {len cap : Nat} (h : CurAt w g a len cap) (hb : w1.heap[g]? = w.heap[g]?) : CurAt w1 g a len cap := by
  obtain ⟨i, h1, c0, c1, c2, f1, f2, i0, i1⟩ := h
  exact ⟨i, h1, (World.cell?_of_block (a := ⟨g, 0, none⟩) hb).trans c0, (World.cell?_of_block (a := ⟨g, 1, none⟩) hb).trans c1, (World.cell?_of_block (a := ⟨g, 2, none⟩) hb).trans c2, (World.frozen?_of_block (a := ⟨g, 1, none⟩) hb).trans f1, (World.frozen?_of_block (a := ⟨g, 2, none⟩) hb).trans f2, i0, i1⟩
theorem CurAt.lt {w : World} {g : Nat} {a : Option Addr} {len cap : Nat} (h : CurAt w g a len cap) : g < w.heap.size := by
  obtain ⟨i, h1, c0, _⟩ := h
  exact World.block_lt_of_cell? _ _ c0
theorem CurAt.below {w w1 : World} {g : Nat} {a : Option Addr} {len cap : Nat} (h : CurAt w g a len cap) (hb : Below w.heap.size w w1) : CurAt w1 g a len cap := h.other (hb.block g h.lt)

set_option maxHeartbeats 800000 in
theorem byte_more (g : Nat) (b o len cap : Nat) (i h z : Int) (w : World) (c0 : w.cell? ⟨g, 0, none⟩ = some (.slice (some ⟨b, o, none⟩) len cap)) (c1 : w.cell? ⟨g, 1, none⟩ = some (.int .i64 i)) (c2 : w.cell? ⟨g, 2, none⟩ = some (.int .i64 h))
    (f1 : w.frozen? ⟨g, 1, none⟩ = false) (f2 : w.frozen? ⟨g, 2, none⟩ = false) (i0 : 0 ≤ i) (i1 : i < len) (hl : len ≤ 9223372036854775807) (hbg : b ≠ g) (hz : w.cell? ⟨b, o + i.toNat, none⟩ = some (.int .u8 z)) (z0 : 0 ≤ z) (z1 : z ≤ 255) :
    Calls Tryz.prog 58 #[.pointer (some ⟨g, 0, none⟩)] w fun e w' => ∃ x, e = .returned (.int .i64 x) ∧ 0 ≤ x ∧ x ≤ 255 ∧ CurAt w' g (some ⟨b, o, none⟩) len cap ∧ w.grownBy w' (some g) := by
  obtain ⟨n, rfl⟩ := Int.eq_ofNat_of_zero_le i0
  rw [Int.toNat_natCast] at hz
  go_enter Tryz.func58, Tryz.ntmps58
  go_wp2
  generalize wrap64 (wrap64 (h * 6364136223846793005) + 1442695040888963407) = h1
  have hz' : (w.setCell ⟨g, 2, none⟩ (.int .i64 h1)).cell? ⟨b, o + n, none⟩ = some (.int .u8 z) := by
    rw [World.cell?_setCell_other _ _ _ _ (by intro e; injection e with e1 _ _; exact hbg e1.symm)]; exact hz
  go_quiet (fail)
  go_wp2
  obtain ⟨x0, x1⟩ := and255 (bits BinOp.xor IntKind.i64 (h1 / 8589934592) (h1 / 35184372088832))
  generalize bits BinOp.and IntKind.i64 (bits BinOp.xor IntKind.i64 (h1 / 8589934592) (h1 / 35184372088832)) 255 = x at *
  go_quiet (fail)
  go_wp2
  go_quiet (fail)
  go_wp2
  go_ret
  exact ⟨_, rfl, (and255 _).1, (and255 _).2, cur_next (cur_end c0 c1 c2 f1 f2 i0 (by omega)) (by omega) (by omega), grown_set (grown_drewN (grown_set (World.grownBy.refl _ _)) _)⟩

set_option maxHeartbeats 800000 in
theorem byte_last (g : Nat) (a : Option Addr) (len cap : Nat) (i h : Int) (w : World) (c0 : w.cell? ⟨g, 0, none⟩ = some (.slice a len cap)) (c1 : w.cell? ⟨g, 1, none⟩ = some (.int .i64 i)) (c2 : w.cell? ⟨g, 2, none⟩ = some (.int .i64 h))
    (f1 : w.frozen? ⟨g, 1, none⟩ = false) (f2 : w.frozen? ⟨g, 2, none⟩ = false) (i0 : 0 ≤ i) (i1 : i ≤ len) (i2 : ¬ i < len) (hl : len ≤ 9223372036854775807) :
    Calls Tryz.prog 58 #[.pointer (some ⟨g, 0, none⟩)] w fun e w' => ∃ x, e = .returned (.int .i64 x) ∧ 0 ≤ x ∧ x ≤ 255 ∧ CurAt w' g a len cap ∧ w.grownBy w' (some g) := by
  go_enter Tryz.func58, Tryz.ntmps58
  go_wp2
  generalize wrap64 (wrap64 (h * 6364136223846793005) + 1442695040888963407) = h1
  go_quiet (fail)
  go_wp2
  obtain ⟨x0, x1⟩ := and255 (bits BinOp.xor IntKind.i64 (h1 / 8589934592) (h1 / 35184372088832))
  generalize bits BinOp.and IntKind.i64 (bits BinOp.xor IntKind.i64 (h1 / 8589934592) (h1 / 35184372088832)) 255 = x at *
  go_quiet (fail)
  go_wp2
  go_ret
  exact ⟨x, rfl, x0, x1, by rw [World.drewN_drewN]; exact cur_end c0 c1 c2 f1 f2 i0 (by omega), grown_drewN (grown_drewN (grown_set (World.grownBy.refl _ _)) _) _⟩

theorem byte_any (B g : Nat) (a : Option Addr) (len cap : Nat) (w : World) (hB : B ≤ g) (hl : len ≤ 9223372036854775807) (hc : CurAt w g a len cap) (hr : RdB w B a len) :
    Calls Tryz.prog 58 #[.pointer (some ⟨g, 0, none⟩)] w fun e w' => ∃ x, e = .returned (.int .i64 x) ∧ 0 ≤ x ∧ x ≤ 255 ∧ CurAt w' g a len cap ∧ w.grownBy w' (some g) := by
  obtain ⟨i, h, c0, c1, c2, f1, f2, i0, i1⟩ := hc
  by_cases i2 : i < len
  · obtain ⟨b, o, z, rfl, hb, hz, z0, z1⟩ := hr i.toNat (by omega)
    exact byte_more g b o len cap i h z w c0 c1 c2 f1 f2 i0 i2 hl (by omega) hz z0 z1
  · exact byte_last g a len cap i h w c0 c1 c2 f1 f2 i0 i1 i2 hl

set_option maxHeartbeats 800000 in
theorem below_any (B g : Nat) (a : Option Addr) (len cap : Nat) (n : Int) (w : World) (hB : B ≤ g) (hl : len ≤ 9223372036854775807) (hc : CurAt w g a len cap) (hr : RdB w B a len) (n0 : 0 < n) :
    Calls Tryz.prog 32 #[.pointer (some ⟨g, 0, none⟩), .int .i64 n] w fun e w' => ∃ x, e = .returned (.int .i64 x) ∧ 0 ≤ x ∧ x < n ∧ CurAt w' g a len cap ∧ w.grownBy w' (some g) := by
  have hc' := hide hc
  have hr' := hide hr
  clear hc hr
  by_cases h : n ≤ 256
  · go_enter Tryz.func32, Tryz.ntmps32
    go_wp2_with fail
    refine (byte_any B g a len cap _ hB hl (unhide hc') (unhide hr')).mono ?_
    rintro e w1 ⟨x, rfl, x0, x1, k1, g1⟩
    go_wp2
    go_ret
    exact ⟨_, rfl, Int.emod_nonneg _ (by omega), Int.emod_lt_of_pos _ n0, k1, g1⟩
  · go_enter Tryz.func32, Tryz.ntmps32
    go_wp2_with fail
    refine (byte_any B g a len cap _ hB hl (unhide hc') (unhide hr')).mono ?_
    rintro e w1 ⟨x, rfl, x0, x1, k1, g1⟩
    have r1 := (unhide hr').grown g1 hB
    have k1' := hide k1
    have r1' := hide r1
    clear k1 r1
    go_wp2_with fail
    refine (byte_any B g a len cap _ hB hl (unhide k1') (unhide r1')).mono ?_
    rintro e w2 ⟨y, rfl, y0, y1, k2, g2⟩
    have r2 := (unhide r1').grown g2 hB
    have k2' := hide k2
    have r2' := hide r2
    clear k2 r2
    go_wp2_with fail
    refine (byte_any B g a len cap _ hB hl (unhide k2') (unhide r2')).mono ?_
    rintro e w3 ⟨z, rfl, z0, z1, k3, g3⟩
    have r3 := (unhide r2').grown g3 hB
    have k3' := hide k3
    have r3' := hide r3
    clear k3 r3
    go_wp2_with fail
    refine (byte_any B g a len cap _ hB hl (unhide k3') (unhide r3')).mono ?_
    rintro e w4 ⟨v, rfl, v0, v1, k4, g4⟩
    go_wp2
    go_ret
    exact ⟨_, rfl, Int.emod_nonneg _ (by omega), Int.emod_lt_of_pos _ n0, k4, grown_trans g1 (grown_trans g2 (grown_trans g3 g4))⟩

set_option maxHeartbeats 400000 in
theorem once_any (B g : Nat) (a : Option Addr) (len cap : Nat) (n : Int) (w : World) (hB : B ≤ g) (hl : len ≤ 9223372036854775807) (hc : CurAt w g a len cap) (hr : RdB w B a len) (n0 : 0 < n) :
    Calls Tryz.prog 16 #[.pointer (some ⟨g, 0, none⟩), .int .i64 n] w fun e w' => ∃ x, e = .returned (.bool x) ∧ CurAt w' g a len cap ∧ w.grownBy w' (some g) := by
  have hc' := hide hc
  have hr' := hide hr
  clear hc hr
  go_enter Tryz.func16, Tryz.ntmps16
  go_wp2_with fail
  refine (below_any B g a len cap n _ hB hl (unhide hc') (unhide hr') n0).mono ?_
  rintro e w1 ⟨x, rfl, x0, x1, k1, g1⟩
  go_wp2
  go_ret
  exact ⟨_, rfl, k1, g1⟩

set_option maxHeartbeats 800000 in
theorem new_any (a : Option Addr) (len cap : Nat) (w : World) (hl : len ≤ 9223372036854775807) (hl2 : len ≤ 1000000) (hr : RdB w w.heap.size a len) :
    Calls Tryz.prog 13 #[.slice a len cap] w fun e w' => ∃ g, e = .returned (.pointer (some ⟨g, 0, none⟩)) ∧ w.heap.size ≤ g ∧ CurAt w' g a len cap ∧ Below w.heap.size w w' := by
  go_enter Tryz.func13, Tryz.ntmps13
  go_wp2
  go_loop [3, 4] (fun s t => ∃ (k : Nat) (h : Int), k ≤ len ∧ t = .int .i64 k ∧ s = .int .i64 h) (fun _ t => len - (intOf t).toNat)
  case atStart => exact ⟨0, _, Nat.zero_le _, rfl, rfl⟩
  case round =>
    obtain ⟨k, h, hk, rfl, rfl⟩ := hrel
    by_cases hlt : k < len
    · obtain ⟨b, o, z, rfl, hb, hz, z0, z1⟩ := hr k hlt
      have hr' := hide hr
      clear hr
      go_wp2
      go_round
      case rel => exact ⟨k + 1, _, by omega, by go_num, rfl⟩
      case measure => simp [intOf]; omega
    · have hr' := hide hr
      clear hr
      go_wp2
      go_ret
      refine ⟨w.heap.size, rfl, Nat.le_refl _, ⟨0, h, by simp, by simp, by simp, by simp, by simp, by omega, by omega⟩, (Below.refl _ _).alloc (Nat.le_refl _) _⟩
end Go.Proofs.YtfhbmfndjbdhcaaGreatDoor

namespace Go.Proofs.YtfhbmfndjbdhcaaGreatDoor
open Go.RowKit
set_option linter.unusedVariables false
set_option linter.unusedSimpArgs false

theorem grown_alloc {w w1 : World} {g : Option Nat} (h : w.grownBy w1 g) (o : Obj) : w.grownBy (w1.alloc o) g :=
  grown_trans h (grow_below ((Below.refl _ _).alloc (Nat.le_refl _) _))
/-- the draws' state: a cursor in g over bytes below B, and all but the cursor as in w -/
structure DS (w : World) (B g : Nat) (a : Option Addr) (len cap : Nat) (wr : World) : Prop where
  cur : CurAt wr g a len cap
  rd : RdB wr B a len
  gr : w.grownBy wr (some g)
theorem DS.step {w wr w1 : World} {B g : Nat} {a : Option Addr} {len cap : Nat} (h : DS w B g a len cap wr) (hB : B ≤ g) (hc : CurAt w1 g a len cap) (hg : wr.grownBy w1 (some g)) : DS w B g a len cap w1 :=
  ⟨hc, h.rd.grown hg hB, grown_trans h.gr hg⟩
theorem DS.later {w wr w1 : World} {B g : Nat} {a : Option Addr} {len cap : Nat} (h : DS w B g a len cap wr) (hB : B ≤ g) (hb : Below wr.heap.size wr w1) : DS w B g a len cap w1 :=
  h.step hB (h.cur.below hb) (grow_below hb)
theorem grown_cell {w w1 : World} {g b o : Nat} {v : Value} (h : w.grownBy w1 (some g)) (hne : b ≠ g) (hc : w.cell? ⟨b, o, none⟩ = some v) : w1.cell? ⟨b, o, none⟩ = some v :=
  h.cell hc (by intro e; have := Option.some.inj e; simp at this; omega)
theorem grown_frozen {w w1 : World} {g b o : Nat} (h : w.grownBy w1 (some g)) (hne : b ≠ g) (hb : b < w.heap.size) : w1.frozen? ⟨b, o, none⟩ = w.frozen? ⟨b, o, none⟩ :=
  World.frozen?_of_block (a := ⟨b, o, none⟩) (h.block b hb (by intro e; injection e with e; omega))

/-- three numbers in a block that may be written -/
structure Ck3 (w : World) (r : Nat) : Prop where
  ex : ∃ x y z : Int, w.cell? ⟨r, 0, none⟩ = some (.int .i64 x) ∧ w.cell? ⟨r, 1, none⟩ = some (.int .i64 y) ∧ w.cell? ⟨r, 2, none⟩ = some (.int .i64 z)
  f0 : w.frozen? ⟨r, 0, none⟩ = false
  f1 : w.frozen? ⟨r, 1, none⟩ = false
  f2 : w.frozen? ⟨r, 2, none⟩ = false
theorem Ck3.lt {w : World} {r : Nat} (h : Ck3 w r) : r < w.heap.size := by
  obtain ⟨x, y, z, c0, _, _⟩ := h.ex
  exact World.block_lt_of_cell? _ _ c0
theorem Ck3.grown {w w1 : World} {r g : Nat} (h : Ck3 w r) (hg : w.grownBy w1 (some g)) (hne : r ≠ g) : Ck3 w1 r := by
  obtain ⟨x, y, z, c0, c1, c2⟩ := h.ex
  have hl := h.lt
  exact ⟨⟨x, y, z, grown_cell hg hne c0, grown_cell hg hne c1, grown_cell hg hne c2⟩, (grown_frozen hg hne hl).trans h.f0, (grown_frozen hg hne hl).trans h.f1, (grown_frozen hg hne hl).trans h.f2⟩
theorem Ck3.set {w : World} {r i : Nat} {v : Int} (h : Ck3 w r) (hi : i < 3) : Ck3 (w.setCell ⟨r, i, none⟩ (.int .i64 v)) r := by
  obtain ⟨x, y, z, c0, c1, c2⟩ := h.ex
  refine ⟨?_, by rw [World.frozen?_setCell]; exact h.f0, by rw [World.frozen?_setCell]; exact h.f1, by rw [World.frozen?_setCell]; exact h.f2⟩
  match i, hi with
  | 0, _ => exact ⟨v, y, z, World.cell?_setCell_same _ _ _ c0, by rw [World.cell?_setCell_other _ _ _ _ (ne_addr (by decide))]; exact c1, by rw [World.cell?_setCell_other _ _ _ _ (ne_addr (by decide))]; exact c2⟩
  | 1, _ => exact ⟨x, v, z, by rw [World.cell?_setCell_other _ _ _ _ (ne_addr (by decide))]; exact c0, World.cell?_setCell_same _ _ _ c1, by rw [World.cell?_setCell_other _ _ _ _ (ne_addr (by decide))]; exact c2⟩
  | 2, _ => exact ⟨x, y, v, by rw [World.cell?_setCell_other _ _ _ _ (ne_addr (by decide))]; exact c0, by rw [World.cell?_setCell_other _ _ _ _ (ne_addr (by decide))]; exact c1, World.cell?_setCell_same _ _ _ c2⟩

theorem Ck3.block {w w1 : World} {r : Nat} (h : Ck3 w r) (hb : w1.heap[r]? = w.heap[r]?) : Ck3 w1 r := by
  obtain ⟨x, y, z, c0, c1, c2⟩ := h.ex
  have C := fun i => World.cell?_of_block (a := ⟨r, i, none⟩) hb
  have F := fun i => World.frozen?_of_block (a := ⟨r, i, none⟩) hb
  exact ⟨⟨x, y, z, (C _).trans c0, (C _).trans c1, (C _).trans c2⟩, (F _).trans h.f0, (F _).trans h.f1, (F _).trans h.f2⟩
theorem heap_set_ne {w : World} {b i : Nat} {v : Value} {r : Nat} (h : r ≠ b) : (w.setCell ⟨b, i, none⟩ v).heap[r]? = w.heap[r]? := by
  have hg : b ≠ r := fun e => h e.symm
  simp [World.setCell, Array.getElem?_modify, hg]
theorem grown_set_new {w w1 : World} {g : Option Nat} {r i : Nat} {v : Value} (h : w.grownBy w1 g) (hr : w.heap.size ≤ r) : w.grownBy (w1.setCell ⟨r, i, none⟩ v) g :=
  ⟨h.os, h.tape, h.output, by simp; exact h.size, fun j hj hn => (heap_set_ne (by omega)).trans (h.block j hj hn)⟩
/-- the state while a clip is drawn: the cursor, the answer's cells, the clip's cells -/
structure KSt (w : World) (B g : Nat) (a : Option Addr) (len cap r kb : Nat) (wr : World) (x y z : Int) : Prop where
  ds : DS w B g a len cap wr
  rr : Ck3 wr r
  c0 : wr.cell? ⟨kb, 0, none⟩ = some (.int .i64 x)
  c1 : wr.cell? ⟨kb, 1, none⟩ = some (.int .i64 y)
  c2 : wr.cell? ⟨kb, 2, none⟩ = some (.int .i64 z)
  f0 : wr.frozen? ⟨kb, 0, none⟩ = false
  f1 : wr.frozen? ⟨kb, 1, none⟩ = false
  f2 : wr.frozen? ⟨kb, 2, none⟩ = false
section
variable {w : World} {B g : Nat} {a : Option Addr} {len cap r kb : Nat} {wr w1 : World} {x y z : Int}
theorem KSt.call (h : KSt w B g a len cap r kb wr x y z) (hB : B ≤ g) (hr : r ≠ g) (hk : kb ≠ g) (hc : CurAt w1 g a len cap) (hg : wr.grownBy w1 (some g)) : KSt w B g a len cap r kb w1 x y z := by
  have hl := World.block_lt_of_cell? _ _ h.c0
  simp only at hl
  exact ⟨h.ds.step hB hc hg, h.rr.grown hg hr, grown_cell hg hk h.c0, grown_cell hg hk h.c1, grown_cell hg hk h.c2, (grown_frozen hg hk hl).trans h.f0, (grown_frozen hg hk hl).trans h.f1, (grown_frozen hg hk hl).trans h.f2⟩
theorem KSt.later (h : KSt w B g a len cap r kb wr x y z) (hB : B ≤ g) (hr : r ≠ g) (hk : kb ≠ g) (hb : Below wr.heap.size wr w1) : KSt w B g a len cap r kb w1 x y z :=
  h.call hB hr hk (h.ds.cur.below hb) (grow_below hb)
theorem DS.set (h : DS w B g a len cap wr) (hB : B ≤ g) (hwk : w.heap.size ≤ kb) (hk : kb ≠ g) (hBk : B ≤ kb) {i : Nat} {v : Value} : DS w B g a len cap (wr.setCell ⟨kb, i, none⟩ v) := by
  refine ⟨h.cur.other (heap_set_ne (fun e => hk e.symm)), ?_, grown_set_new h.gr hwk⟩
  intro j hj
  obtain ⟨b, o, q, e, hb, hc, h0, h1⟩ := h.rd j hj
  exact ⟨b, o, q, e, hb, by rw [World.cell?_setCell_other _ _ _ _ (ne_blk (by omega))]; exact hc, h0, h1⟩
theorem KSt.set0 (h : KSt w B g a len cap r kb wr x y z) (hB : B ≤ g) (hwk : w.heap.size ≤ kb) (hk : kb ≠ g) (hBk : B ≤ kb) (hr : r ≠ kb) (v : Int) : KSt w B g a len cap r kb (wr.setCell ⟨kb, 0, none⟩ (.int .i64 v)) v y z :=
  ⟨h.ds.set hB hwk hk hBk, h.rr.block (heap_set_ne hr), World.cell?_setCell_same _ _ _ h.c0, by rw [World.cell?_setCell_other _ _ _ _ (ne_addr (by decide))]; exact h.c1, by rw [World.cell?_setCell_other _ _ _ _ (ne_addr (by decide))]; exact h.c2, by rw [World.frozen?_setCell]; exact h.f0, by rw [World.frozen?_setCell]; exact h.f1, by rw [World.frozen?_setCell]; exact h.f2⟩
theorem KSt.set1 (h : KSt w B g a len cap r kb wr x y z) (hB : B ≤ g) (hwk : w.heap.size ≤ kb) (hk : kb ≠ g) (hBk : B ≤ kb) (hr : r ≠ kb) (v : Int) : KSt w B g a len cap r kb (wr.setCell ⟨kb, 1, none⟩ (.int .i64 v)) x v z :=
  ⟨h.ds.set hB hwk hk hBk, h.rr.block (heap_set_ne hr), by rw [World.cell?_setCell_other _ _ _ _ (ne_addr (by decide))]; exact h.c0, World.cell?_setCell_same _ _ _ h.c1, by rw [World.cell?_setCell_other _ _ _ _ (ne_addr (by decide))]; exact h.c2, by rw [World.frozen?_setCell]; exact h.f0, by rw [World.frozen?_setCell]; exact h.f1, by rw [World.frozen?_setCell]; exact h.f2⟩
theorem KSt.set2 (h : KSt w B g a len cap r kb wr x y z) (hB : B ≤ g) (hwk : w.heap.size ≤ kb) (hk : kb ≠ g) (hBk : B ≤ kb) (hr : r ≠ kb) (v : Int) : KSt w B g a len cap r kb (wr.setCell ⟨kb, 2, none⟩ (.int .i64 v)) x y v :=
  ⟨h.ds.set hB hwk hk hBk, h.rr.block (heap_set_ne hr), by rw [World.cell?_setCell_other _ _ _ _ (ne_addr (by decide))]; exact h.c0, by rw [World.cell?_setCell_other _ _ _ _ (ne_addr (by decide))]; exact h.c1, World.cell?_setCell_same _ _ _ h.c2, by rw [World.frozen?_setCell]; exact h.f0, by rw [World.frozen?_setCell]; exact h.f1, by rw [World.frozen?_setCell]; exact h.f2⟩
theorem KSt.fin (h : KSt w B g a len cap r kb wr x y z) (hB : B ≤ g) (hwr : w.heap.size ≤ r) (hr : r ≠ g) (hBr : B ≤ r) : DS w B g a len cap (((wr.setCell ⟨r, 0, none⟩ (.int .i64 x)).setCell ⟨r, 1, none⟩ (.int .i64 y)).setCell ⟨r, 2, none⟩ (.int .i64 z)) :=
  ((h.ds.set hB hwr hr hBr).set hB hwr hr hBr).set hB hwr hr hBr
end
theorem lit3 {w : World} {T : TypeId} {k : Nat} {a0 a1 a2 : Int} (hk : k < 3) : ∃ v : Int, (w.alloc (.cells #[.int .i64 a0, .int .i64 a1, .int .i64 a2] T)).cell? ⟨w.heap.size, k, none⟩ = some (.int .i64 v) := by
  match k, hk with
  | 0, _ => exact ⟨a0, by simp [go_sem]⟩
  | 1, _ => exact ⟨a1, by simp [go_sem]⟩
  | 2, _ => exact ⟨a2, by simp [go_sem]⟩
theorem lit4 {w : World} {T : TypeId} {k : Nat} {a0 a1 a2 a3 : Int} (hk : k < 4) : ∃ v : Int, (w.alloc (.cells #[.int .i64 a0, .int .i64 a1, .int .i64 a2, .int .i64 a3] T)).cell? ⟨w.heap.size, k, none⟩ = some (.int .i64 v) := by
  match k, hk with
  | 0, _ => exact ⟨a0, by simp [go_sem]⟩
  | 1, _ => exact ⟨a1, by simp [go_sem]⟩
  | 2, _ => exact ⟨a2, by simp [go_sem]⟩
  | 3, _ => exact ⟨a3, by simp [go_sem]⟩
theorem lit5 {w : World} {T : TypeId} {k : Nat} {a0 a1 a2 a3 a4 : Int} (hk : k < 5) : ∃ v : Int, (w.alloc (.cells #[.int .i64 a0, .int .i64 a1, .int .i64 a2, .int .i64 a3, .int .i64 a4] T)).cell? ⟨w.heap.size, k, none⟩ = some (.int .i64 v) := by
  match k, hk with
  | 0, _ => exact ⟨a0, by simp [go_sem]⟩
  | 1, _ => exact ⟨a1, by simp [go_sem]⟩
  | 2, _ => exact ⟨a2, by simp [go_sem]⟩
  | 3, _ => exact ⟨a3, by simp [go_sem]⟩
  | 4, _ => exact ⟨a4, by simp [go_sem]⟩

end Go.Proofs.YtfhbmfndjbdhcaaGreatDoor

namespace Go.Proofs.YtfhbmfndjbdhcaaGreatDoor
open Go.RowKit
set_option linter.unusedVariables false

theorem grown_below {w w1 : World} {g : Option Nat} (h : Below w.heap.size w w1) : w.grownBy w1 g := ⟨h.os, h.tape, h.output, h.size, fun j hj _ => h.block j hj⟩
theorem gcell {W w1 : World} {g : Nat} (h : W.grownBy w1 (some g)) : (∀ b o, b < W.heap.size → b ≠ g → w1.cell? ⟨b, o, none⟩ = W.cell? ⟨b, o, none⟩) ∧ (∀ b o, b < W.heap.size → b ≠ g → w1.frozen? ⟨b, o, none⟩ = W.frozen? ⟨b, o, none⟩) :=
  ⟨fun b o hb hn => World.cell?_of_block (a := ⟨b, o, none⟩) (h.block b hb (by intro e; exact hn (Option.some.inj e))), fun b o hb hn => World.frozen?_of_block (a := ⟨b, o, none⟩) (h.block b hb (by intro e; exact hn (Option.some.inj e)))⟩
theorem set_other {w : World} {b i k : Nat} {v : Value} (h : k ≠ b) : (w.setCell ⟨b, i, none⟩ v).heap[k]? = w.heap[k]? := by
  simp [World.setCell, Array.getElem?_modify, Ne.symm h]
theorem grown_new {w w1 : World} {row : Option Nat} {b i : Nat} {v : Value} (h : w.grownBy w1 row) (hb : w.heap.size ≤ b) : w.grownBy (w1.setCell ⟨b, i, none⟩ v) row :=
  ⟨h.os, h.tape, h.output, by simpa using h.size, fun k hk hn => (set_other (by omega)).trans (h.block k hk hn)⟩
theorem CurAt.set {w : World} {g : Nat} {a : Option Addr} {len cap b i : Nat} {v : Value} (h : CurAt w g a len cap) (hb : b ≠ g) : CurAt (w.setCell ⟨b, i, none⟩ v) g a len cap := h.other (set_other (Ne.symm hb))
theorem F_cells {X : World} {b : Nat} {v0 v1 v2 a0 a1 a2 : Value} (h0 : X.cell? ⟨b, 0, none⟩ = some a0) (h1 : X.cell? ⟨b, 1, none⟩ = some a1) (h2 : X.cell? ⟨b, 2, none⟩ = some a2) :
    (((X.setCell ⟨b, 0, none⟩ v0).setCell ⟨b, 1, none⟩ v1).setCell ⟨b, 2, none⟩ v2).cell? ⟨b, 0, none⟩ = some v0 ∧ (((X.setCell ⟨b, 0, none⟩ v0).setCell ⟨b, 1, none⟩ v1).setCell ⟨b, 2, none⟩ v2).cell? ⟨b, 1, none⟩ = some v1 ∧ (((X.setCell ⟨b, 0, none⟩ v0).setCell ⟨b, 1, none⟩ v1).setCell ⟨b, 2, none⟩ v2).cell? ⟨b, 2, none⟩ = some v2 := by
  have e1 : (X.setCell ⟨b, 0, none⟩ v0).cell? ⟨b, 1, none⟩ = some a1 := by rw [World.cell?_setCell_other _ _ _ _ (ne_off (by decide))]; exact h1
  have e2 : ((X.setCell ⟨b, 0, none⟩ v0).setCell ⟨b, 1, none⟩ v1).cell? ⟨b, 2, none⟩ = some a2 := by
    rw [World.cell?_setCell_other _ _ _ _ (ne_off (by decide)), World.cell?_setCell_other _ _ _ _ (ne_off (by decide))]; exact h2
  refine ⟨?_, ?_, World.cell?_setCell_same _ _ _ e2⟩
  · rw [World.cell?_setCell_other _ _ _ _ (ne_off (by decide)), World.cell?_setCell_other _ _ _ _ (ne_off (by decide))]; exact World.cell?_setCell_same _ _ _ h0
  · rw [World.cell?_setCell_other _ _ _ _ (ne_off (by decide))]; exact World.cell?_setCell_same _ _ _ e1
theorem below1 (w : World) (o1 : Obj) : Below w.heap.size w (w.alloc o1) := (Below.refl _ _).alloc (Nat.le_refl _) _
theorem below2 (w : World) (o1 o2 : Obj) : Below w.heap.size w ((w.alloc o1).alloc o2) := ((Below.refl _ _).alloc (Nat.le_refl _) _).alloc (by simp) _

set_option maxHeartbeats 1600000 in
theorem drate_any (B g : Nat) (a : Option Addr) (len cap : Nat) (w : World) (hB : B ≤ g) (hl : len ≤ 9223372036854775807) (hc : CurAt w g a len cap) (hr : RdB w B a len) :
    Calls Tryz.prog 34 #[.pointer (some ⟨g, 0, none⟩)] w fun e w' => ∃ n d dr, e = .returned (.agg #[.int .i64 n, .int .i64 d, .bool dr]) ∧ CurAt w' g a len cap ∧ w.grownBy w' (some g) := by
  have hc' := hide hc
  have hr' := hide hr
  clear hc hr
  go_enter Tryz.func34, Tryz.ntmps34
  go_wp2_with fail
  refine (below_any B g a len cap 10 _ hB hl ((unhide hc').below (below2 w _ _)) ((unhide hr').grown (grown_below (below2 w _ _)) hB) (by omega)).mono ?_
  rintro e w1 ⟨x, rfl, x0, x1, k1, g1⟩
  obtain ⟨m, rfl⟩ := Int.eq_ofNat_of_zero_le x0
  have hgw := hide (unhide hc').lt
  obtain ⟨n, d, dr, q0, q1, q2⟩ : ∃ n d dr, w1.cell? ⟨w.heap.size + 1, m * 3, none⟩ = some (.int .i64 n) ∧ w1.cell? ⟨w.heap.size + 1, m * 3 + 1, none⟩ = some (.int .i64 d) ∧ w1.cell? ⟨w.heap.size + 1, m * 3 + 2, none⟩ = some (.bool dr) := by
    have e : ∀ j, w1.cell? ⟨w.heap.size + 1, j, none⟩ = _ := fun j => World.cell?_of_block (a := ⟨w.heap.size + 1, j, none⟩) (g1.block (w.heap.size + 1) (by simp) (by intro h; have := Option.some.inj h; have := unhide hgw; omega))
    obtain rfl | rfl | rfl | rfl | rfl | rfl | rfl | rfl | rfl | rfl : m = 0 ∨ m = 1 ∨ m = 2 ∨ m = 3 ∨ m = 4 ∨ m = 5 ∨ m = 6 ∨ m = 7 ∨ m = 8 ∨ m = 9 := by omega
    all_goals exact ⟨_, _, _, by rw [e]; simp; rfl, by rw [e]; simp; rfl, by rw [e]; simp; rfl⟩
  have r1 := ((unhide hr').grown (grown_below (below2 w _ _)) hB).grown g1 hB
  have t1 := grown_trans (grown_below (below2 w _ _)) g1
  obtain ⟨p1, u1⟩ := gcell g1
  have z1 : w.heap.size + 1 < w1.heap.size := by have := g1.size; simp at this; omega
  have z1' : w.heap.size < w1.heap.size := by omega
  have n1 : w.heap.size ≠ g := by have := unhide hgw; omega
  have n1' : w1.heap.size ≠ g := by have := unhide hgw; omega
  have k1' := hide k1
  have r1' := hide r1
  have t1' := hide t1
  clear k1 g1 r1 t1
  go_wp2_with fail
  refine (once_any B g a len cap 16 _ hB hl ((unhide k1').below (below1 w1 _)) ((unhide r1').grown (grown_below (below1 w1 _)) hB) (by omega)).mono ?_
  rintro e w2 ⟨v, rfl, k2, g2⟩
  have r2 := ((unhide r1').grown (grown_below (below1 w1 _)) hB).grown g2 hB
  have t2 := grown_trans (unhide t1') (grown_trans (grown_below (below1 w1 _)) g2)
  obtain ⟨p2, u2⟩ := gcell g2
  have z2 : w1.heap.size < w2.heap.size := by have := g2.size; simp at this; omega
  have z2' : w.heap.size < w2.heap.size := by omega
  have k2' := hide k2
  have r2' := hide r2
  have t2' := hide t2
  clear k2 g2 r2 t2 q0 q1 q2
  cases v
  · go_wp2
    have b0 : w2.cell? ⟨w.heap.size, 0, none⟩ = some (.int .i64 0) := by rw [p2 _ _ (by simp; omega) n1, World.cell?_alloc_past _ _ _ z1', p1 _ _ (by simp; omega) n1]; simp
    have b1 : w2.cell? ⟨w.heap.size, 1, none⟩ = some (.int .i64 0) := by rw [p2 _ _ (by simp; omega) n1, World.cell?_alloc_past _ _ _ z1', p1 _ _ (by simp; omega) n1]; simp
    have b2 : w2.cell? ⟨w.heap.size, 2, none⟩ = some (.bool false) := by rw [p2 _ _ (by simp; omega) n1, World.cell?_alloc_past _ _ _ z1', p1 _ _ (by simp; omega) n1]; simp
    obtain ⟨y0, y1, y2⟩ := F_cells (X := w2) (b := w.heap.size) (v0 := .int .i64 n) (v1 := .int .i64 d) (v2 := .bool dr) b0 b1 b2
    exact bodyPost_ret (v := .agg #[.int .i64 n, .int .i64 d, .bool dr]) (by simp [results, Tryz.results34, go_sem, y0, y1, y2]) rfl ⟨_, _, _, rfl, (((unhide k2').set n1).set n1).set n1, grown_new (grown_new (grown_new (unhide t2') (Nat.le_refl _)) (Nat.le_refl _)) (Nat.le_refl _)⟩
  · go_wp2_with fail
    refine (below_any B g a len cap 4 _ hB hl (unhide k2') (unhide r2') (by omega)).mono ?_
    rintro e w3 ⟨y, rfl, yy0, yy1, k3, g3⟩
    have r3 := (unhide r2').grown g3 hB
    have t3 := grown_trans (unhide t2') g3
    obtain ⟨p3, u3⟩ := gcell g3
    have z3 : w1.heap.size < w3.heap.size := by have := g3.size; omega
    have z3' : w.heap.size < w3.heap.size := by omega
    have k3' := hide k3
    have r3' := hide r3
    have t3' := hide t3
    clear k3 g3 r3 t3
    obtain rfl | rfl | rfl | rfl : y = 0 ∨ y = 1 ∨ y = 2 ∨ y = 3 := by omega
    · go_wp2_with fail
      refine (below_any B g a len cap 6 _ hB hl ((unhide k3').below (below1 w3 _)) ((unhide r3').grown (grown_below (below1 w3 _)) hB) (by omega)).mono ?_
      rintro e w4 ⟨x, rfl, xx0, xx1, k4, g4⟩
      obtain ⟨q, rfl⟩ := Int.eq_ofNat_of_zero_le xx0
      have t4 := grown_trans (unhide t3') (grown_trans (grown_below (below1 w3 _)) g4)
      obtain ⟨p4, u4⟩ := gcell g4
      have n3 : w3.heap.size ≠ g := by have := unhide hgw; omega
      have z4 : w1.heap.size < w4.heap.size := by have := g4.size; simp at this; omega
      have z4' : w.heap.size < w4.heap.size := by omega
      obtain ⟨c, hcq⟩ : ∃ c, w4.cell? ⟨w3.heap.size, q, none⟩ = some (.int .i64 c) := by
        have e := fun j => p4 w3.heap.size j (by simp) n3
        obtain rfl | rfl | rfl | rfl | rfl | rfl : q = 0 ∨ q = 1 ∨ q = 2 ∨ q = 3 ∨ q = 4 ∨ q = 5 := by omega
        all_goals exact ⟨_, by rw [e]; simp; rfl⟩
      have k4' := hide k4
      have t4' := hide t4
      clear k4 g4 t4 n3
      have z3a : w1.heap.size < w3.heap.size + 1 := by omega
      have z3b : w.heap.size < w3.heap.size + 1 := by omega
      go_wp2
      have b0 : (w4.setCell ⟨w1.heap.size, 0, none⟩ (.int .i64 c)).cell? ⟨w.heap.size, 0, none⟩ = some (.int .i64 0) := by rw [World.cell?_setCell_other _ _ _ _ (by intro e; injection e with e1 _ _; omega), p4 _ _ (by simp; omega) n1, World.cell?_alloc_past _ _ _ z3', p3 _ _ z2' n1, p2 _ _ (by simp; omega) n1, World.cell?_alloc_past _ _ _ z1', p1 _ _ (by simp; omega) n1]; simp
      have b1 : (w4.setCell ⟨w1.heap.size, 0, none⟩ (.int .i64 c)).cell? ⟨w.heap.size, 1, none⟩ = some (.int .i64 0) := by rw [World.cell?_setCell_other _ _ _ _ (by intro e; injection e with e1 _ _; omega), p4 _ _ (by simp; omega) n1, World.cell?_alloc_past _ _ _ z3', p3 _ _ z2' n1, p2 _ _ (by simp; omega) n1, World.cell?_alloc_past _ _ _ z1', p1 _ _ (by simp; omega) n1]; simp
      have b2 : (w4.setCell ⟨w1.heap.size, 0, none⟩ (.int .i64 c)).cell? ⟨w.heap.size, 2, none⟩ = some (.bool false) := by rw [World.cell?_setCell_other _ _ _ _ (by intro e; injection e with e1 _ _; omega), p4 _ _ (by simp; omega) n1, World.cell?_alloc_past _ _ _ z3', p3 _ _ z2' n1, p2 _ _ (by simp; omega) n1, World.cell?_alloc_past _ _ _ z1', p1 _ _ (by simp; omega) n1]; simp
      obtain ⟨y0, y1, y2⟩ := F_cells (X := (w4.setCell ⟨w1.heap.size, 0, none⟩ (.int .i64 c))) (b := w.heap.size) (v0 := .int .i64 c) (v1 := .int .i64 d) (v2 := .bool dr) b0 b1 b2
      exact bodyPost_ret (v := .agg #[.int .i64 c, .int .i64 d, .bool dr]) (by simp [results, Tryz.results34, go_sem, y0, y1, y2]) rfl ⟨_, _, _, rfl, ((((unhide k4').set n1').set n1).set n1).set n1, grown_new (grown_new (grown_new (grown_new (unhide t4') (by omega)) (Nat.le_refl _)) (Nat.le_refl _)) (Nat.le_refl _)⟩
    · go_wp2_with fail
      refine (below_any B g a len cap 5 _ hB hl ((unhide k3').below (below1 w3 _)) ((unhide r3').grown (grown_below (below1 w3 _)) hB) (by omega)).mono ?_
      rintro e w4 ⟨x, rfl, xx0, xx1, k4, g4⟩
      obtain ⟨q, rfl⟩ := Int.eq_ofNat_of_zero_le xx0
      have t4 := grown_trans (unhide t3') (grown_trans (grown_below (below1 w3 _)) g4)
      obtain ⟨p4, u4⟩ := gcell g4
      have n3 : w3.heap.size ≠ g := by have := unhide hgw; omega
      have z4 : w1.heap.size < w4.heap.size := by have := g4.size; simp at this; omega
      have z4' : w.heap.size < w4.heap.size := by omega
      obtain ⟨c, hcq⟩ : ∃ c, w4.cell? ⟨w3.heap.size, q, none⟩ = some (.int .i64 c) := by
        have e := fun j => p4 w3.heap.size j (by simp) n3
        obtain rfl | rfl | rfl | rfl | rfl : q = 0 ∨ q = 1 ∨ q = 2 ∨ q = 3 ∨ q = 4 := by omega
        all_goals exact ⟨_, by rw [e]; simp; rfl⟩
      have k4' := hide k4
      have t4' := hide t4
      clear k4 g4 t4 n3
      have z3a : w1.heap.size < w3.heap.size + 1 := by omega
      have z3b : w.heap.size < w3.heap.size + 1 := by omega
      go_wp2
      have b0 : (w4.setCell ⟨w1.heap.size, 1, none⟩ (.int .i64 c)).cell? ⟨w.heap.size, 0, none⟩ = some (.int .i64 0) := by rw [World.cell?_setCell_other _ _ _ _ (by intro e; injection e with e1 _ _; omega), p4 _ _ (by simp; omega) n1, World.cell?_alloc_past _ _ _ z3', p3 _ _ z2' n1, p2 _ _ (by simp; omega) n1, World.cell?_alloc_past _ _ _ z1', p1 _ _ (by simp; omega) n1]; simp
      have b1 : (w4.setCell ⟨w1.heap.size, 1, none⟩ (.int .i64 c)).cell? ⟨w.heap.size, 1, none⟩ = some (.int .i64 0) := by rw [World.cell?_setCell_other _ _ _ _ (by intro e; injection e with e1 _ _; omega), p4 _ _ (by simp; omega) n1, World.cell?_alloc_past _ _ _ z3', p3 _ _ z2' n1, p2 _ _ (by simp; omega) n1, World.cell?_alloc_past _ _ _ z1', p1 _ _ (by simp; omega) n1]; simp
      have b2 : (w4.setCell ⟨w1.heap.size, 1, none⟩ (.int .i64 c)).cell? ⟨w.heap.size, 2, none⟩ = some (.bool false) := by rw [World.cell?_setCell_other _ _ _ _ (by intro e; injection e with e1 _ _; omega), p4 _ _ (by simp; omega) n1, World.cell?_alloc_past _ _ _ z3', p3 _ _ z2' n1, p2 _ _ (by simp; omega) n1, World.cell?_alloc_past _ _ _ z1', p1 _ _ (by simp; omega) n1]; simp
      obtain ⟨y0, y1, y2⟩ := F_cells (X := (w4.setCell ⟨w1.heap.size, 1, none⟩ (.int .i64 c))) (b := w.heap.size) (v0 := .int .i64 n) (v1 := .int .i64 c) (v2 := .bool dr) b0 b1 b2
      exact bodyPost_ret (v := .agg #[.int .i64 n, .int .i64 c, .bool dr]) (by simp [results, Tryz.results34, go_sem, y0, y1, y2]) rfl ⟨_, _, _, rfl, ((((unhide k4').set n1').set n1).set n1).set n1, grown_new (grown_new (grown_new (grown_new (unhide t4') (by omega)) (Nat.le_refl _)) (Nat.le_refl _)) (Nat.le_refl _)⟩
    · go_wp2
      have b0 : (w3.setCell ⟨w1.heap.size, 2, none⟩ (.bool !dr)).cell? ⟨w.heap.size, 0, none⟩ = some (.int .i64 0) := by rw [World.cell?_setCell_other _ _ _ _ (by intro e; injection e with e1 _ _; omega), p3 _ _ z2' n1, p2 _ _ (by simp; omega) n1, World.cell?_alloc_past _ _ _ z1', p1 _ _ (by simp; omega) n1]; simp
      have b1 : (w3.setCell ⟨w1.heap.size, 2, none⟩ (.bool !dr)).cell? ⟨w.heap.size, 1, none⟩ = some (.int .i64 0) := by rw [World.cell?_setCell_other _ _ _ _ (by intro e; injection e with e1 _ _; omega), p3 _ _ z2' n1, p2 _ _ (by simp; omega) n1, World.cell?_alloc_past _ _ _ z1', p1 _ _ (by simp; omega) n1]; simp
      have b2 : (w3.setCell ⟨w1.heap.size, 2, none⟩ (.bool !dr)).cell? ⟨w.heap.size, 2, none⟩ = some (.bool false) := by rw [World.cell?_setCell_other _ _ _ _ (by intro e; injection e with e1 _ _; omega), p3 _ _ z2' n1, p2 _ _ (by simp; omega) n1, World.cell?_alloc_past _ _ _ z1', p1 _ _ (by simp; omega) n1]; simp
      obtain ⟨y0, y1, y2⟩ := F_cells (X := (w3.setCell ⟨w1.heap.size, 2, none⟩ (.bool !dr))) (b := w.heap.size) (v0 := .int .i64 n) (v1 := .int .i64 d) (v2 := .bool (!dr)) b0 b1 b2
      exact bodyPost_ret (v := .agg #[.int .i64 n, .int .i64 d, .bool (!dr)]) (by simp [results, Tryz.results34, go_sem, y0, y1, y2]) rfl ⟨_, _, _, rfl, ((((unhide k3').set n1').set n1).set n1).set n1, grown_new (grown_new (grown_new (grown_new (unhide t3') (by omega)) (Nat.le_refl _)) (Nat.le_refl _)) (Nat.le_refl _)⟩
    · go_wp2
      have b0 : (((w3.setCell ⟨w1.heap.size, 0, none⟩ (.int .i64 120000)).setCell ⟨w1.heap.size, 1, none⟩ (.int .i64 1001)).setCell ⟨w1.heap.size, 2, none⟩ (.bool false)).cell? ⟨w.heap.size, 0, none⟩ = some (.int .i64 0) := by rw [World.cell?_setCell_other _ _ _ _ (by intro e; injection e with e1 _ _; omega), World.cell?_setCell_other _ _ _ _ (by intro e; injection e with e1 _ _; omega), World.cell?_setCell_other _ _ _ _ (by intro e; injection e with e1 _ _; omega), p3 _ _ z2' n1, p2 _ _ (by simp; omega) n1, World.cell?_alloc_past _ _ _ z1', p1 _ _ (by simp; omega) n1]; simp
      have b1 : (((w3.setCell ⟨w1.heap.size, 0, none⟩ (.int .i64 120000)).setCell ⟨w1.heap.size, 1, none⟩ (.int .i64 1001)).setCell ⟨w1.heap.size, 2, none⟩ (.bool false)).cell? ⟨w.heap.size, 1, none⟩ = some (.int .i64 0) := by rw [World.cell?_setCell_other _ _ _ _ (by intro e; injection e with e1 _ _; omega), World.cell?_setCell_other _ _ _ _ (by intro e; injection e with e1 _ _; omega), World.cell?_setCell_other _ _ _ _ (by intro e; injection e with e1 _ _; omega), p3 _ _ z2' n1, p2 _ _ (by simp; omega) n1, World.cell?_alloc_past _ _ _ z1', p1 _ _ (by simp; omega) n1]; simp
      have b2 : (((w3.setCell ⟨w1.heap.size, 0, none⟩ (.int .i64 120000)).setCell ⟨w1.heap.size, 1, none⟩ (.int .i64 1001)).setCell ⟨w1.heap.size, 2, none⟩ (.bool false)).cell? ⟨w.heap.size, 2, none⟩ = some (.bool false) := by rw [World.cell?_setCell_other _ _ _ _ (by intro e; injection e with e1 _ _; omega), World.cell?_setCell_other _ _ _ _ (by intro e; injection e with e1 _ _; omega), World.cell?_setCell_other _ _ _ _ (by intro e; injection e with e1 _ _; omega), p3 _ _ z2' n1, p2 _ _ (by simp; omega) n1, World.cell?_alloc_past _ _ _ z1', p1 _ _ (by simp; omega) n1]; simp
      obtain ⟨y0, y1, y2⟩ := F_cells (X := (((w3.setCell ⟨w1.heap.size, 0, none⟩ (.int .i64 120000)).setCell ⟨w1.heap.size, 1, none⟩ (.int .i64 1001)).setCell ⟨w1.heap.size, 2, none⟩ (.bool false))) (b := w.heap.size) (v0 := .int .i64 120000) (v1 := .int .i64 1001) (v2 := .bool false) b0 b1 b2
      exact bodyPost_ret (v := .agg #[.int .i64 120000, .int .i64 1001, .bool false]) (by simp [results, Tryz.results34, go_sem, y0, y1, y2]) rfl ⟨_, _, _, rfl, ((((((unhide k3').set n1').set n1').set n1').set n1).set n1).set n1, grown_new (grown_new (grown_new (grown_new (grown_new (grown_new (unhide t3') (by omega)) (by omega)) (by omega)) (Nat.le_refl _)) (Nat.le_refl _)) (Nat.le_refl _)⟩

end Go.Proofs.YtfhbmfndjbdhcaaGreatDoor
