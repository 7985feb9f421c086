/-
  What the laws of the bench share.
  Contracts of the drawing functions of the model, over a cursor on bytes that came in: each answers, within its bounds, and writes into the cursor alone.
  Contracts of the model's draws of clips and tracks, over a cursor on bytes that came in: each answers; the answer is new memory, and what was there but for the cursor stays.
  Contracts of the model's new cursor and of its drawn rate: each answers, and writes into the cursor and what it makes alone.
  A drawn text of the bench, plain: its lines are short, so that a long one has many.
  The model's draw of a text of the bench: its contract.
-/
import Derived.Test.YtioaehjppiodfaaGreatDoorGTpP
import Derived.Test.YtioaehjppiodfaaGreatDoorGBnM
namespace Go.Proofs.YtioaehjppiodfaaGreatDoor
open Go.RowKit
set_option linter.unusedVariables false
set_option linter.unusedSimpArgs false

theorem lit_own (w : World) (x : Int) {B : Nat} (hB : B ≤ w.heap.size) : (w.alloc (.cells #[.int .u8 x] 5)).ownsRow B 5 1 (.slice (some ⟨w.heap.size, 0, none⟩) 1 1) 1 [u8 x] :=
  World.ownsRow_lit (base := B) (e := 5) (size := 1) w #[.int .u8 x] 1 hB (by unfold maxLen; omega) rfl
theorem bys_row {W : World} {a : Option Addr} {zs : List Int} (h : Row false 0 W.heap.size W a zs) : Bys W a zs := by
  intro j x hx
  obtain ⟨b, o, e, _, h2, hc, _⟩ := h j x hx
  exact ⟨b, o, e, h2, hc⟩
theorem byt_row {W : World} {a : Option Addr} {zs : List Int} (h : Row false 0 W.heap.size W a zs) : Byt zs := fun z hz => h.bd z hz
theorem pick_row (a : Option Addr) (cap : Nat) (l : List Int) (n : Int) (w : World) (hl : l.length ≤ 5000) (h1 : 1 ≤ n) (h2 : n ≤ 1000) (hr : Row false 0 w.heap.size w a l) :
    Calls Tryz.prog 7 #[.slice a l.length cap, .int .i64 n] w fun e w' => ∃ x, e = .returned (.int .i64 x) ∧ 0 ≤ x ∧ x < n ∧ w' = w := pick_any a cap l n w hl h1 h2 (byt_row hr) (bys_row hr)
/-- .. of a byte and bytes behind it, in a row of one's own -/
theorem pick_own (g c : Nat) (x : Int) (zs : List Int) (n : Int) (w : World) (B m : Nat) (hm : zs.length = m) (hl : m ≤ 4096) (h1 : 1 ≤ n) (h2 : n ≤ 1000) (hx : 0 ≤ x ∧ x ≤ 255) (hz : ∀ z ∈ zs, 0 ≤ z ∧ z ≤ 255) (ho : w.ownsRow B 5 1 (.slice (some ⟨g, 0, none⟩) (1 + m) c) (1 + m) ([u8 x] ++ zs.map u8)) :
    Calls Tryz.prog 7 #[.slice (some ⟨g, 0, none⟩) (1 + m) c, .int .i64 n] w fun e w' => ∃ y, e = .returned (.int .i64 y) ∧ 0 ≤ y ∧ y < n ∧ w' = w := by
  have hl2 : (x :: zs).length = 1 + m := by simp; omega
  have hr := (row_of_own (zs := x :: zs) (by simpa using ho) (by
    intro z hz2
    rcases List.mem_cons.1 hz2 with rfl | h
    · exact hx
    · exact hz z h)).read
  have hlt := own_lt ho
  have := pick_row (some ⟨g, 0, none⟩) c (x :: zs) n w (by rw [hl2]; omega) h1 h2 (hr.mono (Nat.zero_le _) (by omega))
  rw [hl2] at this
  exact this

theorem benchL_len (t : List UInt8) : (benchL t).length ≤ 14000200 := by
  unfold benchL
  split
  · simp
  · split
    · simp
    · have h := (fold_fine (Ln.rawL t)).2.2
      exact Nat.le_trans h (by
        have : (Ln.rawL t).length * 70001 ≤ 200 * 70001 := Nat.mul_le_mul_right _ (by omega)
        exact this)
theorem drewN_below (w : World) (n : Nat) : Below w.heap.size w (w.drewN n) := ⟨rfl, rfl, rfl, Nat.le_refl _, fun _ _ => rfl⟩
end Go.Proofs.YtioaehjppiodfaaGreatDoor

namespace Go.Proofs.YtioaehjppiodfaaGreatDoor
open Go.RowKit
set_option linter.unusedVariables false

/-- a cursor in block g over the slice a, len, cap -/
def CurAt (w : World) (g : Nat) (a : Option Addr) (len cap : Nat) : Prop :=
  ∃ i h : Int, w.cell? ⟨g, 0, none⟩ = some (.slice a len cap) ∧ w.cell? ⟨g, 1, none⟩ = some (.int .i64 i) ∧ w.cell? ⟨g, 2, none⟩ = some (.int .i64 h) ∧ w.frozen? ⟨g, 1, none⟩ = false ∧ w.frozen? ⟨g, 2, none⟩ = false ∧ 0 ≤ i ∧ i ≤ len
/-- its bytes, in blocks below B -/
def RdB (w : World) (B : Nat) (a : Option Addr) (len : Nat) : Prop :=
  ∀ j, j < len → ∃ (b o : Nat) (z : Int), a = some ⟨b, o, none⟩ ∧ b < B ∧ w.cell? ⟨b, o + j, none⟩ = some (.int .u8 z) ∧ 0 ≤ z ∧ z ≤ 255

theorem grow_below {w w1 : World} {g : Option Nat} (h : Below w.heap.size w w1) : w.grownBy w1 g :=
  ⟨h.os, h.tape, h.output, h.size, fun j hj _ => h.block j hj⟩
theorem grown_drewN {w w1 : World} {g : Option Nat} (h : w.grownBy w1 g) (n : Nat) : w.grownBy (w1.drewN n) g :=
  grown_trans h ⟨rfl, rfl, rfl, Nat.le_refl _, fun _ _ _ => rfl⟩
theorem RdB.grown {w w1 : World} {B : Nat} {a : Option Addr} {len g : Nat} (h : RdB w B a len) (hg : w.grownBy w1 (some g)) (hB : B ≤ g) : RdB w1 B a len := by
  intro j hj
  obtain ⟨b, o, z, e, hb, hc, h0, h1⟩ := h j hj
  exact ⟨b, o, z, e, hb, hg.cell hc (by intro he; have := Option.some.inj he; simp at this; omega), h0, h1⟩

theorem and255 (n : Int) : 0 ≤ bits .and .i64 n 255 ∧ bits .and .i64 n 255 ≤ 255 := by
  have h : bits .and .i64 n 255 = IntKind.i64.wrap ((BitVec.ofInt 64 n &&& BitVec.ofInt 64 255).toNat : Int) := rfl
  have h2 : (BitVec.ofInt 64 n &&& BitVec.ofInt 64 255).toNat ≤ 255 := by
    rw [BitVec.toNat_and]
    have : (BitVec.ofInt 64 255).toNat = 255 := by decide
    rw [this]; exact Nat.and_le_right
  rw [h, IntKind.wrap_i64]
  omega

theorem ne_off {g i j : Nat} (h : i ≠ j) : (⟨g, i, none⟩ : Addr) ≠ ⟨g, j, none⟩ := by intro e; injection e with _ e2 _; exact h e2
theorem cur_end {w : World} {g : Nat} {a : Option Addr} {len cap q : Nat} {i h h1 : Int} (c0 : w.cell? ⟨g, 0, none⟩ = some (.slice a len cap)) (c1 : w.cell? ⟨g, 1, none⟩ = some (.int .i64 i)) (c2 : w.cell? ⟨g, 2, none⟩ = some (.int .i64 h))
    (f1 : w.frozen? ⟨g, 1, none⟩ = false) (f2 : w.frozen? ⟨g, 2, none⟩ = false) (i0 : 0 ≤ i) (i1 : i ≤ len) : CurAt ((w.setCell ⟨g, 2, none⟩ (.int .i64 h1)).drewN q) g a len cap := by
  refine ⟨i, h1, ?_, ?_, ?_, ?_, ?_, i0, i1⟩
  · show (w.setCell ⟨g, 2, none⟩ (.int .i64 h1)).cell? _ = _
    rw [World.cell?_setCell_other _ _ _ _ (ne_off (by decide))]; exact c0
  · show (w.setCell ⟨g, 2, none⟩ (.int .i64 h1)).cell? _ = _
    rw [World.cell?_setCell_other _ _ _ _ (ne_off (by decide))]; exact c1
  · show (w.setCell ⟨g, 2, none⟩ (.int .i64 h1)).cell? _ = _
    exact World.cell?_setCell_same _ _ _ c2
  · show (w.setCell ⟨g, 2, none⟩ (.int .i64 h1)).frozen? _ = _
    rw [World.frozen?_setCell]; exact f1
  · show (w.setCell ⟨g, 2, none⟩ (.int .i64 h1)).frozen? _ = _
    rw [World.frozen?_setCell]; exact f2
theorem cur_next {w : World} {g : Nat} {a : Option Addr} {len cap : Nat} {i : Int} (h : CurAt w g a len cap) (i0 : 0 ≤ i) (i1 : i ≤ len) : CurAt (w.setCell ⟨g, 1, none⟩ (.int .i64 i)) g a len cap := by
  obtain ⟨i', h1, c0, c1, c2, f1, f2, _, _⟩ := h
  refine ⟨i, h1, ?_, ?_, ?_, ?_, ?_, i0, i1⟩
  · rw [World.cell?_setCell_other _ _ _ _ (ne_off (by decide))]; exact c0
  · exact World.cell?_setCell_same _ _ _ c1
  · rw [World.cell?_setCell_other _ _ _ _ (ne_off (by decide))]; exact c2
  · rw [World.frozen?_setCell]; exact f1
  · rw [World.frozen?_setCell]; exact f2
theorem CurAt.other {w w1 : World} {g : Nat} {a : Option Addr} {len cap : Nat} (h : CurAt w g a len cap) (hb : w1.heap[g]? = w.heap[g]?) : CurAt w1 g a len cap := by
  obtain ⟨i, h1, c0, c1, c2, f1, f2, i0, i1⟩ := h
  exact ⟨i, h1, (World.cell?_of_block (a := ⟨g, 0, none⟩) hb).trans c0, (World.cell?_of_block (a := ⟨g, 1, none⟩) hb).trans c1, (World.cell?_of_block (a := ⟨g, 2, none⟩) hb).trans c2, (World.frozen?_of_block (a := ⟨g, 1, none⟩) hb).trans f1, (World.frozen?_of_block (a := ⟨g, 2, none⟩) hb).trans f2, i0, i1⟩
theorem CurAt.lt {w : World} {g : Nat} {a : Option Addr} {len cap : Nat} (h : CurAt w g a len cap) : g < w.heap.size := by
  obtain ⟨i, h1, c0, _⟩ := h
  exact World.block_lt_of_cell? _ _ c0
theorem CurAt.below {w w1 : World} {g : Nat} {a : Option Addr} {len cap : Nat} (h : CurAt w g a len cap) (hb : Below w.heap.size w w1) : CurAt w1 g a len cap := h.other (hb.block g h.lt)

set_option maxHeartbeats 800000 in
theorem byte_more (g : Nat) (b o len cap : Nat) (i h z : Int) (w : World) (c0 : w.cell? ⟨g, 0, none⟩ = some (.slice (some ⟨b, o, none⟩) len cap)) (c1 : w.cell? ⟨g, 1, none⟩ = some (.int .i64 i)) (c2 : w.cell? ⟨g, 2, none⟩ = some (.int .i64 h))
    (f1 : w.frozen? ⟨g, 1, none⟩ = false) (f2 : w.frozen? ⟨g, 2, none⟩ = false) (i0 : 0 ≤ i) (i1 : i < len) (hl : len ≤ 9223372036854775807) (hbg : b ≠ g) (hz : w.cell? ⟨b, o + i.toNat, none⟩ = some (.int .u8 z)) (z0 : 0 ≤ z) (z1 : z ≤ 255) :
    Calls Tryz.prog 26 #[.pointer (some ⟨g, 0, none⟩)] w fun e w' => ∃ x, e = .returned (.int .i64 x) ∧ 0 ≤ x ∧ x ≤ 255 ∧ CurAt w' g (some ⟨b, o, none⟩) len cap ∧ w.grownBy w' (some g) := by
  obtain ⟨n, rfl⟩ := Int.eq_ofNat_of_zero_le i0
  rw [Int.toNat_natCast] at hz
  go_enter Tryz.func26, Tryz.ntmps26
  go_wp2
  generalize wrap64 (wrap64 (h * 6364136223846793005) + 1442695040888963407) = h1
  have hz' : (w.setCell ⟨g, 2, none⟩ (.int .i64 h1)).cell? ⟨b, o + n, none⟩ = some (.int .u8 z) := by
    rw [World.cell?_setCell_other _ _ _ _ (by intro e; injection e with e1 _ _; exact hbg e1.symm)]; exact hz
  go_quiet (fail)
  go_wp2
  obtain ⟨x0, x1⟩ := and255 (bits BinOp.xor IntKind.i64 (h1 / 8589934592) (h1 / 35184372088832))
  generalize bits BinOp.and IntKind.i64 (bits BinOp.xor IntKind.i64 (h1 / 8589934592) (h1 / 35184372088832)) 255 = x at *
  go_quiet (fail)
  go_wp2
  go_quiet (fail)
  go_wp2
  go_ret
  exact ⟨_, rfl, (and255 _).1, (and255 _).2, cur_next (cur_end c0 c1 c2 f1 f2 i0 (by omega)) (by omega) (by omega), grown_set (grown_drewN (grown_set (World.grownBy.refl _ _)) _)⟩

set_option maxHeartbeats 800000 in
theorem byte_last (g : Nat) (a : Option Addr) (len cap : Nat) (i h : Int) (w : World) (c0 : w.cell? ⟨g, 0, none⟩ = some (.slice a len cap)) (c1 : w.cell? ⟨g, 1, none⟩ = some (.int .i64 i)) (c2 : w.cell? ⟨g, 2, none⟩ = some (.int .i64 h))
    (f1 : w.frozen? ⟨g, 1, none⟩ = false) (f2 : w.frozen? ⟨g, 2, none⟩ = false) (i0 : 0 ≤ i) (i1 : i ≤ len) (i2 : ¬ i < len) (hl : len ≤ 9223372036854775807) :
    Calls Tryz.prog 26 #[.pointer (some ⟨g, 0, none⟩)] w fun e w' => ∃ x, e = .returned (.int .i64 x) ∧ 0 ≤ x ∧ x ≤ 255 ∧ CurAt w' g a len cap ∧ w.grownBy w' (some g) := by
  go_enter Tryz.func26, Tryz.ntmps26
  go_wp2
  generalize wrap64 (wrap64 (h * 6364136223846793005) + 1442695040888963407) = h1
  go_quiet (fail)
  go_wp2
  obtain ⟨x0, x1⟩ := and255 (bits BinOp.xor IntKind.i64 (h1 / 8589934592) (h1 / 35184372088832))
  generalize bits BinOp.and IntKind.i64 (bits BinOp.xor IntKind.i64 (h1 / 8589934592) (h1 / 35184372088832)) 255 = x at *
  go_quiet (fail)
  go_wp2
  go_ret
  exact ⟨x, rfl, x0, x1, by rw [World.drewN_drewN]; exact cur_end c0 c1 c2 f1 f2 i0 (by omega), grown_drewN (grown_drewN (grown_set (World.grownBy.refl _ _)) _) _⟩

theorem byte_any (B g : Nat) (a : Option Addr) (len cap : Nat) (w : World) (hB : B ≤ g) (hl : len ≤ 9223372036854775807) (hc : CurAt w g a len cap) (hr : RdB w B a len) :
    Calls Tryz.prog 26 #[.pointer (some ⟨g, 0, none⟩)] w fun e w' => ∃ x, e = .returned (.int .i64 x) ∧ 0 ≤ x ∧ x ≤ 255 ∧ CurAt w' g a len cap ∧ w.grownBy w' (some g) := by
  obtain ⟨i, h, c0, c1, c2, f1, f2, i0, i1⟩ := hc
  by_cases i2 : i < len
  · obtain ⟨b, o, z, rfl, hb, hz, z0, z1⟩ := hr i.toNat (by omega)
    exact byte_more g b o len cap i h z w c0 c1 c2 f1 f2 i0 i2 hl (by omega) hz z0 z1
  · exact byte_last g a len cap i h w c0 c1 c2 f1 f2 i0 i1 i2 hl

set_option maxHeartbeats 800000 in
theorem below_any (B g : Nat) (a : Option Addr) (len cap : Nat) (n : Int) (w : World) (hB : B ≤ g) (hl : len ≤ 9223372036854775807) (hc : CurAt w g a len cap) (hr : RdB w B a len) (n0 : 0 < n) :
    Calls Tryz.prog 22 #[.pointer (some ⟨g, 0, none⟩), .int .i64 n] w fun e w' => ∃ x, e = .returned (.int .i64 x) ∧ 0 ≤ x ∧ x < n ∧ CurAt w' g a len cap ∧ w.grownBy w' (some g) := by
  have hc' := hide hc
  have hr' := hide hr
  clear hc hr
  by_cases h : n ≤ 256
  · go_enter Tryz.func22, Tryz.ntmps22
    go_wp2_with fail
    refine (byte_any B g a len cap _ hB hl (unhide hc') (unhide hr')).mono ?_
    rintro e w1 ⟨x, rfl, x0, x1, k1, g1⟩
    go_wp2
    go_ret
    exact ⟨_, rfl, Int.emod_nonneg _ (by omega), Int.emod_lt_of_pos _ n0, k1, g1⟩
  · go_enter Tryz.func22, Tryz.ntmps22
    go_wp2_with fail
    refine (byte_any B g a len cap _ hB hl (unhide hc') (unhide hr')).mono ?_
    rintro e w1 ⟨x, rfl, x0, x1, k1, g1⟩
    have r1 := (unhide hr').grown g1 hB
    have k1' := hide k1
    have r1' := hide r1
    clear k1 r1
    go_wp2_with fail
    refine (byte_any B g a len cap _ hB hl (unhide k1') (unhide r1')).mono ?_
    rintro e w2 ⟨y, rfl, y0, y1, k2, g2⟩
    have r2 := (unhide r1').grown g2 hB
    have k2' := hide k2
    have r2' := hide r2
    clear k2 r2
    go_wp2_with fail
    refine (byte_any B g a len cap _ hB hl (unhide k2') (unhide r2')).mono ?_
    rintro e w3 ⟨z, rfl, z0, z1, k3, g3⟩
    have r3 := (unhide r2').grown g3 hB
    have k3' := hide k3
    have r3' := hide r3
    clear k3 r3
    go_wp2_with fail
    refine (byte_any B g a len cap _ hB hl (unhide k3') (unhide r3')).mono ?_
    rintro e w4 ⟨v, rfl, v0, v1, k4, g4⟩
    go_wp2
    go_ret
    exact ⟨_, rfl, Int.emod_nonneg _ (by omega), Int.emod_lt_of_pos _ n0, k4, grown_trans g1 (grown_trans g2 (grown_trans g3 g4))⟩

set_option maxHeartbeats 400000 in
theorem once_any (B g : Nat) (a : Option Addr) (len cap : Nat) (n : Int) (w : World) (hB : B ≤ g) (hl : len ≤ 9223372036854775807) (hc : CurAt w g a len cap) (hr : RdB w B a len) (n0 : 0 < n) :
    Calls Tryz.prog 25 #[.pointer (some ⟨g, 0, none⟩), .int .i64 n] w fun e w' => ∃ x, e = .returned (.bool x) ∧ CurAt w' g a len cap ∧ w.grownBy w' (some g) := by
  have hc' := hide hc
  have hr' := hide hr
  clear hc hr
  go_enter Tryz.func25, Tryz.ntmps25
  go_wp2_with fail
  refine (below_any B g a len cap n _ hB hl (unhide hc') (unhide hr') n0).mono ?_
  rintro e w1 ⟨x, rfl, x0, x1, k1, g1⟩
  go_wp2
  go_ret
  exact ⟨_, rfl, k1, g1⟩

set_option maxHeartbeats 800000 in
theorem new_any (a : Option Addr) (len cap : Nat) (w : World) (hl : len ≤ 9223372036854775807) (hl2 : len ≤ 1000000) (hr : RdB w w.heap.size a len) :
    Calls Tryz.prog 21 #[.slice a len cap] w fun e w' => ∃ g, e = .returned (.pointer (some ⟨g, 0, none⟩)) ∧ w.heap.size ≤ g ∧ CurAt w' g a len cap ∧ Below w.heap.size w w' := by
  go_enter Tryz.func21, Tryz.ntmps21
  go_wp2
  go_loop [3, 4] (fun s t => ∃ (k : Nat) (h : Int), k ≤ len ∧ t = .int .i64 k ∧ s = .int .i64 h) (fun _ t => len - (intOf t).toNat)
  case atStart => exact ⟨0, _, Nat.zero_le _, rfl, rfl⟩
  case round =>
    obtain ⟨k, h, hk, rfl, rfl⟩ := hrel
    by_cases hlt : k < len
    · obtain ⟨b, o, z, rfl, hb, hz, z0, z1⟩ := hr k hlt
      have hr' := hide hr
      clear hr
      go_wp2
      go_round
      case rel => exact ⟨k + 1, _, by omega, by go_num, rfl⟩
      case measure => simp [intOf]; omega
    · have hr' := hide hr
      clear hr
      go_wp2
      go_ret
      refine ⟨w.heap.size, rfl, Nat.le_refl _, ⟨0, h, by simp, by simp, by simp, by simp, by simp, by omega, by omega⟩, (Below.refl _ _).alloc (Nat.le_refl _) _⟩
end Go.Proofs.YtioaehjppiodfaaGreatDoor

namespace Go.Proofs.YtioaehjppiodfaaGreatDoor
open Go.RowKit
set_option linter.unusedVariables false
set_option linter.unusedSimpArgs false

theorem grown_alloc {w w1 : World} {g : Option Nat} (h : w.grownBy w1 g) (o : Obj) : w.grownBy (w1.alloc o) g :=
  grown_trans h (grow_below ((Below.refl _ _).alloc (Nat.le_refl _) _))
/-- the draws' state: a cursor in g over bytes below B, and all but the cursor as in w -/
structure DS (w : World) (B g : Nat) (a : Option Addr) (len cap : Nat) (wr : World) : Prop where
  cur : CurAt wr g a len cap
  rd : RdB wr B a len
  gr : w.grownBy wr (some g)
theorem DS.step {w wr w1 : World} {B g : Nat} {a : Option Addr} {len cap : Nat} (h : DS w B g a len cap wr) (hB : B ≤ g) (hc : CurAt w1 g a len cap) (hg : wr.grownBy w1 (some g)) : DS w B g a len cap w1 :=
  ⟨hc, h.rd.grown hg hB, grown_trans h.gr hg⟩
theorem DS.later {w wr w1 : World} {B g : Nat} {a : Option Addr} {len cap : Nat} (h : DS w B g a len cap wr) (hB : B ≤ g) (hb : Below wr.heap.size wr w1) : DS w B g a len cap w1 :=
  h.step hB (h.cur.below hb) (grow_below hb)
theorem grown_cell {w w1 : World} {g b o : Nat} {v : Value} (h : w.grownBy w1 (some g)) (hne : b ≠ g) (hc : w.cell? ⟨b, o, none⟩ = some v) : w1.cell? ⟨b, o, none⟩ = some v :=
  h.cell hc (by intro e; have := Option.some.inj e; simp at this; omega)
theorem grown_frozen {w w1 : World} {g b o : Nat} (h : w.grownBy w1 (some g)) (hne : b ≠ g) (hb : b < w.heap.size) : w1.frozen? ⟨b, o, none⟩ = w.frozen? ⟨b, o, none⟩ :=
  World.frozen?_of_block (a := ⟨b, o, none⟩) (h.block b hb (by intro e; injection e with e; omega))

set_option maxHeartbeats 800000 in
theorem from_any (B g : Nat) (a : Option Addr) (len cap : Nat) (lo hi : Int) (w : World) (hB : B ≤ g) (hl : len ≤ 9223372036854775807) (hc : CurAt w g a len cap) (hr : RdB w B a len) (h1 : -1000000 ≤ lo) (h2 : lo ≤ hi) (h3 : hi ≤ 1000000) :
    Calls Tryz.prog 24 #[.pointer (some ⟨g, 0, none⟩), .int .i64 lo, .int .i64 hi] w fun e w' => ∃ x, e = .returned (.int .i64 x) ∧ lo ≤ x ∧ x ≤ hi ∧ CurAt w' g a len cap ∧ w.grownBy w' (some g) := by
  have hc' := hide hc
  have hr' := hide hr
  clear hc hr
  go_enter Tryz.func24, Tryz.ntmps24
  go_wp2_with fail
  refine (below_any B g a len cap (hi - lo + 1) _ hB hl (unhide hc') (unhide hr') (by omega)).mono ?_
  rintro e w1 ⟨x, rfl, x0, x1, k1, g1⟩
  have k1' := hide k1
  have g1' := hide g1
  clear k1 g1
  go_wp2
  go_ret
  exact ⟨_, rfl, by omega, by omega, unhide k1', unhide g1'⟩
theorem rdb_later {w w1 : World} {B : Nat} {a : Option Addr} {len : Nat} (h : RdB w B a len) (hb : Below B w w1) : RdB w1 B a len := by
  intro j hj
  obtain ⟨b, o, z, e, hb2, hc, h0, h1⟩ := h j hj
  exact ⟨b, o, z, e, hb2, (hb.cell (p := ⟨b, o + j, none⟩) hb2).trans hc, h0, h1⟩
end Go.Proofs.YtioaehjppiodfaaGreatDoor

namespace Go.Proofs.YtioaehjppiodfaaGreatDoor
open Go.RowKit
set_option linter.unusedVariables false
set_option linter.unusedSimpArgs false

/-- every line has at most seventeen bytes and its end -/
def HL (l : List UInt8) : Prop := (∀ p, p <+: l → p.length ≤ 18 * p.count 10 + 17) ∧ l.length ≤ 18 * l.count 10
theorem pre_split {p l m : List UInt8} (h : p <+: l ++ m) : p <+: l ∨ ∃ q, q <+: m ∧ p = l ++ q := by
  obtain ⟨r, hr⟩ := h
  rcases Nat.le_total p.length l.length with hl | hl
  · left
    have : p = l.take p.length := by
      have h2 : (p ++ r).take p.length = (l ++ m).take p.length := by rw [hr]
      rw [List.take_left, List.take_append_of_le_length hl] at h2
      exact h2
    rw [this]
    exact List.take_prefix _ _
  · right
    have : l = p.take l.length := by
      have h2 : (p ++ r).take l.length = (l ++ m).take l.length := by rw [hr]
      rw [List.take_left, List.take_append_of_le_length hl] at h2
      exact h2.symm
    refine ⟨p.drop l.length, ?_, ?_⟩
    · refine ⟨r, ?_⟩
      have h2 : (p ++ r).drop l.length = (l ++ m).drop l.length := by rw [hr]
      rw [List.drop_left, List.drop_append_of_le_length hl] at h2
      exact h2
    · conv => lhs; rw [← List.take_append_drop l.length p]
      rw [← this]
theorem HL.app {l Z : List UInt8} (h : HL l) (hZ : Z.length ≤ 17) (h10 : (10 : UInt8) ∉ Z) : HL (l ++ (Z ++ [10])) := by
  have hc : Z.count 10 = 0 := List.count_eq_zero.2 h10
  refine ⟨fun p hp => ?_, ?_⟩
  · rcases pre_split hp with hp | ⟨q, hq, rfl⟩
    · exact h.1 p hp
    · have hl := h.2
      rcases pre_split hq with hq | ⟨r, hr, rfl⟩
      · have := hq.length_le
        rw [List.length_append, List.count_append]
        omega
      · have h1 : r.length ≤ 1 := hr.length_le
        rw [List.length_append, List.length_append, List.count_append, List.count_append, hc]
        rcases Nat.eq_zero_or_pos r.length with h0 | h0
        · omega
        · have : r = [10] := hr.eq_of_length (by simp; omega)
          subst this
          simp
          omega
  · have hl := h.2
    rw [List.length_append, List.length_append, List.count_append, List.count_append, hc]
    simp
    omega
/-- a text behind damage, and doubled -/
def HM (l : List UInt8) (m : Nat) : Prop := l.length ≤ 18 * (l.count 10 + m) ∧ l.length ≤ 800 * m
theorem HL.hm {l : List UInt8} (h : HL l) (hl : l.length ≤ 800) : HM l 1 := ⟨by have := h.2; omega, by omega⟩
theorem HL.cut {l : List UInt8} (h : HL l) (hl : l.length ≤ 800) (k : Nat) : HM (l.take k) 1 := by
  have h1 := h.1 (l.take k) (List.take_prefix _ _)
  refine ⟨by omega, ?_⟩
  rw [List.length_take]
  omega
theorem count_take_drop (l : List UInt8) (k : Nat) : l.count 10 ≤ (l.take k).count 10 + (l.drop (k + 1)).count 10 + 1 := by
  have e : l = l.take k ++ l.drop k := (List.take_append_drop k l).symm
  have e2 : l.count 10 = (l.take k).count 10 + (l.drop k).count 10 := by
    conv => lhs; rw [e]
    rw [List.count_append]
  rw [e2]
  cases hd : l.drop k with
  | nil => simp; omega
  | cons b t =>
    have : l.drop (k + 1) = t := by rw [← List.drop_drop, hd]; rfl
    rw [this, List.count_cons]
    split <;> omega
theorem HL.put {l : List UInt8} (h : HL l) (hl : l.length ≤ 800) {k : Nat} (hk : k < l.length) (b : UInt8) : HM (l.take k ++ [b] ++ l.drop (k + 1)) 1 := by
  have h1 := h.2
  have h2 := count_take_drop l k
  refine ⟨?_, ?_⟩
  · rw [List.length_append, List.length_append, List.count_append, List.count_append, List.length_take, List.length_drop]
    simp
    omega
  · rw [List.length_append, List.length_append, List.length_take, List.length_drop]
    simp
    omega
theorem HL.less {l : List UInt8} (h : HL l) (hl : l.length ≤ 800) : HM (l.take (l.length - 1)) 1 := h.cut hl _
theorem HM.twice {l : List UInt8} {m : Nat} (h : HM l m) : HM (l ++ l) (2 * m) := by
  obtain ⟨h1, h2⟩ := h
  refine ⟨?_, ?_⟩
  · rw [List.length_append, List.count_append]; omega
  · rw [List.length_append]; omega
/-- what the law asks of a drawn text -/
def TxOk (l : List UInt8) : Prop := l.length ≤ 20000 ∧ (4000 < l.length → 200 < l.count 10)
theorem HM.ok {l : List UInt8} {m : Nat} (h : HM l m) (hm : m ≤ 16) : TxOk l := by
  obtain ⟨h1, h2⟩ := h
  exact ⟨by omega, fun h3 => by omega⟩
theorem HL.first : HL [105, 110, 115, 101, 114, 116, 32, 48, 32, 49, 32, 53, 32, 50, 48, 10] := by
  have := HL.app (l := []) (Z := [105, 110, 115, 101, 114, 116, 32, 48, 32, 49, 32, 53, 32, 50, 48]) ⟨fun p hp => by have := hp.length_le; simp at this; subst this; simp, by simp⟩ (by decide) (by decide)
  exact this
/-- a short string without an end of a line -/
def Sm (s : ByteArray) (c : Nat) : Prop := s.size ≤ c ∧ (10 : UInt8) ∉ s.data.toList
theorem data_app (A B : ByteArray) : (A ++ B).data.toList = A.data.toList ++ B.data.toList := by rw [ByteArray.data_append]; simp
theorem size_app (A B : ByteArray) : (A ++ B).size = A.size + B.size := by rw [Lib.size_eq, data_app, List.length_append, ← Lib.size_eq, ← Lib.size_eq]
theorem Sm.add {A B : ByteArray} {a b : Nat} (h : Sm A a) (k : Sm B b) : Sm (A ++ B) (a + b) := by
  refine ⟨by rw [size_app]; have := h.1; have := k.1; omega, ?_⟩
  rw [data_app, List.mem_append, not_or]
  exact ⟨h.2, k.2⟩
theorem Sm.mono {A : ByteArray} {a b : Nat} (h : Sm A a) (k : a ≤ b) : Sm A b := ⟨Nat.le_trans h.1 k, h.2⟩
theorem itoa_small : ∀ n : Nat, n < 40 → (Pl.dec n).length ≤ 2 := by decide +kernel
theorem itoa_tiny : ∀ n : Nat, n < 10 → (Pl.dec n).length ≤ 1 := by decide +kernel
theorem nt_size_eq (n : Int) : (nt n).size = (Lib.itoa n).length := by show (Lib.itoa n).toArray.size = _; simp
theorem sm2 {n : Int} (h0 : 0 ≤ n) (h1 : n < 40) : Sm (nt n) 2 := by
  refine ⟨?_, itoa_no10 n⟩
  obtain ⟨m, rfl⟩ := Int.eq_ofNat_of_zero_le h0
  rw [nt_size_eq, itoa_dec h0]
  exact itoa_small m (by omega)
theorem sm1 {n : Int} (h0 : 0 ≤ n) (h1 : n < 10) : Sm (nt n) 1 := by
  refine ⟨?_, itoa_no10 n⟩
  obtain ⟨m, rfl⟩ := Int.eq_ofNat_of_zero_le h0
  rw [nt_size_eq, itoa_dec h0]
  exact itoa_tiny m (by omega)
theorem smS {n : Int} (h0 : -5 ≤ n) (h1 : n < 5) : Sm (nt n) 2 := by
  refine ⟨?_, itoa_no10 n⟩
  rw [nt_size_eq]
  have : n = -5 ∨ n = -4 ∨ n = -3 ∨ n = -2 ∨ n = -1 ∨ n = 0 ∨ n = 1 ∨ n = 2 ∨ n = 3 ∨ n = 4 := by omega
  rcases this with rfl | rfl | rfl | rfl | rfl | rfl | rfl | rfl | rfl | rfl <;> decide +kernel
theorem add_run {A B C : ByteArray} (h : A ++ B = C) (hs : A.size + B.size ≤ 9223372036854775807) (w : World) : (Op.stringOp .add A B).run Tryz.prog w = .ok (.string C) w := by
  rw [← h]
  exact run_string_add_sum (P := Tryz.prog) w A B hs
theorem rdb_row {W : World} {a : Option Addr} {zs : List Int} (h : Row false 0 W.heap.size W a zs) : RdB W W.heap.size a zs.length := by
  intro j hj
  obtain ⟨b, o, e, _, h2, hc, z0, z1, _⟩ := h j zs[j] (List.getElem?_eq_getElem hj)
  exact ⟨b, o, _, e, h2, hc, z0, z1⟩
end Go.Proofs.YtioaehjppiodfaaGreatDoor

namespace Go.Proofs.YtioaehjppiodfaaGreatDoor
open Go.RowKit
set_option linter.unusedVariables false
set_option linter.unusedSimpArgs false

theorem cells_at {W : World} {E : Nat} {cs : List Value} {t : TypeId} (h : W.heap[E]? = some (.cells cs.toArray t (0, 0))) {j : Nat} {v : Value} (hj : cs[j]? = some v) : W.cell? ⟨E, j, none⟩ = some v := by
  simp [World.cell?, h, hj]
/-- the text under way -/
def TxU (X : ByteArray) (q : Nat) : Prop := HL X.data.toList ∧ X.size ≤ 16 + 36 * q ∧ 16 ≤ X.size
theorem TxU.add {X Z C : ByteArray} {c : Nat} (h : HL X.data.toList) (hs : X.size ≤ c) (h16 : 16 ≤ X.size) (hZ : Sm Z 17) (e : X ++ Z ++ ⟨#[10]⟩ = C) : HL C.data.toList ∧ C.size ≤ c + 18 ∧ 16 ≤ C.size := by
  subst e
  rw [data_app, data_app, List.append_assoc, size_app, size_app]
  have h1 := hZ.1
  have e1 : (⟨#[10]⟩ : ByteArray).size = 1 := rfl
  refine ⟨h.app (by rw [← Lib.size_eq]; exact h1) hZ.2, by omega, by omega⟩

/-- one of seventeen short strings -/
theorem pick17 {S49 S54 S56 S64 S69 S71 S73 S78 S83 S88 S93 S95 : ByteArray} (mS49 : Sm S49 17) (mS54 : Sm S54 15) (mS56 : Sm S56 15) (mS64 : Sm S64 14) (mS69 : Sm S69 13) (mS71 : Sm S71 12) (mS73 : Sm S73 9) (mS78 : Sm S78 9) (mS83 : Sm S83 9) (mS88 : Sm S88 10) (mS93 : Sm S93 11) (mS95 : Sm S95 5) {j : Nat} (hj : j < 17) :
    ∃ Z : ByteArray, ([.string S49, .string S54, .string S56, .string S64, .string S69, .string S71, .string S73, .string S78, .string S83, .string S88, .string S93, .string (⟨#[117, 110, 100, 111]⟩ : ByteArray), .string (⟨#[117, 110, 100, 111]⟩ : ByteArray), .string S95, .string (⟨#[115, 104, 111, 119]⟩ : ByteArray), .string (⟨#[99, 104, 97, 110, 103, 101, 115]⟩ : ByteArray), .string (⟨#[115, 117, 109]⟩ : ByteArray)] : List Value)[j]? = some (.string Z) ∧ Sm Z 17 := by
  have hc : j = 0 ∨ j = 1 ∨ j = 2 ∨ j = 3 ∨ j = 4 ∨ j = 5 ∨ j = 6 ∨ j = 7 ∨ j = 8 ∨ j = 9 ∨ j = 10 ∨ j = 11 ∨ j = 12 ∨ j = 13 ∨ j = 14 ∨ j = 15 ∨ j = 16 := by omega
  rcases hc with rfl | rfl | rfl | rfl | rfl | rfl | rfl | rfl | rfl | rfl | rfl | rfl | rfl | rfl | rfl | rfl | rfl
  · exact ⟨_, rfl, Sm.mono mS49 (by omega)⟩
  · exact ⟨_, rfl, Sm.mono mS54 (by omega)⟩
  · exact ⟨_, rfl, Sm.mono mS56 (by omega)⟩
  · exact ⟨_, rfl, Sm.mono mS64 (by omega)⟩
  · exact ⟨_, rfl, Sm.mono mS69 (by omega)⟩
  · exact ⟨_, rfl, Sm.mono mS71 (by omega)⟩
  · exact ⟨_, rfl, Sm.mono mS73 (by omega)⟩
  · exact ⟨_, rfl, Sm.mono mS78 (by omega)⟩
  · exact ⟨_, rfl, Sm.mono mS83 (by omega)⟩
  · exact ⟨_, rfl, Sm.mono mS88 (by omega)⟩
  · exact ⟨_, rfl, Sm.mono mS93 (by omega)⟩
  · exact ⟨_, rfl, Sm.mono (show Sm (⟨#[117, 110, 100, 111]⟩ : ByteArray) 4 from ⟨Nat.le_refl _, by decide⟩) (by omega)⟩
  · exact ⟨_, rfl, Sm.mono (show Sm (⟨#[117, 110, 100, 111]⟩ : ByteArray) 4 from ⟨Nat.le_refl _, by decide⟩) (by omega)⟩
  · exact ⟨_, rfl, Sm.mono mS95 (by omega)⟩
  · exact ⟨_, rfl, Sm.mono (show Sm (⟨#[115, 104, 111, 119]⟩ : ByteArray) 4 from ⟨Nat.le_refl _, by decide⟩) (by omega)⟩
  · exact ⟨_, rfl, Sm.mono (show Sm (⟨#[99, 104, 97, 110, 103, 101, 115]⟩ : ByteArray) 7 from ⟨Nat.le_refl _, by decide⟩) (by omega)⟩
  · exact ⟨_, rfl, Sm.mono (show Sm (⟨#[115, 117, 109]⟩ : ByteArray) 3 from ⟨Nat.le_refl _, by decide⟩) (by omega)⟩

theorem pick12 {j : Nat} (hj : j < 12) : ∃ Z : ByteArray, ([.string (⟨#[10]⟩ : ByteArray), .string (⟨#[117, 110, 100, 111, 32, 49, 10]⟩ : ByteArray), .string (⟨#[115, 104, 111, 119, 32, 10]⟩ : ByteArray), .string (⟨#[32, 115, 104, 111, 119, 10]⟩ : ByteArray), .string (⟨#[97, 116, 10]⟩ : ByteArray), .string (⟨#[97, 116, 32, 45, 49, 10]⟩ : ByteArray), .string (⟨#[97, 116, 32, 48, 49, 10]⟩ : ByteArray), .string (⟨#[105, 110, 115, 101, 114, 116, 32, 48, 32, 53, 48, 49, 32, 48, 32, 49, 10]⟩ : ByteArray), .string (⟨#[105, 110, 115, 101, 114, 116, 32, 48, 32, 48, 32, 49, 32, 49, 10]⟩ : ByteArray), .string (⟨#[119, 104, 97, 116, 10]⟩ : ByteArray), .string (⟨#[32, 10]⟩ : ByteArray), .string (⟨#[108, 105, 102, 116, 32, 48, 32, 48, 10]⟩ : ByteArray)] : List Value)[j]? = some (.string (Z ++ ⟨#[10]⟩)) ∧ Sm Z 17 := by
  have hc : j = 0 ∨ j = 1 ∨ j = 2 ∨ j = 3 ∨ j = 4 ∨ j = 5 ∨ j = 6 ∨ j = 7 ∨ j = 8 ∨ j = 9 ∨ j = 10 ∨ j = 11 := by omega
  rcases hc with rfl | rfl | rfl | rfl | rfl | rfl | rfl | rfl | rfl | rfl | rfl | rfl
  · exact ⟨⟨#[]⟩, rfl, by decide, by decide⟩
  · exact ⟨⟨#[117, 110, 100, 111, 32, 49]⟩, rfl, by decide, by decide⟩
  · exact ⟨⟨#[115, 104, 111, 119, 32]⟩, rfl, by decide, by decide⟩
  · exact ⟨⟨#[32, 115, 104, 111, 119]⟩, rfl, by decide, by decide⟩
  · exact ⟨⟨#[97, 116]⟩, rfl, by decide, by decide⟩
  · exact ⟨⟨#[97, 116, 32, 45, 49]⟩, rfl, by decide, by decide⟩
  · exact ⟨⟨#[97, 116, 32, 48, 49]⟩, rfl, by decide, by decide⟩
  · exact ⟨⟨#[105, 110, 115, 101, 114, 116, 32, 48, 32, 53, 48, 49, 32, 48, 32, 49]⟩, rfl, by decide, by decide⟩
  · exact ⟨⟨#[105, 110, 115, 101, 114, 116, 32, 48, 32, 48, 32, 49, 32, 49]⟩, rfl, by decide, by decide⟩
  · exact ⟨⟨#[119, 104, 97, 116]⟩, rfl, by decide, by decide⟩
  · exact ⟨⟨#[32]⟩, rfl, by decide, by decide⟩
  · exact ⟨⟨#[108, 105, 102, 116, 32, 48, 32, 48]⟩, rfl, by decide, by decide⟩
end Go.Proofs.YtioaehjppiodfaaGreatDoor
