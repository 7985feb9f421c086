/-
  Contracts of the drawing functions of the model, over a cursor on bytes that came in: each answers, within its bounds, and writes into the cursor alone.
  The draws' state: a cursor over bytes that came in, and all else as it was; no conditions.
  A drawn list of tasks in memory: each has a list of needs of its own, or none yet; a cursor beside them.
-/
import Derived.Test.YtpmmimcafkillaaZCopyL
import Derived.Test.YtpmmimcafkillaaZJbP
import Derived.Test.YtpmmimcafkillaaZRnM
import Derived.Deep.AppendLies
import Derived.Deep.Slices
namespace Go.Proofs.Ytpmmimcafkillaa
open Go.RowKit
set_option linter.unusedVariables false

/-- a cursor in block g over the slice a, len, cap -/
def CurAt (w : World) (g : Nat) (a : Option Addr) (len cap : Nat) : Prop :=
  ∃ i h : Int, w.cell? ⟨g, 0, none⟩ = some (.slice a len cap) ∧ w.cell? ⟨g, 1, none⟩ = some (.int .i64 i) ∧ w.cell? ⟨g, 2, none⟩ = some (.int .i64 h) ∧ w.frozen? ⟨g, 1, none⟩ = false ∧ w.frozen? ⟨g, 2, none⟩ = false ∧ 0 ≤ i ∧ i ≤ len
/-- its bytes, in blocks below B -/
def RdB (w : World) (B : Nat) (a : Option Addr) (len : Nat) : Prop :=
  ∀ j, j < len → ∃ (b o : Nat) (z : Int), a = some ⟨b, o, none⟩ ∧ b < B ∧ w.cell? ⟨b, o + j, none⟩ = some (.int .u8 z) ∧ 0 ≤ z ∧ z ≤ 255

theorem grown_belowD {w w1 : World} {g : Option Nat} (h : Below w.heap.size w w1) : w.grownBy w1 g :=
  ⟨h.os, h.tape, h.output, h.size, fun j hj _ => h.block j hj⟩
theorem grown_drewN {w w1 : World} {g : Option Nat} (h : w.grownBy w1 g) (n : Nat) : w.grownBy (w1.drewN n) g :=
  grown_trans h ⟨rfl, rfl, rfl, Nat.le_refl _, fun _ _ _ => rfl⟩
theorem RdB.grown {w w1 : World} {B : Nat} {a : Option Addr} {len g : Nat} (h : RdB w B a len) (hg : w.grownBy w1 (some g)) (hB : B ≤ g) : RdB w1 B a len := by
  intro j hj
  obtain ⟨b, o, z, e, hb, hc, h0, h1⟩ := h j hj
  exact ⟨b, o, z, e, hb, hg.cell hc (by intro he; have := Option.some.inj he; simp at this; omega), h0, h1⟩

theorem and255 (n : Int) : 0 ≤ bits .and .i64 n 255 ∧ bits .and .i64 n 255 ≤ 255 := by
  have h : bits .and .i64 n 255 = IntKind.i64.wrap ((BitVec.ofInt 64 n &&& BitVec.ofInt 64 255).toNat : Int) := rfl
  have h2 : (BitVec.ofInt 64 n &&& BitVec.ofInt 64 255).toNat ≤ 255 := by
    rw [BitVec.toNat_and]
    have : (BitVec.ofInt 64 255).toNat = 255 := by decide
    rw [this]; exact Nat.and_le_right
  rw [h, IntKind.wrap_i64]
  omega

theorem ne_off {g i j : Nat} (h : i ≠ j) : (⟨g, i, none⟩ : Addr) ≠ ⟨g, j, none⟩ := by intro e; injection e with _ e2 _; exact h e2
theorem cur_end {w : World} {g : Nat} {a : Option Addr} {len cap q : Nat} {i h h1 : Int} (c0 : w.cell? ⟨g, 0, none⟩ = some (.slice a len cap)) (c1 : w.cell? ⟨g, 1, none⟩ = some (.int .i64 i)) (c2 : w.cell? ⟨g, 2, none⟩ = some (.int .i64 h))
    (f1 : w.frozen? ⟨g, 1, none⟩ = false) (f2 : w.frozen? ⟨g, 2, none⟩ = false) (i0 : 0 ≤ i) (i1 : i ≤ len) : CurAt ((w.setCell ⟨g, 2, none⟩ (.int .i64 h1)).drewN q) g a len cap := by
  refine ⟨i, h1, ?_, ?_, ?_, ?_, ?_, i0, i1⟩
  · show (w.setCell ⟨g, 2, none⟩ (.int .i64 h1)).cell? _ = _
    rw [World.cell?_setCell_other _ _ _ _ (ne_off (by decide))]; exact c0
  · show (w.setCell ⟨g, 2, none⟩ (.int .i64 h1)).cell? _ = _
    rw [World.cell?_setCell_other _ _ _ _ (ne_off (by decide))]; exact c1
  · show (w.setCell ⟨g, 2, none⟩ (.int .i64 h1)).cell? _ = _
    exact World.cell?_setCell_same _ _ _ c2
  · show (w.setCell ⟨g, 2, none⟩ (.int .i64 h1)).frozen? _ = _
    rw [World.frozen?_setCell]; exact f1
  · show (w.setCell ⟨g, 2, none⟩ (.int .i64 h1)).frozen? _ = _
    rw [World.frozen?_setCell]; exact f2
theorem cur_next {w : World} {g : Nat} {a : Option Addr} {len cap : Nat} {i : Int} (h : CurAt w g a len cap) (i0 : 0 ≤ i) (i1 : i ≤ len) : CurAt (w.setCell ⟨g, 1, none⟩ (.int .i64 i)) g a len cap := by
  obtain ⟨i', h1, c0, c1, c2, f1, f2, _, _⟩ := h
  refine ⟨i, h1, ?_, ?_, ?_, ?_, ?_, i0, i1⟩
  · rw [World.cell?_setCell_other _ _ _ _ (ne_off (by decide))]; exact c0
  · exact World.cell?_setCell_same _ _ _ c1
  · rw [World.cell?_setCell_other _ _ _ _ (ne_off (by decide))]; exact c2
  · rw [World.frozen?_setCell]; exact f1
  · rw [World.frozen?_setCell]; exact f2
theorem CurAt.other {w w1 : World} {g : Nat} {a : Option Addr} {len cap : Nat} (h : CurAt w g a len cap) (hb : w1.heap[g]? = w.heap[g]?) : CurAt w1 g a len cap := by
  obtain ⟨i, h1, c0, c1, c2, f1, f2, i0, i1⟩ := h
  exact ⟨i, h1, (World.cell?_of_block (a := ⟨g, 0, none⟩) hb).trans c0, (World.cell?_of_block (a := ⟨g, 1, none⟩) hb).trans c1, (World.cell?_of_block (a := ⟨g, 2, none⟩) hb).trans c2, (World.frozen?_of_block (a := ⟨g, 1, none⟩) hb).trans f1, (World.frozen?_of_block (a := ⟨g, 2, none⟩) hb).trans f2, i0, i1⟩
theorem CurAt.lt {w : World} {g : Nat} {a : Option Addr} {len cap : Nat} (h : CurAt w g a len cap) : g < w.heap.size := by
  obtain ⟨i, h1, c0, _⟩ := h
  exact World.block_lt_of_cell? _ _ c0
theorem CurAt.below {w w1 : World} {g : Nat} {a : Option Addr} {len cap : Nat} (h : CurAt w g a len cap) (hb : Below w.heap.size w w1) : CurAt w1 g a len cap := h.other (hb.block g h.lt)

set_option maxHeartbeats 800000 in
theorem byte_more (g : Nat) (b o len cap : Nat) (i h z : Int) (w : World) (c0 : w.cell? ⟨g, 0, none⟩ = some (.slice (some ⟨b, o, none⟩) len cap)) (c1 : w.cell? ⟨g, 1, none⟩ = some (.int .i64 i)) (c2 : w.cell? ⟨g, 2, none⟩ = some (.int .i64 h))
    (f1 : w.frozen? ⟨g, 1, none⟩ = false) (f2 : w.frozen? ⟨g, 2, none⟩ = false) (i0 : 0 ≤ i) (i1 : i < len) (hl : len ≤ 9223372036854775807) (hbg : b ≠ g) (hz : w.cell? ⟨b, o + i.toNat, none⟩ = some (.int .u8 z)) (z0 : 0 ≤ z) (z1 : z ≤ 255) :
    Calls Try.prog 54 #[.pointer (some ⟨g, 0, none⟩)] w fun e w' => ∃ x, e = .returned (.int .i64 x) ∧ 0 ≤ x ∧ x ≤ 255 ∧ CurAt w' g (some ⟨b, o, none⟩) len cap ∧ w.grownBy w' (some g) := by
  obtain ⟨n, rfl⟩ := Int.eq_ofNat_of_zero_le i0
  rw [Int.toNat_natCast] at hz
  go_enter Try.func54, Try.ntmps54
  go_wp2
  generalize wrap64 (wrap64 (h * 6364136223846793005) + 1442695040888963407) = h1
  have hz' : (w.setCell ⟨g, 2, none⟩ (.int .i64 h1)).cell? ⟨b, o + n, none⟩ = some (.int .u8 z) := by
    rw [World.cell?_setCell_other _ _ _ _ (by intro e; injection e with e1 _ _; exact hbg e1.symm)]; exact hz
  go_quiet (fail)
  go_wp2
  obtain ⟨x0, x1⟩ := and255 (bits BinOp.xor IntKind.i64 (h1 / 8589934592) (h1 / 35184372088832))
  generalize bits BinOp.and IntKind.i64 (bits BinOp.xor IntKind.i64 (h1 / 8589934592) (h1 / 35184372088832)) 255 = x at *
  go_quiet (fail)
  go_wp2
  go_quiet (fail)
  go_wp2
  go_ret
  exact ⟨_, rfl, (and255 _).1, (and255 _).2, cur_next (cur_end c0 c1 c2 f1 f2 i0 (by omega)) (by omega) (by omega), grown_set (grown_drewN (grown_set (World.grownBy.refl _ _)) _)⟩

set_option maxHeartbeats 800000 in
theorem byte_last (g : Nat) (a : Option Addr) (len cap : Nat) (i h : Int) (w : World) (c0 : w.cell? ⟨g, 0, none⟩ = some (.slice a len cap)) (c1 : w.cell? ⟨g, 1, none⟩ = some (.int .i64 i)) (c2 : w.cell? ⟨g, 2, none⟩ = some (.int .i64 h))
    (f1 : w.frozen? ⟨g, 1, none⟩ = false) (f2 : w.frozen? ⟨g, 2, none⟩ = false) (i0 : 0 ≤ i) (i1 : i ≤ len) (i2 : ¬ i < len) (hl : len ≤ 9223372036854775807) :
    Calls Try.prog 54 #[.pointer (some ⟨g, 0, none⟩)] w fun e w' => ∃ x, e = .returned (.int .i64 x) ∧ 0 ≤ x ∧ x ≤ 255 ∧ CurAt w' g a len cap ∧ w.grownBy w' (some g) := by
  go_enter Try.func54, Try.ntmps54
  go_wp2
  generalize wrap64 (wrap64 (h * 6364136223846793005) + 1442695040888963407) = h1
  go_quiet (fail)
  go_wp2
  obtain ⟨x0, x1⟩ := and255 (bits BinOp.xor IntKind.i64 (h1 / 8589934592) (h1 / 35184372088832))
  generalize bits BinOp.and IntKind.i64 (bits BinOp.xor IntKind.i64 (h1 / 8589934592) (h1 / 35184372088832)) 255 = x at *
  go_quiet (fail)
  go_wp2
  go_ret
  exact ⟨x, rfl, x0, x1, by rw [World.drewN_drewN]; exact cur_end c0 c1 c2 f1 f2 i0 (by omega), grown_drewN (grown_drewN (grown_set (World.grownBy.refl _ _)) _) _⟩

theorem byte_any (B g : Nat) (a : Option Addr) (len cap : Nat) (w : World) (hB : B ≤ g) (hl : len ≤ 9223372036854775807) (hc : CurAt w g a len cap) (hr : RdB w B a len) :
    Calls Try.prog 54 #[.pointer (some ⟨g, 0, none⟩)] w fun e w' => ∃ x, e = .returned (.int .i64 x) ∧ 0 ≤ x ∧ x ≤ 255 ∧ CurAt w' g a len cap ∧ w.grownBy w' (some g) := by
  obtain ⟨i, h, c0, c1, c2, f1, f2, i0, i1⟩ := hc
  by_cases i2 : i < len
  · obtain ⟨b, o, z, rfl, hb, hz, z0, z1⟩ := hr i.toNat (by omega)
    exact byte_more g b o len cap i h z w c0 c1 c2 f1 f2 i0 i2 hl (by omega) hz z0 z1
  · exact byte_last g a len cap i h w c0 c1 c2 f1 f2 i0 i1 i2 hl

set_option maxHeartbeats 800000 in
theorem below_any (B g : Nat) (a : Option Addr) (len cap : Nat) (n : Int) (w : World) (hB : B ≤ g) (hl : len ≤ 9223372036854775807) (hc : CurAt w g a len cap) (hr : RdB w B a len) (n0 : 0 < n) :
    Calls Try.prog 34 #[.pointer (some ⟨g, 0, none⟩), .int .i64 n] w fun e w' => ∃ x, e = .returned (.int .i64 x) ∧ 0 ≤ x ∧ x < n ∧ CurAt w' g a len cap ∧ w.grownBy w' (some g) := by
  have hc' := hide hc
  have hr' := hide hr
  clear hc hr
  by_cases h : n ≤ 256
  · go_enter Try.func34, Try.ntmps34
    go_wp2_with fail
    refine (byte_any B g a len cap _ hB hl (unhide hc') (unhide hr')).mono ?_
    rintro e w1 ⟨x, rfl, x0, x1, k1, g1⟩
    go_wp2
    go_ret
    exact ⟨_, rfl, Int.emod_nonneg _ (by omega), Int.emod_lt_of_pos _ n0, k1, g1⟩
  · go_enter Try.func34, Try.ntmps34
    go_wp2_with fail
    refine (byte_any B g a len cap _ hB hl (unhide hc') (unhide hr')).mono ?_
    rintro e w1 ⟨x, rfl, x0, x1, k1, g1⟩
    have r1 := (unhide hr').grown g1 hB
    have k1' := hide k1
    have r1' := hide r1
    clear k1 r1
    go_wp2_with fail
    refine (byte_any B g a len cap _ hB hl (unhide k1') (unhide r1')).mono ?_
    rintro e w2 ⟨y, rfl, y0, y1, k2, g2⟩
    have r2 := (unhide r1').grown g2 hB
    have k2' := hide k2
    have r2' := hide r2
    clear k2 r2
    go_wp2_with fail
    refine (byte_any B g a len cap _ hB hl (unhide k2') (unhide r2')).mono ?_
    rintro e w3 ⟨z, rfl, z0, z1, k3, g3⟩
    have r3 := (unhide r2').grown g3 hB
    have k3' := hide k3
    have r3' := hide r3
    clear k3 r3
    go_wp2_with fail
    refine (byte_any B g a len cap _ hB hl (unhide k3') (unhide r3')).mono ?_
    rintro e w4 ⟨v, rfl, v0, v1, k4, g4⟩
    go_wp2
    go_ret
    exact ⟨_, rfl, Int.emod_nonneg _ (by omega), Int.emod_lt_of_pos _ n0, k4, grown_trans g1 (grown_trans g2 (grown_trans g3 g4))⟩

set_option maxHeartbeats 400000 in
theorem once_any (B g : Nat) (a : Option Addr) (len cap : Nat) (n : Int) (w : World) (hB : B ≤ g) (hl : len ≤ 9223372036854775807) (hc : CurAt w g a len cap) (hr : RdB w B a len) (n0 : 0 < n) :
    Calls Try.prog 35 #[.pointer (some ⟨g, 0, none⟩), .int .i64 n] w fun e w' => ∃ x, e = .returned (.bool x) ∧ CurAt w' g a len cap ∧ w.grownBy w' (some g) := by
  have hc' := hide hc
  have hr' := hide hr
  clear hc hr
  go_enter Try.func35, Try.ntmps35
  go_wp2_with fail
  refine (below_any B g a len cap n _ hB hl (unhide hc') (unhide hr') n0).mono ?_
  rintro e w1 ⟨x, rfl, x0, x1, k1, g1⟩
  go_wp2
  go_ret
  exact ⟨_, rfl, k1, g1⟩

set_option maxHeartbeats 800000 in
theorem new_any (a : Option Addr) (len cap : Nat) (w : World) (hl : len ≤ 9223372036854775807) (hl2 : len ≤ 1000000) (hr : RdB w w.heap.size a len) :
    Calls Try.prog 33 #[.slice a len cap] w fun e w' => ∃ g, e = .returned (.pointer (some ⟨g, 0, none⟩)) ∧ w.heap.size ≤ g ∧ CurAt w' g a len cap ∧ Below w.heap.size w w' := by
  go_enter Try.func33, Try.ntmps33
  go_wp2
  go_loop [3, 4] (fun s t => ∃ (k : Nat) (h : Int), k ≤ len ∧ t = .int .i64 k ∧ s = .int .i64 h) (fun _ t => len - (intOf t).toNat)
  case atStart => exact ⟨0, _, Nat.zero_le _, rfl, rfl⟩
  case round =>
    obtain ⟨k, h, hk, rfl, rfl⟩ := hrel
    by_cases hlt : k < len
    · obtain ⟨b, o, z, rfl, hb, hz, z0, z1⟩ := hr k hlt
      have hr' := hide hr
      clear hr
      go_wp2
      go_round
      case rel => exact ⟨k + 1, _, by omega, by go_num, rfl⟩
      case measure => simp [intOf]; omega
    · have hr' := hide hr
      clear hr
      go_wp2
      go_ret
      refine ⟨w.heap.size, rfl, Nat.le_refl _, ⟨0, h, by simp, by simp, by simp, by simp, by simp, by omega, by omega⟩, (Below.refl _ _).alloc (Nat.le_refl _) _⟩
end Go.Proofs.Ytpmmimcafkillaa

namespace Go.Proofs.Ytpmmimcafkillaa
open Go.RowKit
set_option linter.unusedVariables false
set_option linter.unusedSimpArgs false

/-- the draws' state: a cursor in g over bytes below B, and all but the cursor as in w -/
structure DS (w : World) (B g : Nat) (a : Option Addr) (len cap : Nat) (wr : World) : Prop where
  cur : CurAt wr g a len cap
  rd : RdB wr B a len
  gr : w.grownBy wr (some g)
theorem DS.step {w wr w1 : World} {B g : Nat} {a : Option Addr} {len cap : Nat} (h : DS w B g a len cap wr) (hB : B ≤ g) (hc : CurAt w1 g a len cap) (hg : wr.grownBy w1 (some g)) : DS w B g a len cap w1 :=
  ⟨hc, h.rd.grown hg hB, grown_trans h.gr hg⟩
theorem DS.later {w wr w1 : World} {B g : Nat} {a : Option Addr} {len cap : Nat} (h : DS w B g a len cap wr) (hB : B ≤ g) (hb : Below wr.heap.size wr w1) : DS w B g a len cap w1 :=
  h.step hB (h.cur.below hb) (grown_belowD hb)
theorem grown_cell {w w1 : World} {g b o : Nat} {v : Value} (h : w.grownBy w1 (some g)) (hne : b ≠ g) (hc : w.cell? ⟨b, o, none⟩ = some v) : w1.cell? ⟨b, o, none⟩ = some v :=
  h.cell hc (by intro e; have := Option.some.inj e; simp at this; omega)
end Go.Proofs.Ytpmmimcafkillaa

namespace Go.Proofs.Ytpmmimcafkillaa
open Go.RowKit
set_option linter.unusedVariables false
set_option linter.unusedSimpArgs false
/-- a task as it lies: the needs as a slice -/
abbrev Tq := Int × Int × Value × Int
def flQ : List Tq → List Value
  | [] => []
  | x :: l => iv x.1 :: iv x.2.1 :: x.2.2.1 :: iv x.2.2.2 :: flQ l
theorem flQ_len (l : List Tq) : (flQ l).length = l.length * 4 := by
  induction l with
  | nil => rfl
  | cons x l ih => simp [flQ, ih]; omega
theorem flQ_append (l m : List Tq) : flQ (l ++ m) = flQ l ++ flQ m := by
  induction l with
  | nil => rfl
  | cons x l ih => simp [flQ, ih]
theorem flQ_get {l : List Tq} {j : Nat} {x : Tq} (h : l[j]? = some x) : (flQ l)[j * 4]? = some (iv x.1) ∧ (flQ l)[j * 4 + 1]? = some (iv x.2.1) ∧ (flQ l)[j * 4 + 2]? = some x.2.2.1 ∧ (flQ l)[j * 4 + 3]? = some (iv x.2.2.2) := by
  induction l generalizing j with
  | nil => simp at h
  | cons y l ih =>
    cases j with
    | zero => simp at h; subst h; simp [flQ]
    | succ j =>
      have := ih (j := j) (by simpa using h)
      rw [show (j + 1) * 4 = j * 4 + 4 by omega]
      simpa [flQ] using this
theorem flQ_set0 {l : List Tq} {k : Nat} {x : Tq} {v : Int} (hk : l[k]? = some x) : (flQ l).set (k * 4) (iv v) = flQ (l.set k (v, x.2)) := by
  induction l generalizing k with
  | nil => simp at hk
  | cons y l ih =>
    cases k with
    | zero => simp at hk; subst hk; simp [flQ]
    | succ k =>
      have := ih (k := k) (by simpa using hk)
      rw [show (k + 1) * 4 = k * 4 + 4 by omega]
      simp [flQ, this]
theorem flQ_set1 {l : List Tq} {k : Nat} {x : Tq} {v : Int} (hk : l[k]? = some x) : (flQ l).set (k * 4 + 1) (iv v) = flQ (l.set k (x.1, v, x.2.2)) := by
  induction l generalizing k with
  | nil => simp at hk
  | cons y l ih =>
    cases k with
    | zero => simp at hk; subst hk; simp [flQ]
    | succ k =>
      have := ih (k := k) (by simpa using hk)
      rw [show (k + 1) * 4 + 1 = k * 4 + 1 + 4 by omega]
      simp [flQ, this]
theorem flQ_set2 {l : List Tq} {k : Nat} {x : Tq} {v : Value} (hk : l[k]? = some x) : (flQ l).set (k * 4 + 2) v = flQ (l.set k (x.1, x.2.1, v, x.2.2.2)) := by
  induction l generalizing k with
  | nil => simp at hk
  | cons y l ih =>
    cases k with
    | zero => simp at hk; subst hk; simp [flQ]
    | succ k =>
      have := ih (k := k) (by simpa using hk)
      rw [show (k + 1) * 4 + 2 = k * 4 + 2 + 4 by omega]
      simp [flQ, this]
theorem flQ_set3 {l : List Tq} {k : Nat} {x : Tq} {v : Int} (hk : l[k]? = some x) : (flQ l).set (k * 4 + 3) (iv v) = flQ (l.set k (x.1, x.2.1, x.2.2.1, v)) := by
  induction l generalizing k with
  | nil => simp at hk
  | cons y l ih =>
    cases k with
    | zero => simp at hk; subst hk; simp [flQ]
    | succ k =>
      have := ih (k := k) (by simpa using hk)
      rw [show (k + 1) * 4 + 3 = k * 4 + 3 + 4 by omega]
      simp [flQ, this]
abbrev OwnQ (w : World) (B G n c : Nat) (vs : List Tq) : Prop := w.ownsRow B 33 4 (.slice (some ⟨G, 0, none⟩) n c) n (flQ vs)
theorem ownQ_len {w : World} {B G n c : Nat} {vs : List Tq} (h : OwnQ w B G n c vs) : vs.length = n := by
  have := h.1
  rw [flQ_len] at this
  omega
theorem ownQ_at {w : World} {B G n c k : Nat} {vs : List Tq} {x : Tq} (h : OwnQ w B G n c vs) (hk : vs[k]? = some x) : w.cell? ⟨G, k * 4, none⟩ = some (iv x.1) ∧ w.cell? ⟨G, k * 4 + 1, none⟩ = some (iv x.2.1) ∧ w.cell? ⟨G, k * 4 + 2, none⟩ = some x.2.2.1 ∧ w.cell? ⟨G, k * 4 + 3, none⟩ = some (iv x.2.2.2) := by
  have hl := ownQ_len h
  have hj := (List.getElem?_eq_some_iff.1 hk).1
  obtain ⟨a0, a1, a2, a3⟩ := flQ_get hk
  exact ⟨(h.cellAt _ (by omega)).trans a0, (h.cellAt _ (by omega)).trans a1, (h.cellAt _ (by omega)).trans a2, (h.cellAt _ (by omega)).trans a3⟩
/-- numbers of one's own, or none yet -/
abbrev OwnV (w : World) (B : Nat) (v : Value) (n : Nat) (L : List Int) : Prop := w.ownsRow B 2 1 v n (L.map iv)
theorem ownV_nil (w : World) (B : Nat) : OwnV w B (.slice none 0 0) 0 [] := ⟨rfl, Or.inl ⟨rfl, rfl⟩⟩
theorem ownV_blk {w : World} {B n k : Nat} {v : Value} {L : List Int} (h : OwnV w B v n L) (hk : v.ownBlock = some k) : B ≤ k ∧ k < w.heap.size ∧ ∃ cur, w.heap[k]? = some (.cells cur 2 (0, 0)) := by
  rcases h.2 with ⟨h1, _⟩ | ⟨g, cap, cur, h1, h2, h3, _⟩
  · subst h1; cases hk
  · subst h1; injection hk with hk; subst hk; exact ⟨h2, (Array.getElem?_eq_some_iff.1 h3).1, cur, h3⟩
theorem ownV_keep {w w1 : World} {B n : Nat} {v : Value} {L : List Int} (h : OwnV w B v n L) (hb : ∀ k, v.ownBlock = some k → w1.heap[k]? = w.heap[k]?) : OwnV w1 B v n L := by
  obtain ⟨h0, h2⟩ := h
  refine ⟨h0, ?_⟩
  rcases h2 with h1 | ⟨g, cap, cur, h1, h2, h3, r⟩
  · exact Or.inl h1
  · subst h1
    exact Or.inr ⟨g, cap, cur, rfl, h2, (hb g rfl).trans h3, r⟩
/-- one more behind a list that may be none yet -/
theorem wpList_iV {ops : Array Oper} {rest : List Oper} {o : Oper} {a : Act} {Q : Exit → Act → World → Prop} (w : World) (hgd : o.guard = none) (s x : Operand) (ho : o.op = .call { callee := .builtin .append, args := #[s, x], argTypes := #[29, 29] })
    (B n : Nat) (u : Value) (L : List Int) (v : Int) (hs : a.eval s = u) (hown : OwnV w B u n L) (hx : a.eval x = .slice (some ⟨w.heap.size, 0, none⟩) 1 1)
    (hl : n ≤ 1000000) (hB : B ≤ w.heap.size)
    (h : ∀ g' cap' w', OwnV w' B (.slice (some ⟨g', 0, none⟩) (n + 1) cap') (n + 1) (L ++ [v]) → w.grownBy w' u.ownBlock → (u.ownBlock = some g' ∨ w.heap.size ≤ g') → wpList Try.prog ops Q rest (a.put o.dst (.slice (some ⟨g', 0, none⟩) (n + 1) cap')) w') : wpList Try.prog ops Q (o :: rest) a (w.alloc (.cells #[.int .i64 v] 2)) := by
  obtain ⟨i0, hi, hz0, hz1, hz2⟩ := info_parts infoI
  have hb : Below w.heap.size w (w.alloc (.cells #[.int .i64 v] 2)) := (Below.refl _ _).alloc (Nat.le_refl _) _
  have hblk : (w.alloc (.cells #[.int .i64 v] 2)).heap[w.heap.size]? = some (.cells #[.int .i64 v] 2 (0, 0)) := heap_alloc_new w _
  have hnews := iv_news hblk
  have hsz := hb.size
  generalize w.alloc (.cells #[.int .i64 v] 2) = W at *
  have hown2 := ownsRow_below hown hb
  refine wpList_append_lies W hgd s x 29 ho B 2 i0 (.int .i64 0) 1 8 Try.underlying29 hi hz0 hz1 hz2 rfl (by decide) _ n (L.map iv) hs hown2 ⟨w.heap.size, 0, none⟩ 1 1 [iv v] hx rfl hnews (by intro u hu; simp at hu; subst hu; rfl) (by decide) (by unfold maxLen; omega) (by omega) (by omega) W.heap.size rfl ?_
  intro g' cap' w' h1 h2 h3 h4
  exact h g' cap' w' (by show World.ownsRow _ _ _ _ _ _ _; rw [List.map_append]; exact h1) (grown_trans (grown_belowD hb) h2) (by rcases h3 with h3 | h3; exact .inl h3; exact .inr (by omega))
theorem Q_news {w : World} {E : Nat} {q : Tq} (hb : w.heap[E]? = some (.cells #[iv q.1, iv q.2.1, q.2.2.1, iv q.2.2.2] 33 (0, 0))) : ∀ j u, [iv q.1, iv q.2.1, q.2.2.1, iv q.2.2.2][j]? = some u → w.cell? ((⟨E, 0, none⟩ : Addr).add j) = some u := by
  have := World.news_of_block hb
  simpa using this
/-- one task more -/
theorem wpList_qG {ops : Array Oper} {rest : List Oper} {o : Oper} {a : Act} {Q : Exit → Act → World → Prop} (w : World) (hgd : o.guard = none) (s x : Operand) (ho : o.op = .call { callee := .builtin .append, args := #[s, x], argTypes := #[24, 24] })
    (B g n cap : Nat) (L : List Tq) (q : Tq) (hq : q.2.2.1.oneCell' = true) (hs : a.eval s = .slice (some ⟨g, 0, none⟩) n cap) (hown : OwnQ w B g n cap L) (hx : a.eval x = .slice (some ⟨w.heap.size, 0, none⟩) 1 1)
    (hl : n ≤ 1000000) (hB : B ≤ w.heap.size)
    (h : ∀ g' cap' w', OwnQ w' B g' (n + 1) cap' (L ++ [q]) → w.grownBy w' (some g) → wpList Try.prog ops Q rest (a.put o.dst (.slice (some ⟨g', 0, none⟩) (n + 1) cap')) w') : wpList Try.prog ops Q (o :: rest) a (w.alloc (.cells #[iv q.1, iv q.2.1, q.2.2.1, iv q.2.2.2] 33)) := by
  obtain ⟨i0, hi, hz0, hz1, hz2⟩ := info_parts infoT
  have hb : Below w.heap.size w (w.alloc (.cells #[iv q.1, iv q.2.1, q.2.2.1, iv q.2.2.2] 33)) := (Below.refl _ _).alloc (Nat.le_refl _) _
  have hblk : (w.alloc (.cells #[iv q.1, iv q.2.1, q.2.2.1, iv q.2.2.2] 33)).heap[w.heap.size]? = some (.cells #[iv q.1, iv q.2.1, q.2.2.1, iv q.2.2.2] 33 (0, 0)) := heap_alloc_new w _
  have hnews := Q_news hblk
  have hsz := hb.size
  generalize w.alloc (.cells #[iv q.1, iv q.2.1, q.2.2.1, iv q.2.2.2] 33) = W at *
  have hown2 := ownsRow_below hown hb
  refine wpList_append_lies W hgd s x 24 ho B 33 i0 (.agg #[.int .i64 0, .int .i64 0, .slice none 0 0, .int .i64 0]) 4 48 Try.underlying24 hi hz0 hz1 hz2 rfl (by decide) _ n (flQ L) hs hown2 ⟨w.heap.size, 0, none⟩ 1 1 [iv q.1, iv q.2.1, q.2.2.1, iv q.2.2.2] hx rfl hnews (by intro u hu; simp at hu; rcases hu with rfl | rfl | rfl | rfl <;> first | rfl | exact hq) (by decide) (by unfold maxLen; omega) (by omega) (by omega) W.heap.size rfl ?_
  intro g' cap' w' h1 h2 h3 h4
  exact h g' cap' w' (by show World.ownsRow _ _ _ _ _ _ _; rw [flQ_append]; exact h1) (grown_trans (grown_belowD hb) h2)
/-- what has been drawn -/
structure JS (M : Nat) (w : World) (B g : Nat) (a : Option Addr) (len cap : Nat) (wr : World) (G n c : Nat) (vs : List Tq) : Prop where
  ds : DS w B g a len cap wr
  row : OwnQ wr w.heap.size G n c vs
  nd : ∀ (j : Nat) (q : Tq), vs[j]? = some q → ∃ m L, OwnV wr w.heap.size q.2.2.1 m L ∧ m ≤ M
  sep : ∀ (i j : Nat) (p q : Tq), vs[i]? = some p → vs[j]? = some q → i ≠ j → ∀ k, p.2.2.1.ownBlock = some k → q.2.2.1.ownBlock ≠ some k
section
variable {w wr w1 : World} {M B g len cap G n c : Nat} {a : Option Addr} {vs : List Tq}
/-- if only blocks change that are neither the row nor needs -/
theorem JS.keep (h : JS M w B g a len cap wr G n c vs) (hd : DS w B g a len cap w1) (hG : w1.heap[G]? = wr.heap[G]?) (hn : ∀ k cur, w.heap.size ≤ k → wr.heap[k]? = some (.cells cur 2 (0, 0)) → (∃ (j : Nat) (q : Tq), vs[j]? = some q ∧ q.2.2.1.ownBlock = some k) → w1.heap[k]? = wr.heap[k]?) : JS M w B g a len cap w1 G n c vs := by
  refine ⟨hd, ?_, fun j q hq => ?_, h.sep⟩
  · obtain ⟨h1, h2⟩ := h.row
    refine ⟨h1, ?_⟩
    rcases h2 with h2 | ⟨g', cap', cur, hv, hB, hh, r⟩
    · exact Or.inl h2
    · refine Or.inr ⟨g', cap', cur, hv, hB, ?_, r⟩
      injection hv with e1
      injection e1 with e1
      injection e1 with e1
      subst e1
      exact hG.trans hh
  · obtain ⟨m, L, h1, h2⟩ := h.nd j q hq
    refine ⟨m, L, ownV_keep h1 (fun k hk => ?_), h2⟩
    obtain ⟨b1, b2, cur, b3⟩ := ownV_blk h1 hk
    exact hn k cur b1 b3 ⟨j, q, hq, hk⟩
theorem JS.G_lt (h : JS M w B g a len cap wr G n c vs) : w.heap.size ≤ G ∧ G < wr.heap.size := ⟨own_ge h.row, own_lt h.row⟩
theorem JS.call (h : JS M w B g a len cap wr G n c vs) (hB : B ≤ g) (hg : g < w.heap.size) (hc : CurAt w1 g a len cap) (hgr : wr.grownBy w1 (some g)) : JS M w B g a len cap w1 G n c vs :=
  h.keep (h.ds.step hB hc hgr) (hgr.block G h.G_lt.2 (by intro e; injection e with e; have := h.G_lt.1; omega)) fun k cur h1 h2 _ => hgr.block k (Array.getElem?_eq_some_iff.1 h2).1 (by intro e; injection e with e; omega)
theorem JS.later (h : JS M w B g a len cap wr G n c vs) (hB : B ≤ g) (hb : Below wr.heap.size wr w1) : JS M w B g a len cap w1 G n c vs :=
  h.keep (h.ds.later hB hb) (hb.block G h.G_lt.2) fun k cur h1 h2 _ => hb.block k (Array.getElem?_eq_some_iff.1 h2).1
theorem ds_own (h : DS w B g a len cap wr) (hBg : B ≤ g) (hg : g < w.heap.size) {x : Nat} (hx : w.heap.size ≤ x) (hgr : wr.grownBy w1 (some x)) : DS w B g a len cap w1 := by
  have hs := h.gr.size
  refine ⟨h.cur.other (hgr.block g (by omega) (by intro e; injection e with e; omega)), ?_, ⟨hgr.os.trans h.gr.os, hgr.tape.trans h.gr.tape, hgr.output.trans h.gr.output, Nat.le_trans hs hgr.size, fun k hk hne => (hgr.block k (by omega) (by intro e; injection e with e; omega)).trans (h.gr.block k hk hne)⟩⟩
  intro j hj
  obtain ⟨b, o, z, e, hb, hc, h0, h1⟩ := h.rd j hj
  have hbl := World.block_lt_of_cell? _ _ hc
  exact ⟨b, o, z, e, hb, (World.cell?_of_block (a := ⟨b, o + j, none⟩) (hgr.block b hbl (by intro e2; injection e2 with e2; omega))).trans hc, h0, h1⟩
theorem grown_set0 (w : World) (b i : Nat) (v : Value) : w.grownBy (w.setCell ⟨b, i, none⟩ v) (some b) := grown_set (grown_refl w _)
/-- a cell of the row is written that is no slice -/
theorem JS.setc (h : JS M w B g a len cap wr G n c vs) (hBg : B ≤ g) (hg : g < w.heap.size) {i : Nat} {u : Value} {vs' : List Tq} (ho : OwnQ (wr.setCell ⟨G, i, none⟩ u) w.heap.size G n c vs') (hs : ∀ (j : Nat) (q : Tq), vs'[j]? = some q → ∃ q', vs[j]? = some q' ∧ q'.2.2.1 = q.2.2.1) : JS M w B g a len cap (wr.setCell ⟨G, i, none⟩ u) G n c vs' := by
  refine ⟨ds_own h.ds hBg hg h.G_lt.1 (grown_set0 wr G i u), ho, fun j q hq => ?_, fun i j p q hp hq hij k hk => ?_⟩
  · obtain ⟨q', h1, h2⟩ := hs j q hq
    obtain ⟨m, L, h3, h4⟩ := h.nd j q' h1
    rw [h2] at h3
    refine ⟨m, L, ownV_keep h3 (fun k hk => ?_), h4⟩
    obtain ⟨b1, b2, cur, b3⟩ := ownV_blk h3 hk
    have hne : k ≠ G := by
      intro e
      subst e
      rcases h.row.2 with ⟨e, _⟩ | ⟨g', cap', cur', e, _, hh, _⟩
      · cases e
      · injection e with e1
        injection e1 with e1
        injection e1 with e1
        subst e1
        rw [hh] at b3
        injection b3 with b3
        injection b3 with _ b3
        exact absurd b3 (by decide)
    rw [heap_set_ne hne]
  · obtain ⟨p', p1, p2⟩ := hs i p hp
    obtain ⟨q', q1, q2⟩ := hs j q hq
    rw [← p2] at hk
    rw [← q2]
    exact h.sep i j p' q' p1 q1 hij k hk
theorem set_pres {k : Nat} {x y : Tq} (hk : vs[k]? = some x) (hy : y.2.2.1 = x.2.2.1) : ∀ (j : Nat) (q : Tq), (vs.set k y)[j]? = some q → ∃ q', vs[j]? = some q' ∧ q'.2.2.1 = q.2.2.1 := by
  intro j q hq
  by_cases e : k = j
  · subst e
    have hl := (List.getElem?_eq_some_iff.1 hk).1
    simp [hl] at hq
    subst hq
    exact ⟨x, hk, hy.symm⟩
  · rw [List.getElem?_set_ne e] at hq
    exact ⟨q, hq, rfl⟩
theorem JS.set0 (h : JS M w B g a len cap wr G n c vs) (hBg : B ≤ g) (hg : g < w.heap.size) {k : Nat} {x : Tq} (hk : vs[k]? = some x) (v : Int) : ∃ vs', JS M w B g a len cap (wr.setCell ⟨G, k * 4, none⟩ (iv v)) G n c vs' :=
  ⟨_, h.setc hBg hg (by have h3 := (h.row.stored (k * 4) (iv v)).1; rw [flQ_set0 hk] at h3; exact h3) (set_pres (y := (v, x.2)) hk rfl)⟩
theorem JS.set1 (h : JS M w B g a len cap wr G n c vs) (hBg : B ≤ g) (hg : g < w.heap.size) {k : Nat} {x : Tq} (hk : vs[k]? = some x) (v : Int) : ∃ vs', JS M w B g a len cap (wr.setCell ⟨G, k * 4 + 1, none⟩ (iv v)) G n c vs' :=
  ⟨_, h.setc hBg hg (by have h3 := (h.row.stored (k * 4 + 1) (iv v)).1; rw [flQ_set1 hk] at h3; exact h3) (set_pres (y := (x.1, v, x.2.2)) hk rfl)⟩
theorem JS.set3 (h : JS M w B g a len cap wr G n c vs) (hBg : B ≤ g) (hg : g < w.heap.size) {k : Nat} {x : Tq} (hk : vs[k]? = some x) (v : Int) : ∃ vs', JS M w B g a len cap (wr.setCell ⟨G, k * 4 + 3, none⟩ (iv v)) G n c vs' :=
  ⟨_, h.setc hBg hg (by have h3 := (h.row.stored (k * 4 + 3) (iv v)).1; rw [flQ_set3 hk] at h3; exact h3) (set_pres (y := (x.1, x.2.1, x.2.2.1, v)) hk rfl)⟩
theorem ne_GT (h : JS M w B g a len cap wr G n c vs) {B' m : Nat} {v : Value} {L : List Int} (hv : OwnV wr B' v m L) : ∀ k, v.ownBlock = some k → k ≠ G := by
  intro k hk e
  subst e
  obtain ⟨b1, b2, cur, b3⟩ := ownV_blk hv hk
  rcases h.row.2 with ⟨e, _⟩ | ⟨g', cap', cur', e, _, hh, _⟩
  · cases e
  · injection e with e1
    injection e1 with e1
    injection e1 with e1
    subst e1
    rw [hh] at b3
    injection b3 with b3
    injection b3 with _ b3
    exact absurd b3 (by decide)
/-- one task more: its needs lie apart from all others -/
theorem JS.app (h : JS M w B g a len cap wr G n c vs) (hBg : B ≤ g) (hg : g < w.heap.size) {q : Tq} {m : Nat} {L : List Int} {G' c' : Nat} (hq : OwnV wr w.heap.size q.2.2.1 m L) (hm : m ≤ M) (hs : ∀ (j : Nat) (p : Tq), vs[j]? = some p → ∀ k, p.2.2.1.ownBlock = some k → q.2.2.1.ownBlock ≠ some k) (ho : OwnQ w1 w.heap.size G' (n + 1) c' (vs ++ [q])) (hgr : wr.grownBy w1 (some G)) : JS M w B g a len cap w1 G' (n + 1) c' (vs ++ [q]) := by
  have keep : ∀ {v : Value} {m : Nat} {L : List Int}, OwnV wr w.heap.size v m L → OwnV w1 w.heap.size v m L := fun hv => ownV_keep hv fun k hk => hgr.block k (ownV_blk hv hk).2.1 (by intro e; injection e with e; exact ne_GT h hv k hk e)
  have hcase : ∀ {j : Nat} {p : Tq}, (vs ++ [q])[j]? = some p → (vs[j]? = some p ∧ j < vs.length) ∨ (p = q ∧ j = vs.length) := by
    intro j p hp
    have hj := (List.getElem?_eq_some_iff.1 hp).1
    simp at hj
    by_cases e : j < vs.length
    · rw [List.getElem?_append_left e] at hp; exact .inl ⟨hp, e⟩
    · obtain rfl : j = vs.length := by omega
      simp at hp
      exact .inr ⟨hp.symm, rfl⟩
  refine ⟨ds_own h.ds hBg hg h.G_lt.1 hgr, ho, fun j p hp => ?_, fun i j p r hp hr hij k hk => ?_⟩
  · rcases hcase hp with ⟨hp, _⟩ | ⟨rfl, _⟩
    · obtain ⟨m', L', h1, h2⟩ := h.nd j p hp
      exact ⟨m', L', keep h1, h2⟩
    · exact ⟨m, L, keep hq, hm⟩
  · rcases hcase hp with ⟨p1, p2⟩ | ⟨p1, p2⟩ <;> rcases hcase hr with ⟨r1, r2⟩ | ⟨r1, r2⟩
    · exact h.sep i j p r p1 r1 hij k hk
    · rw [r1]; exact hs i p p1 k hk
    · rw [p1] at hk; exact fun e => hs j r r1 k e hk
    · omega
/-- the needs of one task grow -/
theorem JS.weak {N : Nat} (h : JS M w B g a len cap wr G n c vs) (hN : M ≤ N) : JS N w B g a len cap wr G n c vs := ⟨h.ds, h.row, fun j q hq => let ⟨m, L, h1, h2⟩ := h.nd j q hq; ⟨m, L, h1, Nat.le_trans h2 hN⟩, h.sep⟩
theorem JS.setN (h : JS M w B g a len cap wr G n c vs) (hBg : B ≤ g) (hg : g < w.heap.size) {N k m G' c' : Nat} {x : Tq} {L : List Int} (hk : vs[k]? = some x) (hN : M ≤ N) (hm : m ≤ N) (ho : OwnV w1 w.heap.size (.slice (some ⟨G', 0, none⟩) m c') m L) (hgr : wr.grownBy w1 x.2.2.1.ownBlock) (hat : x.2.2.1.ownBlock = some G' ∨ wr.heap.size ≤ G') : ∃ vs', JS N w B g a len cap (w1.setCell ⟨G, k * 4 + 2, none⟩ (.slice (some ⟨G', 0, none⟩) m c')) G n c vs' := by
  obtain ⟨m0, L0, hx, _⟩ := h.nd k x hk
  have hGl := h.G_lt
  have hGb : w1.heap[G]? = wr.heap[G]? := hgr.block G hGl.2 fun e => ne_GT h hx G e.symm rfl
  have hdd : DS w B g a len cap w1 := by
    cases hb : x.2.2.1.ownBlock with
    | none =>
      rw [hb] at hgr
      exact ds_own h.ds hBg hg (Nat.le_refl _) ⟨hgr.os, hgr.tape, hgr.output, hgr.size, fun j hj _ => hgr.block j hj (by simp)⟩
    | some y =>
      rw [hb] at hgr
      exact ds_own h.ds hBg hg (ownV_blk hx hb).1 hgr
  have hsep : ∀ (j : Nat) (p : Tq), vs[j]? = some p → k ≠ j → ∀ b, p.2.2.1.ownBlock = some b → b ≠ G' := by
    intro j p hp hkj b hb e
    subst e
    rcases hat with e1 | e1
    · exact h.sep k j x p hk hp hkj b e1 hb
    · obtain ⟨_, _, h3, _⟩ := h.nd j p hp
      have := (ownV_blk h3 hb).2.1
      omega
  have row1 : OwnQ w1 w.heap.size G n c vs := by
    obtain ⟨h1, h2⟩ := h.row
    refine ⟨h1, ?_⟩
    rcases h2 with h2 | ⟨g', cap', cur, hv, hB, hh, r⟩
    · exact Or.inl h2
    · refine Or.inr ⟨g', cap', cur, hv, hB, ?_, r⟩
      injection hv with e1
      injection e1 with e1
      injection e1 with e1
      subst e1
      exact hGb.trans hh
  have hG' : G' ≠ G := by
    intro e
    subst e
    obtain ⟨_, _, cur, b3⟩ := ownV_blk ho rfl
    rcases row1.2 with ⟨e, _⟩ | ⟨g', cap', cur', e, _, hh, _⟩
    · cases e
    · injection e with e1
      injection e1 with e1
      injection e1 with e1
      subst e1
      rw [hh] at b3
      injection b3 with b3
      injection b3 with _ b3
      exact absurd b3 (by decide)
  refine ⟨vs.set k (x.1, x.2.1, .slice (some ⟨G', 0, none⟩) m c', x.2.2.2), ds_own hdd hBg hg hGl.1 (grown_set0 w1 G _ _), ?_, fun j q hq => ?_, fun i j p q hp hq hij b hb => ?_⟩
  · have h3 := (row1.stored (k * 4 + 2) (.slice (some ⟨G', 0, none⟩) m c')).1
    rw [flQ_set2 hk] at h3
    exact h3
  · by_cases e : k = j
    · subst e
      have hl := (List.getElem?_eq_some_iff.1 hk).1
      simp [hl] at hq
      subst hq
      exact ⟨m, L, ownV_keep ho (fun b hb => heap_set_ne (by have hb' : some G' = some b := hb; injection hb' with hb'; omega)), hm⟩
    · rw [List.getElem?_set_ne e] at hq
      obtain ⟨m', L', h1, h2⟩ := h.nd j q hq
      refine ⟨m', L', ownV_keep h1 (fun b hb => ?_), by omega⟩
      rw [heap_set_ne (ne_GT h h1 b hb)]
      exact hgr.block b (ownV_blk h1 hb).2.1 fun e2 => h.sep k j x q hk hq e b e2.symm hb
  · have hl := (List.getElem?_eq_some_iff.1 hk).1
    by_cases ei : k = i
    · subst ei
      simp [hl] at hp
      subst hp
      rw [List.getElem?_set_ne hij] at hq
      injection hb with hb
      subst hb
      exact fun e => hsep j q hq hij _ e rfl
    · rw [List.getElem?_set_ne ei] at hp
      by_cases ej : k = j
      · subst ej
        simp [hl] at hq
        subst hq
        intro e
        injection e with e
        subst e
        exact hsep i p hp ei _ hb rfl
      · rw [List.getElem?_set_ne ej] at hq
        exact h.sep i j p q hp hq hij b hb
/-- as the contracts read it -/
theorem JS.tks (h : JS M w B g a len cap wr G n c vs) (hM : M ≤ 250) : ∃ ts : List Tv, ts.length = n ∧ Tks wr (some ⟨G, 0, none⟩) ts := by
  have hl := ownQ_len h.row
  obtain ⟨f, hf⟩ := Go.Deep.choose_lt (n := n) (p := fun j (L : List Int) => ∀ q, vs[j]? = some q → OwnV wr w.heap.size q.2.2.1 L.length L ∧ L.length ≤ 250) (fun j hj => by
    obtain ⟨m, L, h1, h2⟩ := h.nd j vs[j] (List.getElem?_eq_getElem (by omega))
    have e : L.length = m := by have := h1.1; simpa using this
    refine ⟨L, fun q hq => ?_⟩
    rw [List.getElem?_eq_getElem (by omega)] at hq
    injection hq with hq
    subst hq
    rw [e]
    exact ⟨h1, Nat.le_trans h2 hM⟩)
  refine ⟨(List.range n).map fun j => ((vs.getD j (0, 0, .slice none 0 0, 0)).1, (vs.getD j (0, 0, .slice none 0 0, 0)).2.1, f j, (vs.getD j (0, 0, .slice none 0 0, 0)).2.2.2), by simp, fun j t ht => ?_⟩
  have hj : j < n := by have := (List.getElem?_eq_some_iff.1 ht).1; simpa using this
  rw [List.getElem?_map, List.getElem?_range hj] at ht
  simp at ht
  subst ht
  have hq : vs[j]? = some vs[j] := List.getElem?_eq_getElem (by omega)
  obtain ⟨c0, c1, c2, c3⟩ := ownQ_at h.row hq
  obtain ⟨h1, h2⟩ := hf j hj _ hq
  have e1 : vs.getD j (0, 0, .slice none 0 0, 0) = vs[j] := by rw [List.getD_eq_getElem?_getD, hq]; rfl
  have hsh : ∃ p cc, vs[j].2.2.1 = .slice p (f j).length cc ∧ Ins wr p (f j) := by
    rcases h1.2 with ⟨e, hz⟩ | ⟨g', cap', cur, e, _, hh, q1, q2, q3, q4⟩
    · have hz' : (f j).length = 0 := hz
      have : f j = [] := List.eq_nil_of_length_eq_zero hz'
      rw [this]
      exact ⟨none, 0, e, Ins.nil⟩
    · refine ⟨some ⟨g', 0, none⟩, cap', e, ?_⟩
      rw [e] at h1
      exact ins_own h1
  obtain ⟨p, cc, e2, hI⟩ := hsh
  refine ⟨G, 0, p, cc, rfl, h.G_lt.2, ?_, ?_, ?_, ?_, hI, by show (f j).length ≤ maxLen; unfold maxLen; omega⟩ <;> rw [Nat.zero_add]
  · simpa [hq] using c0
  · simpa [hq] using c1
  · rw [c2, e2]
  · simpa [hq] using c3
end
end Go.Proofs.Ytpmmimcafkillaa
