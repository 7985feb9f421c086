/-
  Contracts of how many blocks there are, and of a block's pixels, moved, to the model; nothing that was there is written.
-/
import Derived.Test.YtdppnjafkbopiaaMo1
import Derived.Test.YtdppnjafkbopiaaTnP
namespace Go.Proofs.Ytdppnjafkbopiaa
open Go.RowKit
set_option linter.unusedVariables false
set_option linter.unusedSimpArgs false

set_option maxHeartbeats 800000 in
theorem iblocks_any (W H : Int) (a : Option Addr) (len cap : Nat) (w : World) (hW : Side4 W) (hH : Side4 H) :
    Calls Try.prog 14 #[pcv W H a len cap] w fun e w' => e = .returned (.int .i64 (nBl W H)) ∧ Below w.heap.size w w' := by
  have hm := mul4 hW hH
  obtain ⟨N, hN⟩ : ∃ N, nBl W H = N := ⟨_, rfl⟩
  obtain ⟨M, hM⟩ : ∃ M, W * H = M := ⟨_, rfl⟩
  have hd : M / 16 = N := by rw [← hM, ← hN]; exact (nBl_eq hW hH).1
  rw [hM] at hm
  rw [hN]
  obtain ⟨m0, m1⟩ := hm
  have hMw : IntKind.i64.wrap (W * H) = M := by rw [IntKind.wrap_i64, hM]; omega
  have s1 := side4_bd hW
  have s2 := side4_bd hH
  clear hM hN hW hH
  go_enter Try.func14, Try.ntmps14
  go_wp2
  go_ret
  exact ⟨ret_int hd, (Below.refl _ _).alloc (Nat.le_refl _) _⟩
set_option maxHeartbeats 800000 in
theorem sblocks_any (W H : Int) (a : Option Addr) (len cap : Nat) (w : World) (hW : Side4 W) (hH : Side4 H) :
    Calls Try.prog 17 #[pcv W H a len cap] w fun e w' => e = .returned (.int .i64 (nBl W H)) ∧ Below w.heap.size w w' := by
  have hn := (nBl_eq hW hH).2
  unfold nBl at *
  obtain ⟨hn0, hn1⟩ := hn
  have hMw : IntKind.i64.wrap (W / 4 * (H / 4)) = W / 4 * (H / 4) := by rw [IntKind.wrap_i64]; omega
  have s1 := side4_bd hW
  have s2 := side4_bd hH
  obtain ⟨s11, s12⟩ := s1
  obtain ⟨s21, s22⟩ := s2
  clear hW hH
  go_enter Try.func17, Try.ntmps17
  go_wp2
  go_ret
  exact ⟨rfl, (Below.refl _ _).alloc (Nat.le_refl _) _⟩
theorem fl_snoc (f : Nat → Int) (n : Nat) : fl f n ++ [f n] = fl f (n + 1) := by
  unfold fl; rw [List.range_succ]; simp
theorem keep3 {w w0 w1 : World} {a1 a2 a3 : Addr} {v1 v2 v3 : Value}
    (h : w0.cell? a1 = some v1 ∧ w0.cell? a2 = some v2 ∧ w0.cell? a3 = some v3 ∧ Below w.heap.size w w0) (hb : Below w0.heap.size w0 w1) :
    w1.cell? a1 = some v1 ∧ w1.cell? a2 = some v2 ∧ w1.cell? a3 = some v3 ∧ Below w.heap.size w w1 := by
  obtain ⟨h1, h2, h3, h7⟩ := h
  exact ⟨cell_later hb h1, cell_later hb h2, cell_later hb h3, laterB h7 hb⟩
theorem keep3d {w w0 : World} {a1 a2 a3 : Addr} {v1 v2 v3 : Value}
    (h : w0.cell? a1 = some v1 ∧ w0.cell? a2 = some v2 ∧ w0.cell? a3 = some v3 ∧ Below w.heap.size w w0) :
    w0.drew.cell? a1 = some v1 ∧ w0.drew.cell? a2 = some v2 ∧ w0.drew.cell? a3 = some v3 ∧ Below w.heap.size w w0.drew := by
  obtain ⟨h1, h2, h3, h7⟩ := h
  exact ⟨h1, h2, h3, h7.drew⟩
theorem keep3b {W w0 w1 : World} {b o1 o2 o3 : Nat} {v1 v2 v3 : Value}
    (h : w0.cell? ⟨b, o1, none⟩ = some v1 ∧ w0.cell? ⟨b, o2, none⟩ = some v2 ∧ w0.cell? ⟨b, o3, none⟩ = some v3 ∧ Below W.heap.size W w0) (hb : Below W.heap.size w0 w1) (hW : b < W.heap.size) :
    w1.cell? ⟨b, o1, none⟩ = some v1 ∧ w1.cell? ⟨b, o2, none⟩ = some v2 ∧ w1.cell? ⟨b, o3, none⟩ = some v3 ∧ Below W.heap.size W w1 := by
  obtain ⟨h1, h2, h3, h7⟩ := h
  exact ⟨(hb.cell (p := ⟨b, o1, none⟩) hW).trans h1, (hb.cell (p := ⟨b, o2, none⟩) hW).trans h2, (hb.cell (p := ⟨b, o3, none⟩) hW).trans h3, h7.trans hb⟩
/-- the pixel at place x of row y of the block -/
theorem blk_at (W H : Int) (l : List Int) (n dx dy : Int) (x y : Nat) (hx : x < 4) : blk W H l n dx dy (4 * y + x) = pxA W H l (n % (W / 4) * 4 + x + dx) (n / (W / 4) * 4 + y + dy) := by
  unfold blk
  have e1 : (4 * y + x) % 4 = x := by omega
  have e2 : (4 * y + x) / 4 = y := by omega
  rw [e1, e2]


end Go.Proofs.Ytdppnjafkbopiaa
