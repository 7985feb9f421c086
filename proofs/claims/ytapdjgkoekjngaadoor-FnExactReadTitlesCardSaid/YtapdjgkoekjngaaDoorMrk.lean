/-
  How the law writes marks into a list of titles, and looks for them again: the contracts.
-/
import Derived.Test.YtapdjgkoekjngaaDoorCopyL
import Derived.Test.YtapdjgkoekjngaaDoorSText
namespace Go.Proofs.YtapdjgkoekjngaaDoor
open Go.RowKit
set_option linter.unusedVariables false
set_option linter.unusedSimpArgs false

/-- the mark in cell j -/
def mkv (q : Int) (j : Nat) : Value := if j % 3 = 2 then sv (mkT (q + j)) else iv (q + j)
/-- the first i cells bear the marks from q on -/
def Mks (q : Int) (i : Nat) (xs : List Value) : Prop := ∀ j, j < i → xs[j]? = some (mkv q j)
theorem Mks.set {q : Int} {i : Nat} {xs : List Value} (h : Mks q i xs) (hi : i < xs.length) : Mks q (i + 1) (xs.set i (mkv q i)) := by
  intro j hj
  by_cases e : j = i
  · subst e; simp [hi]
  · rw [List.getElem?_set_ne (by omega)]; exact h j (by omega)
theorem mkv0 (q : Int) (k : Nat) : mkv q (k * 3) = iv (q + k * 3) := by unfold mkv; rw [if_neg (by omega)]; congr 1
theorem mkv1 (q : Int) (k : Nat) : mkv q (k * 3 + 1) = iv (q + k * 3 + 1) := by
  unfold mkv; rw [if_neg (by omega)]
  have : q + ((k * 3 + 1 : Nat) : Int) = q + k * 3 + 1 := by omega
  rw [this]
theorem mkv2 (q : Int) (k : Nat) : mkv q (k * 3 + 2) = sv (mkT (q + k * 3 + 2)) := by
  unfold mkv; rw [if_pos (by omega)]
  have : q + ((k * 3 + 2 : Nat) : Int) = q + k * 3 + 2 := by omega
  rw [this]
theorem mark_n {wr w1 : World} {B g n cap k : Nat} {q : Int} {ys : List Value} (hlt : k < n) (hy : wr.ownsRow B 52 3 (.slice (some ⟨g, 0, none⟩) n cap) n ys) (hm : Mks q (k * 3) ys)
    (hb : Below ((wr.setCell ⟨g, k * 3, none⟩ (.int .i64 (q + k * 3))).setCell ⟨g, k * 3 + 1, none⟩ (.int .i64 (q + k * 3 + 1))).heap.size ((wr.setCell ⟨g, k * 3, none⟩ (.int .i64 (q + k * 3))).setCell ⟨g, k * 3 + 1, none⟩ (.int .i64 (q + k * 3 + 1))) w1) :
    ∃ ys, (w1.setCell ⟨g, k * 3 + 2, none⟩ (.string (mkT (q + k * 3 + 2)))).ownsRow B 52 3 (.slice (some ⟨g, 0, none⟩) n cap) n ys ∧ Mks q ((k + 1) * 3) ys := by
  have hl : ys.length = n * 3 := hy.1
  have h0 := (hy.stored (k * 3) (mkv q (k * 3))).1
  have m0 := hm.set (by omega)
  have h1 := (h0.stored (k * 3 + 1) (mkv q (k * 3 + 1))).1
  have m1 := m0.set (by rw [List.length_set]; omega)
  rw [mkv0, mkv1] at h1
  have h1' := ownsRow_below h1 hb
  rw [← mkv0, ← mkv1] at h1'
  have h2 := (h1'.stored (k * 3 + 2) (mkv q (k * 3 + 2))).1
  have m2 := m1.set (by rw [List.length_set, List.length_set]; omega)
  have z5 : (k + 1) * 3 = k * 3 + 1 + 1 + 1 := by omega
  rw [mkv2] at h2
  rw [z5]
  refine ⟨_, h2, ?_⟩
  rw [← mkv2]; exact m2
theorem grown_below {w w1 w2 : World} {g : Option Nat} (h : w.grownBy w1 g) (hb : Below w1.heap.size w1 w2) : w.grownBy w2 g :=
  grown_trans h ⟨hb.os, hb.tape, hb.output, hb.size, fun j hj _ => hb.block j hj⟩

set_option maxHeartbeats 1600000 in
theorem markk_any (B g n cap : Nat) (q : Int) (xs : List Value) (w : World) (hn : n ≤ 10000000) (q0 : 0 ≤ q) (q1 : q ≤ 100000000) (h : w.ownsRow B 52 3 (.slice (some ⟨g, 0, none⟩) n cap) n xs) :
    Calls Tryd.prog 17 #[.slice (some ⟨g, 0, none⟩) n cap, .int .i64 q] w fun e w' => e = .returned (.int .i64 (q + n * 3)) ∧ (∃ ys, w'.ownsRow B 52 3 (.slice (some ⟨g, 0, none⟩) n cap) n ys ∧ Mks q (n * 3) ys) ∧ w.grownBy w' (some g) := by
  have h' := hide h
  clear h
  go_enter Tryd.func17, Tryd.ntmps17
  go_wp2
  go_loopw [1, 5] (fun s t wr => ∃ k : Nat, k ≤ n ∧ t = .int .i64 k ∧ s = .int .i64 (q + k * 3) ∧ Hid (∃ ys, wr.ownsRow B 52 3 (.slice (some ⟨g, 0, none⟩) n cap) n ys ∧ Mks q (k * 3) ys) ∧ Hid (w.grownBy wr (some g))) (fun _ t _ => n - (intOf t).toNat)
  case atStart => exact ⟨0, by omega, rfl, by simp, hide ⟨xs, unhide h', fun j hj => by omega⟩, hide (grown_refl _ _)⟩
  case round =>
    obtain ⟨k, hk, rfl, rfl, hown, hg⟩ := hrel
    by_cases hlt : k < n
    · obtain ⟨ys, hy, hm⟩ := unhide hown
      obtain ⟨v0, c0, f0, _, hl0⟩ := own_at (i := k * 3) hy (by omega)
      obtain ⟨v1, c1, f1, _, hl1⟩ := own_at (i := k * 3 + 1) hy (by omega)
      have hnew := fun w1 hb => hide (mark_n (w1 := w1) hlt hy hm hb)
      have hnew' := hide hnew
      have hG := hide (grown_set (v := .int .i64 (q + k * 3 + 1)) (i := k * 3 + 1) (grown_set (v := .int .i64 (q + k * 3)) (i := k * 3) (unhide hg)))
      have hO := hide (show ∃ zs, ((wr.setCell ⟨g, k * 3, none⟩ (.int .i64 (q + k * 3))).setCell ⟨g, k * 3 + 1, none⟩ (.int .i64 (q + k * 3 + 1))).ownsRow B 52 3 (.slice (some ⟨g, 0, none⟩) n cap) n zs from ⟨_, ((hy.stored (k * 3) (.int .i64 (q + k * 3))).1.stored (k * 3 + 1) (.int .i64 (q + k * 3 + 1))).1⟩)
      clear hown hy hm hl0 hl1 hg hnew
      go_wp2_with fail
      generalize (wr.setCell ⟨g, k * 3, none⟩ (.int .i64 (q + k * 3))).setCell ⟨g, k * 3 + 1, none⟩ (.int .i64 (q + k * 3 + 1)) = X at *
      first | (rw [show q + (k : Int) * 3 + 1 + 1 = q + k * 3 + 2 by omega]) | skip
      refine (mtext_any (q + k * 3 + 2) _ (by omega) (by omega)).mono ?_
      rintro e w1 ⟨rfl, k1⟩
      have hnw := unhide hnew' w1 k1
      obtain ⟨zs, hz⟩ := unhide hO
      have hz1 := ownsRow_below hz k1
      obtain ⟨v2, c2, f2, _, hl2⟩ := own_at (i := k * 3 + 2) hz1 (by omega)
      have hG2 := hide (grown_set (v := .string (mkT (q + k * 3 + 2))) (i := k * 3 + 2) (grown_below (unhide hG) k1))
      clear hz hz1 hl2 k1 hnew' hO c0 f0 c1 f1
      go_wp2
      go_roundw
      case rel => exact ⟨k + 1, by omega, by go_num, by go_num, hnw, hG2⟩
      case measure => simp [intOf]; omega
    · have hke : k = n := by omega
      have hf : Hid (∃ ys, wr.ownsRow B 52 3 (.slice (some ⟨g, 0, none⟩) n cap) n ys ∧ Mks q (n * 3) ys) := hide (by have := unhide hown; rw [hke] at this; exact this)
      clear hown
      go_wp2
      go_ret
      exact ⟨ret_int (by omega), unhide hf, unhide hg⟩

theorem keep1 {w w0 w1 : World} {a : Addr} {v : Value} (h : w0.cell? a = some v ∧ Below w.heap.size w w0) (hb : Below w0.heap.size w0 w1) : w1.cell? a = some v ∧ Below w.heap.size w w1 := ⟨cell_later hb h.1, laterB h.2 hb⟩
theorem keep1d {w w0 : World} {a : Addr} {v : Value} (h : w0.cell? a = some v ∧ Below w.heap.size w w0) : w0.drew.cell? a = some v ∧ Below w.heap.size w w0.drew := ⟨h.1, h.2.drew⟩
set_option maxHeartbeats 1600000 in
theorem heldk_any (B g n cap : Nat) (q : Int) (xs : List Value) (w : World) (hn : n ≤ 10000000) (q0 : 0 ≤ q) (q1 : q ≤ 100000000) (h : w.ownsRow B 52 3 (.slice (some ⟨g, 0, none⟩) n cap) n xs) (hm : Mks q (n * 3) xs) :
    Calls Tryd.prog 25 #[.slice (some ⟨g, 0, none⟩) n cap, .int .i64 q] w fun e w' => e = .returned (.int .i64 (q + n * 3)) ∧ Below w.heap.size w w' := by
  have h' := hide h
  have hm' := hide hm
  clear h hm
  go_enter Tryd.func25, Tryd.ntmps25
  go_wp2
  go_loopw [1, 5] (fun s t wr => ∃ k : Nat, k ≤ n ∧ t = .int .i64 k ∧ s = .int .i64 (q + k * 3) ∧ Hid (Below w.heap.size w wr)) (fun _ t _ => n - (intOf t).toNat)
  case atStart => exact ⟨0, by omega, rfl, by simp, hide (Below.refl _ _)⟩
  case round =>
    obtain ⟨k, hk, rfl, rfl, hb⟩ := hrel
    by_cases hlt : k < n
    · have hy := ownsRow_below (unhide h') (unhide hb)
      obtain ⟨v0, c0, f0, hv0, hl0⟩ := own_at (i := k * 3) hy (by omega)
      rw [unhide hm' (k * 3) (by omega), mkv0] at hv0
      cases hv0
      obtain ⟨v1, c1, f1, hv1, hl1⟩ := own_at (i := k * 3 + 1) hy (by omega)
      rw [unhide hm' (k * 3 + 1) (by omega), mkv1] at hv1
      cases hv1
      obtain ⟨v2, c2, f2, hv2, hl2⟩ := own_at (i := k * 3 + 2) hy (by omega)
      rw [unhide hm' (k * 3 + 2) (by omega), mkv2] at hv2
      cases hv2
      have s0 : ((q + k * 3) != (q + k * 3)) = false := by simp
      have s1 : ((q + k * 3 + 1) != (q + k * 3 + 1)) = false := by simp
      have hall := hide (show wr.cell? ⟨g, k * 3 + 2, none⟩ = some (.string (mkT (q + k * 3 + 2))) ∧ Below w.heap.size w wr from ⟨c2, unhide hb⟩)
      have hmt := hide (fun w => mtext_any (q + k * 3 + 2) w (by omega) (by omega))
      have e2 : q + (k : Int) * 3 + 1 + 1 = q + k * 3 + 2 := by omega
      generalize mkT (q + k * 3 + 2) = M at *
      clear hy f0 f1 f2 hl0 hl1 hl2 hb
      go_wp2_with fail
      try rw [e2]
      go_region_held3 (fun w' => w'.cell? ⟨g, k * 3 + 2, none⟩ = some (.string M) ∧ Below w.heap.size w w')
        (first | (refine keep1 ?_ hb; assumption) | (exact keep1d (unhide hall)))
        ((go_at_call 40; refine (unhide hmt _).mono ?_; rintro e w1 ⟨rfl, hb⟩))
      go_wp2
      go_roundw
      case rel => exact ⟨k + 1, by omega, by go_num, by go_num, by rename_i hH; exact hide hH.2⟩
      case measure => simp [intOf]; omega
    · have hke : k = n := by omega
      go_wp2
      go_ret
      exact ⟨ret_int (by omega), unhide hb⟩

end Go.Proofs.YtapdjgkoekjngaaDoor
