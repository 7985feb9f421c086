/-
  How the law writes marks into a list of assets, and looks for them again: the contracts.
-/
import Derived.Test.YtpdnceeniokemaaMk
namespace Go.Proofs.Ytpdnceeniokemaa
open Go.RowKit
set_option linter.unusedVariables false
set_option linter.unusedSimpArgs false

/-- the mark in cell j -/
def mkv (q : Int) (j : Nat) : Value := if j % 3 = 0 then sv (mkT (q + j)) else iv (q + j)
/-- the first i cells bear the marks from q on -/
def Mks (q : Int) (i : Nat) (xs : List Value) : Prop := ∀ j, j < i → xs[j]? = some (mkv q j)
theorem Mks.set {q : Int} {i : Nat} {xs : List Value} (h : Mks q i xs) (hi : i < xs.length) : Mks q (i + 1) (xs.set i (mkv q i)) := by
  intro j hj
  by_cases e : j = i
  · subst e; simp [hi]
  · rw [List.getElem?_set_ne (by omega)]; exact h j (by omega)
theorem mkv0 (q : Int) (k : Nat) : mkv q (k * 3) = sv (mkT (q + k * 3)) := by unfold mkv; rw [if_pos (by omega)]; congr 1
theorem mkv1 (q : Int) (k : Nat) : mkv q (k * 3 + 1) = iv (q + k * 3 + 1) := by
  unfold mkv; rw [if_neg (by omega)]
  have : q + ((k * 3 + 1 : Nat) : Int) = q + k * 3 + 1 := by omega
  rw [this]
theorem mkv2 (q : Int) (k : Nat) : mkv q (k * 3 + 2) = iv (q + k * 3 + 2) := by
  unfold mkv; rw [if_neg (by omega)]
  have : q + ((k * 3 + 2 : Nat) : Int) = q + k * 3 + 2 := by omega
  rw [this]
theorem mark_n {w1 : World} {B g n cap k : Nat} {q : Int} {ys : List Value} (hlt : k < n) (hy : w1.ownsRow B 79 3 (.slice (some ⟨g, 0, none⟩) n cap) n ys) (hm : Mks q (k * 3) ys) :
    ∃ ys, (((w1.setCell ⟨g, k * 3, none⟩ (.string (mkT (q + k * 3)))).setCell ⟨g, k * 3 + 1, none⟩ (.int .i64 (q + k * 3 + 1))).setCell ⟨g, k * 3 + 2, none⟩ (.int .i64 (q + k * 3 + 2))).ownsRow B 79 3 (.slice (some ⟨g, 0, none⟩) n cap) n ys ∧ Mks q ((k + 1) * 3) ys := by
  have hl : ys.length = n * 3 := hy.1
  have h0 := (hy.stored (k * 3) (mkv q (k * 3))).1
  have m0 := hm.set (by omega)
  have h1 := (h0.stored (k * 3 + 1) (mkv q (k * 3 + 1))).1
  have m1 := m0.set (by rw [List.length_set]; omega)
  have h2 := (h1.stored (k * 3 + 2) (mkv q (k * 3 + 2))).1
  have m2 := m1.set (by rw [List.length_set, List.length_set]; omega)
  have z5 : (k + 1) * 3 = k * 3 + 1 + 1 + 1 := by omega
  rw [mkv0, mkv1, mkv2] at h2
  rw [z5]
  refine ⟨_, h2, ?_⟩
  rw [← mkv0, ← mkv1, ← mkv2]; exact m2
set_option maxHeartbeats 1600000 in
theorem markA_any (B g n cap : Nat) (q : Int) (xs : List Value) (w : World) (hn : n ≤ 10000000) (q0 : 1 ≤ q) (q1 : q ≤ 100000000) (h : w.ownsRow B 79 3 (.slice (some ⟨g, 0, none⟩) n cap) n xs) :
    Calls Try.prog 36 #[.slice (some ⟨g, 0, none⟩) n cap, .int .i64 q] w fun e w' => e = .returned (.int .i64 (q + n * 3)) ∧ (∃ ys, w'.ownsRow B 79 3 (.slice (some ⟨g, 0, none⟩) n cap) n ys ∧ Mks q (n * 3) ys) ∧ w.grownBy w' (some g) := by
  have h' := hide h
  clear h
  go_enter Try.func36, Try.ntmps36
  go_wp2
  go_loopw [1, 5] (fun s t wr => ∃ k : Nat, k ≤ n ∧ t = .int .i64 k ∧ s = .int .i64 (q + k * 3) ∧ Hid (∃ ys, wr.ownsRow B 79 3 (.slice (some ⟨g, 0, none⟩) n cap) n ys ∧ Mks q (k * 3) ys) ∧ Hid (w.grownBy wr (some g))) (fun _ t _ => n - (intOf t).toNat)
  case atStart => exact ⟨0, by omega, rfl, by simp, hide ⟨xs, unhide h', fun j hj => by omega⟩, hide (grown_refl _ _)⟩
  case round =>
    obtain ⟨k, hk, rfl, rfl, hown, hg⟩ := hrel
    by_cases hlt : k < n
    · go_wp2_with fail
      refine (mtext_any (q + k * 3) _ (by omega) (by omega)).mono ?_
      rintro e w1 ⟨rfl, k1⟩
      obtain ⟨ys, hy, hm⟩ := unhide hown
      have hy1 := ownsRow_below hy k1
      obtain ⟨v0, c0, f0, _, hl0⟩ := own_at (i := k * 3) hy1 (by omega)
      obtain ⟨v1, c1, f1, _, hl1⟩ := own_at (i := k * 3 + 1) hy1 (by omega)
      obtain ⟨v2, c2, f2, _, hl2⟩ := own_at (i := k * 3 + 2) hy1 (by omega)
      have hnew := hide (mark_n hlt hy1 hm)
      have hG2 := hide (grown_set (v := .int .i64 (q + k * 3 + 2)) (i := k * 3 + 2) (grown_set (v := .int .i64 (q + k * 3 + 1)) (i := k * 3 + 1) (grown_set (v := .string (mkT (q + k * 3))) (i := k * 3) (grown_below (unhide hg) k1))))
      have e2 : q + (k : Int) * 3 + 1 + 1 = q + k * 3 + 2 := by omega
      generalize mkT (q + k * 3) = M at *
      clear hown hy hm hy1 k1 hl0 hl1 hl2 hg
      go_wp2
      go_roundw
      case rel => exact ⟨k + 1, by omega, by go_num, by go_num, by first | exact hnew | (rw [e2]; exact hnew), by first | exact hG2 | (rw [e2]; exact hG2)⟩
      case measure => simp [intOf]; omega
    · have hke : k = n := by omega
      have hf : Hid (∃ ys, wr.ownsRow B 79 3 (.slice (some ⟨g, 0, none⟩) n cap) n ys ∧ Mks q (n * 3) ys) := hide (by have := unhide hown; rw [hke] at this; exact this)
      clear hown
      go_wp2
      go_ret
      exact ⟨ret_int (by omega), unhide hf, unhide hg⟩

end Go.Proofs.Ytpdnceeniokemaa
