/-
  Contracts of the law's functions that write marks into lists of complex numbers and look for them again.
-/
import Derived.Test.YtibeipcfokngjaaMark
namespace Go.Proofs.Ytibeipcfokngjaa
open Go.RowKit
set_option linter.unusedVariables false
set_option linter.unusedSimpArgs false

theorem mark_two {wr : World} {B g n cap k : Nat} {q : Int} {ys : List Value} (hlt : k < n) (hy : wr.ownsRow B 25 2 (.slice (some ⟨g, 0, none⟩) n cap) n ys) (hm : Mkd q (k * 2) ys) :
    ∃ ys, ((wr.setCell ⟨g, k * 2, none⟩ (.float .f64 (floatOfInt .f64 (q + k * 2)))).setCell ⟨g, k * 2 + 1, none⟩ (.float .f64 (floatOfInt .f64 (q + k * 2 + 1)))).ownsRow B 25 2 (.slice (some ⟨g, 0, none⟩) n cap) n ys ∧ Mkd q ((k + 1) * 2) ys := by
  have hl : ys.length = n * 2 := hy.1
  have h1 := (hy.stored (k * 2) (fl (floatOfInt .f64 (q + ((k * 2 : Nat) : Int))))).1
  have m1 := hm.set (by omega)
  have h2 := (h1.stored (k * 2 + 1) (fl (floatOfInt .f64 (q + ((k * 2 + 1 : Nat) : Int))))).1
  have m2 := m1.set (by rw [List.length_set]; omega)
  have e1 : q + ((k * 2 : Nat) : Int) = q + k * 2 := by omega
  have e2 : q + ((k * 2 + 1 : Nat) : Int) = q + k * 2 + 1 := by omega
  have e3 : (k + 1) * 2 = k * 2 + 1 + 1 := by omega
  rw [e1, e2] at h2 m2
  rw [e3]
  exact ⟨_, h2, m2⟩

set_option maxHeartbeats 800000 in
theorem markcx_any (B g n cap : Nat) (q : Int) (xs : List Value) (w : World) (hn : n ≤ 10000000) (q0 : 0 ≤ q) (q1 : q ≤ 100000000) (h : w.ownsRow B 25 2 (.slice (some ⟨g, 0, none⟩) n cap) n xs) :
    Calls Try.prog 21 #[.slice (some ⟨g, 0, none⟩) n cap, .int .i64 q] w fun e w' => e = .returned (.int .i64 (q + n * 2)) ∧ (∃ ys, w'.ownsRow B 25 2 (.slice (some ⟨g, 0, none⟩) n cap) n ys ∧ Mkd q (n * 2) ys) ∧ w.grownBy w' (some g) := by
  have h' := hide h
  clear h
  go_enter Try.func21, Try.ntmps21
  go_wp2
  go_loopw [1, 5] (fun s t wr => ∃ k : Nat, k ≤ n ∧ t = .int .i64 k ∧ s = .int .i64 (q + k * 2) ∧ Hid (∃ ys, wr.ownsRow B 25 2 (.slice (some ⟨g, 0, none⟩) n cap) n ys ∧ Mkd q (k * 2) ys) ∧ Hid (w.grownBy wr (some g))) (fun _ t _ => n - (intOf t).toNat)
  case atStart => exact ⟨0, by omega, rfl, by simp, hide ⟨xs, unhide h', fun j hj => by omega⟩, hide (grown_refl _ _)⟩
  case round =>
    obtain ⟨k, hk, rfl, rfl, hown, hg⟩ := hrel
    by_cases hlt : k < n
    · obtain ⟨ys, hy, hm⟩ := unhide hown
      obtain ⟨v, c0, f0, _, hl⟩ := own_at (i := k * 2) hy (by omega)
      obtain ⟨v', c1, f1, _, _⟩ := own_at (i := k * 2 + 1) hy (by omega)
      have hnew := hide (mark_two hlt hy hm)
      clear hown hy hm hl
      go_wp2
      go_roundw
      case rel => exact ⟨k + 1, by omega, by go_num, by go_num, hnew, hide (grown_set (grown_set (unhide hg)))⟩
      case measure => simp [intOf]; omega
    · have hke : k = n := by omega
      have hf : Hid (∃ ys, wr.ownsRow B 25 2 (.slice (some ⟨g, 0, none⟩) n cap) n ys ∧ Mkd q (n * 2) ys) := hide (by have := unhide hown; rw [hke] at this; exact this)
      clear hown
      go_wp2
      go_ret
      exact ⟨ret_int (by omega), unhide hf, unhide hg⟩

set_option maxHeartbeats 800000 in
theorem heldcx_any (B g n cap : Nat) (q : Int) (xs : List Value) (w : World) (hn : n ≤ 10000000) (q0 : 0 ≤ q) (q1 : q ≤ 100000000) (h : w.ownsRow B 25 2 (.slice (some ⟨g, 0, none⟩) n cap) n xs) (hm : Mkd q (n * 2) xs) :
    Calls Try.prog 22 #[.slice (some ⟨g, 0, none⟩) n cap, .int .i64 q] w fun e w' => e = .returned (.int .i64 (q + n * 2)) ∧ w' = w := by
  have h' := hide h
  have hm' := hide hm
  clear h hm
  go_enter Try.func22, Try.ntmps22
  go_wp2
  go_loop [1, 5] (fun s t => ∃ k : Nat, k ≤ n ∧ t = .int .i64 k ∧ s = .int .i64 (q + k * 2)) (fun _ t => n - (intOf t).toNat)
  case atStart => exact ⟨0, by omega, rfl, by simp⟩
  case round =>
    obtain ⟨k, hk, rfl, rfl⟩ := hrel
    by_cases hlt : k < n
    · obtain ⟨v, c0, f0, hv, hl⟩ := own_at (i := k * 2) (unhide h') (by omega)
      obtain ⟨v', c1, f1, hv', _⟩ := own_at (i := k * 2 + 1) (unhide h') (by omega)
      rw [unhide hm' (k * 2) (by omega)] at hv
      rw [unhide hm' (k * 2 + 1) (by omega)] at hv'
      cases hv
      cases hv'
      have e1 : q + ((k * 2 : Nat) : Int) = q + k * 2 := by omega
      have e2 : q + ((k * 2 + 1 : Nat) : Int) = q + k * 2 + 1 := by omega
      rw [e1] at c0
      rw [e2] at c1
      have d0 : w.cell? ⟨g, k * 2, none⟩ = some (.float .f64 (floatOfInt .f64 (q + k * 2))) := c0
      have d1 : w.cell? ⟨g, k * 2 + 1, none⟩ = some (.float .f64 (floatOfInt .f64 (q + k * 2 + 1))) := c1
      have s0 := ofInt_self (q + k * 2)
      have s1 := ofInt_self (q + k * 2 + 1)
      clear c0 c1 f0 f1 hl e1 e2
      go_wp2
      go_round
      case rel => exact ⟨k + 1, by omega, by go_num, by go_num⟩
      case measure => simp [intOf]; omega
    · have hke : k = n := by omega
      go_wp2
      go_ret
      exact ⟨ret_int (by omega), rfl⟩

end Go.Proofs.Ytibeipcfokngjaa
