/-
  Contract of the exchange of two neighbouring parts of a list of samples; all blocks but the list's own stand.
-/
import Derived.Test.YtmpbcmpjfcddoaaSr
namespace Go.Proofs.Ytmpbcmpjfcddoaa
open Go.RowKit
set_option linter.unusedVariables false
set_option linter.unusedSimpArgs false
namespace D

/-- where what lies at k comes from when two neighbouring parts change places -/
def roi (a m b k : Nat) : Nat := if a ≤ k ∧ k < a + (b - m) then m + (k - a) else if a + (b - m) ≤ k ∧ k < b then a + (k - (a + (b - m))) else k
theorem roi_left {m i j k : Nat} (hi : i ≤ m) (hij : j < i) : swi (m - i) m j (roi (m - i + j) m (m + j) k) = roi (m - i) m (m + j) k := by
  unfold swi roi
  repeat' split
  all_goals omega
theorem roi_right {m i j k : Nat} (hi : i ≤ m) (hij : i < j) : swi (m - i) (m + j - i) i (roi (m - i) m (m + j - i) k) = roi (m - i) m (m + j) k := by
  unfold swi roi
  repeat' split
  all_goals omega
theorem roi_end {m i k : Nat} (hi : i ≤ m) : swi (m - i) m i k = roi (m - i) m (m + i) k := by
  unfold swi roi
  repeat' split
  all_goals omega

set_option maxHeartbeats 6400000 in
theorem rot_any (B gg n cap a m b : Nat) (L : List Kl) (w : World) (hO : Own w B gg n cap L) (hn : n ≤ 1000) (ham : a < m) (hmb : m < b) (hbn : b ≤ n) :
    Calls Try.prog 59 #[.slice (some ⟨gg, 0, none⟩) n cap, .int .i64 a, .int .i64 m, .int .i64 b, (.func (.func 34) #[] #[])] w fun en w' => en = .returned (.tuple #[]) ∧ ∃ L', (Own w' B gg n cap L' ∧ w.grownBy w' (some gg)) ∧ ∀ k : Nat, L'[k]? = L[roi a m b k]? := by
  have hO' := hide hO
  clear hO
  obtain ⟨i0, hi0⟩ : ∃ i, m - a = i := ⟨_, rfl⟩
  obtain ⟨j0, hj0⟩ : ∃ j, b - m = j := ⟨_, rfl⟩
  have ta : IntKind.i64.wrap ((m : Int) - a) = i0 := by rw [IntKind.wrap_i64]; omega
  have tb : IntKind.i64.wrap ((b : Int) - m) = j0 := by rw [IntKind.wrap_i64]; omega
  have he : Hid (a = m - i0 ∧ b = m + j0) := hide (by omega)
  have hb : 1 ≤ i0 ∧ i0 ≤ m ∧ 1 ≤ j0 ∧ m + j0 ≤ n := by omega
  clear hi0 hj0
  go_enter Try.func59, Try.ntmps59
  go_wp2
  go_loopw [10, 11] (fun s t wr => ∃ (i j : Nat) (L1 : List Kl), 1 ≤ i ∧ i ≤ m ∧ 1 ≤ j ∧ m + j ≤ n ∧ s = .int .i64 i ∧ t = .int .i64 j ∧ Hid (Own wr B gg n cap L1 ∧ w.grownBy wr (some gg)) ∧ Hid (∀ k : Nat, L[roi a m b k]? = L1[roi (m - i) m (m + j) k]?)) (fun s t _ => (intOf s).toNat + (intOf t).toNat)
  case atStart => exact ⟨i0, j0, L, by omega, by omega, by omega, by omega, rfl, rfl, hide ⟨unhide hO', grown_refl _ _⟩, hide (fun k => by rw [← (unhide he).1, ← (unhide he).2])⟩
  case round =>
    clear hO'
    obtain ⟨i, j, L1, i1, i2, j1, j2, rfl, rfl, hD, hR⟩ := hrel
    by_cases hne : i = j
    · subst hne
      have tn : ((i : Int) != i) = false := by simp
      have tm : IntKind.i64.wrap ((m : Int) - i) = ((m - i : Nat) : Int) := by rw [IntKind.wrap_i64]; omega
      obtain ⟨p, hp⟩ : ∃ p, m - i = p := ⟨_, rfl⟩
      rw [hp] at tm
      have hpi : p + i ≤ m := by omega
      go_wp2_with fail
      refine (swr_any B gg n cap p m i L1 _ (unhide hD).1 hn (by omega) (by omega)).mono ?_
      rintro en w2 ⟨rfl, L2, hD2, hS2⟩
      have hDn := hide (And.intro hD2.1 (grown_trans (unhide hD).2 hD2.2))
      have hS2' := hide hS2
      clear hD2 hS2 hD
      have hfin : Hid (∀ k : Nat, L2[k]? = L[roi a m b k]?) := hide (fun k => by rw [unhide hS2' k, unhide hR k, ← hp, roi_end i2])
      go_wp2
      refine bodyPost_end (results_none rfl _ _ _) rfl ?_
      exact ⟨rfl, L2, unhide hDn, unhide hfin⟩
    · have tn : ((i : Int) != j) = true := by simp; omega
      by_cases hij : j < i
      · have tg : decide ((j : Int) < i) = true := by simp; omega
        have tm : IntKind.i64.wrap ((m : Int) - i) = ((m - i : Nat) : Int) := by rw [IntKind.wrap_i64]; omega
        have ts : IntKind.i64.wrap ((i : Int) - j) = ((i - j : Nat) : Int) := by rw [IntKind.wrap_i64]; omega
        obtain ⟨p, hp⟩ : ∃ p, m - i = p := ⟨_, rfl⟩
        obtain ⟨d, hd⟩ : ∃ d, i - j = d := ⟨_, rfl⟩
        rw [hp] at tm
        rw [hd] at ts
        have hpi : p + i ≤ m := by omega
        go_wp2_with fail
        refine (swr_any B gg n cap p m j L1 _ (unhide hD).1 hn (by omega) (by omega)).mono ?_
        rintro en w2 ⟨rfl, L2, hD2, hS2⟩
        have hDn := hide (And.intro hD2.1 (grown_trans (unhide hD).2 hD2.2))
        have hS2' := hide hS2
        clear hD2 hS2 hD
        have hfin : Hid (∀ k : Nat, L[roi a m b k]? = L2[roi (m - d) m (m + j) k]?) := hide (fun k => by rw [unhide hR k, unhide hS2' _, ← hp, show m - d = m - i + j by omega, roi_left i2 hij])
        clear hR hS2'
        go_wp2
        go_roundw
        case rel => exact ⟨d, j, L2, by omega, by omega, by omega, by omega, by go_num, rfl, hDn, hfin⟩
        case measure => simp [intOf]; omega
      · have tg : decide ((j : Int) < i) = false := by simp; omega
        have tm : IntKind.i64.wrap ((m : Int) - i) = ((m - i : Nat) : Int) := by rw [IntKind.wrap_i64]; omega
        have ts : IntKind.i64.wrap ((j : Int) - i) = ((j - i : Nat) : Int) := by rw [IntKind.wrap_i64]; omega
        have tq : IntKind.i64.wrap ((m : Int) + j - i) = ((m + j - i : Nat) : Int) := by rw [IntKind.wrap_i64]; omega
        obtain ⟨p, hp⟩ : ∃ p, m - i = p := ⟨_, rfl⟩
        obtain ⟨d, hd⟩ : ∃ d, j - i = d := ⟨_, rfl⟩
        obtain ⟨q, hq⟩ : ∃ q, m + j - i = q := ⟨_, rfl⟩
        rw [hp] at tm
        rw [hd] at ts
        rw [hq] at tq
        have hpi : p + i ≤ m := by omega
        go_wp2_with fail
        refine (swr_any B gg n cap p q i L1 _ (unhide hD).1 hn (by omega) (by omega)).mono ?_
        rintro en w2 ⟨rfl, L2, hD2, hS2⟩
        have hDn := hide (And.intro hD2.1 (grown_trans (unhide hD).2 hD2.2))
        have hS2' := hide hS2
        clear hD2 hS2 hD
        have hfin : Hid (∀ k : Nat, L[roi a m b k]? = L2[roi (m - i) m (m + d) k]?) := hide (fun k => by rw [unhide hR k, unhide hS2' _, ← hp, ← hq, show m + d = m + j - i by omega, roi_right i2 (by omega)])
        clear hR hS2'
        go_wp2
        go_roundw
        case rel => exact ⟨i, d, L2, by omega, by omega, by omega, by omega, rfl, by go_num, hDn, hfin⟩
        case measure => simp [intOf]; omega

end D
end Go.Proofs.Ytmpbcmpjfcddoaa
