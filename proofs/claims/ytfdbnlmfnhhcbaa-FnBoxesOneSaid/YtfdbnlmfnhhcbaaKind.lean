/-
  Contracts of the small functions on kinds, of the program and of its model: each answers, and nothing is written.
-/
import Derived.Test.YtfdbnlmfnhhcbaaOkP
namespace Go.Proofs.Ytfdbnlmfnhhcbaa
open Go.RowKit
set_option linter.unusedVariables false
set_option linter.unusedSimpArgs false

theorem cls (n : Nat) : n < 48 ∨ (48 ≤ n ∧ n ≤ 57) ∨ (57 < n ∧ n < 65) ∨ (65 ≤ n ∧ n ≤ 90) ∨ (90 < n ∧ n < 97) ∨ (97 ≤ n ∧ n ≤ 122) ∨ 122 < n := by omega
theorem ld_no1 {n : Nat} (h : n < 48 ∨ (57 < n ∧ n < 65) ∨ (90 < n ∧ n < 97) ∨ 122 < n) : ldN n = false := by
  unfold ldN; simp; omega
theorem ld_yes1 {n : Nat} (h : (48 ≤ n ∧ n ≤ 57) ∨ (65 ≤ n ∧ n ≤ 90) ∨ (97 ≤ n ∧ n ≤ 122)) : ldN n = true := by
  unfold ldN; simp; omega

set_option maxHeartbeats 400000 in
theorem cap_any (n : Nat) (v : Bool) (w : World) (hv : capN n = v) (hn : n ≤ 255) :
    Calls Try.prog 34 #[.int .u8 n] w fun e w' => e = .returned (.bool v) ∧ w' = w := by
  subst hv
  unfold capN
  by_cases h1 : 65 ≤ n
  · by_cases h2 : n ≤ 90
    · go_enter Try.func34, Try.ntmps34
      go_wp2
      go_ret
      exact ⟨ret_bool (by simp [h1, h2]; omega), rfl⟩
    · go_enter Try.func34, Try.ntmps34
      go_wp2
      go_ret
      exact ⟨ret_bool (by simp [h2]; omega), rfl⟩
  · have hd : decide ((65 : Int) ≤ (n : Int)) = false := by simp; omega
    go_enter Try.func34, Try.ntmps34
    go_wp2
    go_ret
    exact ⟨ret_bool (by simp; omega), rfl⟩

set_option maxHeartbeats 400000 in
theorem digit_any (n : Nat) (v : Bool) (w : World) (hv : (decide (48 ≤ n) && decide (n ≤ 57)) = v) (hn : n ≤ 255) :
    Calls Try.prog 33 #[.int .u8 n] w fun e w' => e = .returned (.bool v) ∧ w' = w := by
  subst hv
  by_cases h1 : 48 ≤ n
  · by_cases h2 : n ≤ 57
    · go_enter Try.func33, Try.ntmps33
      go_wp2
      go_ret
      exact ⟨ret_bool (by simp [h1, h2]; omega), rfl⟩
    · go_enter Try.func33, Try.ntmps33
      go_wp2
      go_ret
      exact ⟨ret_bool (by simp [h2]; omega), rfl⟩
  · have hd : decide ((48 : Int) ≤ (n : Int)) = false := by simp; omega
    go_enter Try.func33, Try.ntmps33
    go_wp2
    go_ret
    exact ⟨ret_bool (by simp; omega), rfl⟩

def letN (n : Nat) : Bool := capN n || (decide (97 ≤ n) && decide (n ≤ 122))
set_option maxHeartbeats 400000 in
theorem letter_any (n : Nat) (v : Bool) (w : World) (hv : letN n = v) (hn : n ≤ 255) :
    Calls Try.prog 32 #[.int .u8 n] w fun e w' => e = .returned (.bool v) ∧ w' = w := by
  subst hv
  cases hc : capN n
  · by_cases h1 : 97 ≤ n
    · by_cases h2 : n ≤ 122
      · go_enter Try.func32, Try.ntmps32
        go_wp2_with fail
        refine (cap_any n false _ hc hn).mono ?_
        rintro e w1 ⟨rfl, rfl⟩
        go_wp2
        go_ret
        exact ⟨ret_bool (by simp [letN, hc, h1, h2]; omega), rfl⟩
      · go_enter Try.func32, Try.ntmps32
        go_wp2_with fail
        refine (cap_any n false _ hc hn).mono ?_
        rintro e w1 ⟨rfl, rfl⟩
        go_wp2
        go_ret
        exact ⟨ret_bool (by simp [letN, hc, h2]; omega), rfl⟩
    · have hd : decide ((97 : Int) ≤ (n : Int)) = false := by simp; omega
      go_enter Try.func32, Try.ntmps32
      go_wp2_with fail
      refine (cap_any n false _ hc hn).mono ?_
      rintro e w1 ⟨rfl, rfl⟩
      go_wp2
      go_ret
      exact ⟨ret_bool (by simp [letN, hc]; omega), rfl⟩
  · go_enter Try.func32, Try.ntmps32
    go_wp2_with fail
    refine (cap_any n true _ hc hn).mono ?_
    rintro e w1 ⟨rfl, rfl⟩
    go_wp2
    go_ret
    exact ⟨ret_bool (by simp [letN, hc]), rfl⟩

theorem byte_le (c : UInt8) : c.toNat ≤ 255 := by have := c.toNat_lt; omega

set_option maxHeartbeats 400000 in
theorem cont_any (s : ByteArray) (v : Bool) (w : World) (hs : 0 < s.size) (hl : s.size ≤ maxLen) (hv : holds s = v) :
    Calls Try.prog 21 #[.string s] w fun e w' => e = .returned (.bool v) ∧ w' = w := by
  unfold maxLen at hl
  rw [holds_at hs] at hv
  go_enter Try.func21, Try.ntmps21
  go_wp2_with fail
  refine (cap_any s[0].toNat v _ hv (byte_le _)).mono ?_
  rintro e w1 ⟨rfl, rfl⟩
  go_wp2
  go_ret
  exact ⟨rfl, rfl⟩

set_option maxHeartbeats 400000 in
theorem holds_any (s : ByteArray) (v : Bool) (w : World) (hs : 0 < s.size) (hl : s.size ≤ maxLen) (hv : holds s = v) :
    Calls Try.prog 31 #[.string s] w fun e w' => e = .returned (.bool v) ∧ w' = w := by
  unfold maxLen at hl
  rw [holds_at hs] at hv
  subst hv
  unfold capN
  by_cases h1 : 65 ≤ s[0].toNat
  · by_cases h2 : s[0].toNat ≤ 90
    · go_enter Try.func31, Try.ntmps31
      go_wp2
      go_ret
      exact ⟨ret_bool (by simp [h1, h2]; omega), rfl⟩
    · go_enter Try.func31, Try.ntmps31
      go_wp2
      go_ret
      exact ⟨ret_bool (by simp [h2]; omega), rfl⟩
  · have hd : decide ((65 : Int) ≤ (s[0].toNat : Int)) = false := by simp; omega
    go_enter Try.func31, Try.ntmps31
    go_wp2
    go_ret
    exact ⟨ret_bool (by simp; omega), rfl⟩

set_option maxHeartbeats 800000 in
theorem skind_any (s : ByteArray) (v : Bool) (w : World) (hl : s.size ≤ maxLen) (hv : kindOk s = v) :
    Calls Try.prog 30 #[.string s] w fun e w' => e = .returned (.bool v) ∧ w' = w := by
  unfold maxLen at hl
  have hv' := hide hv
  clear hv
  by_cases h4 : s.size = 4
  · have h4b : ((s.size : Int) != 4) = false := by simp; omega
    have h4' := hide h4
    clear h4
    go_enter Try.func30, Try.ntmps30
    go_wp2
    go_loop [3] (fun t => ∃ k : Nat, k ≤ 4 ∧ t = .int .i64 k ∧ Hid ((s.data.toList.take k).all ld = true)) (fun t => 4 - (intOf t).toNat)
    case atStart => exact ⟨0, by omega, rfl, hide rfl⟩
    case round =>
      obtain ⟨k, hk, rfl, hp⟩ := hrel
      by_cases hlt : k < 4
      · have hks : k < s.size := by have := unhide h4'; omega
        have hyes : (48 ≤ s[k].toNat ∧ s[k].toNat ≤ 57) ∨ (65 ≤ s[k].toNat ∧ s[k].toNat ≤ 90) ∨ (97 ≤ s[k].toNat ∧ s[k].toNat ≤ 122) → Hid ((s.data.toList.take (k + 1)).all ld = true) := fun h => hide (all_snoc hks (unhide hp) (ld_yes1 h))
        have hno : s[k].toNat < 48 ∨ (57 < s[k].toNat ∧ s[k].toNat < 65) ∨ (90 < s[k].toNat ∧ s[k].toNat < 97) ∨ 122 < s[k].toNat → Hid (v = false) := fun h => hide (by rw [← unhide hv']; unfold kindOk; rw [all_no hks (ld_no1 h)]; simp)
        have hyes' := hide hyes
        have hno' := hide hno
        clear hyes hno
        have hb := byte_le s[k]
        rcases cls s[k].toNat with h | ⟨h, h'⟩ | ⟨h, h'⟩ | ⟨h, h'⟩ | ⟨h, h'⟩ | ⟨h, h'⟩ | h
        all_goals go_wp2
        · go_ret
          exact ⟨ret_bool (unhide (unhide hno' (by omega))).symm, rfl⟩
        · go_round
          case rel => exact ⟨k + 1, by omega, by go_num, unhide hyes' (by omega)⟩
          case measure => simp [intOf]; omega
        · go_ret
          exact ⟨ret_bool (unhide (unhide hno' (by omega))).symm, rfl⟩
        · go_round
          case rel => exact ⟨k + 1, by omega, by go_num, unhide hyes' (by omega)⟩
          case measure => simp [intOf]; omega
        · go_ret
          exact ⟨ret_bool (unhide (unhide hno' (by omega))).symm, rfl⟩
        · go_round
          case rel => exact ⟨k + 1, by omega, by go_num, unhide hyes' (by omega)⟩
          case measure => simp [intOf]; omega
        · go_ret
          exact ⟨ret_bool (unhide (unhide hno' (by omega))).symm, rfl⟩
      · go_wp2
        go_ret
        refine ⟨ret_bool ?_, rfl⟩
        rw [← unhide hv']
        have e : k = s.size := by have := unhide h4'; omega
        have hp' := unhide hp
        rw [e, List.take_of_length_le (by simp)] at hp'
        unfold kindOk; rw [hp', decide_eq_true (unhide h4')]; rfl
  · have h4b : ((s.size : Int) != 4) = true := by simp; omega
    go_enter Try.func30, Try.ntmps30
    go_wp2
    go_ret
    exact ⟨ret_bool (by rw [← unhide hv']; simp [kindOk, h4]), rfl⟩

theorem letN_yes {n : Nat} (h : (65 ≤ n ∧ n ≤ 90) ∨ (97 ≤ n ∧ n ≤ 122)) : letN n = true := by unfold letN capN; simp; omega
theorem letN_no {n : Nat} (h : ¬ ((65 ≤ n ∧ n ≤ 90) ∨ (97 ≤ n ∧ n ≤ 122))) : letN n = false := by unfold letN capN; simp; omega
set_option maxHeartbeats 800000 in
theorem ikind_any (s : ByteArray) (v : Bool) (w : World) (hl : s.size ≤ maxLen) (hv : kindOk s = v) :
    Calls Try.prog 20 #[.string s] w fun e w' => e = .returned (.bool v) ∧ w' = w := by
  unfold maxLen at hl
  have hv' := hide hv
  clear hv
  by_cases h4 : s.size = 4
  · have h4b : ((s.size : Int) != 4) = false := by simp; omega
    have h4' := hide h4
    have hl4 : s.size ≤ 4 := by omega
    clear h4
    go_enter Try.func20, Try.ntmps20
    go_wp2
    go_loop [9] (fun t => ∃ k : Nat, k ≤ s.size ∧ t = .int .i64 k ∧ Hid ((s.data.toList.take k).all ld = true)) (fun t => s.size - (intOf t).toNat)
    case atStart => exact ⟨0, by omega, rfl, hide rfl⟩
    case round =>
      obtain ⟨k, hk, rfl, hp⟩ := hrel
      by_cases hks : k < s.size
      · have hyes : (48 ≤ s[k].toNat ∧ s[k].toNat ≤ 57) ∨ (65 ≤ s[k].toNat ∧ s[k].toNat ≤ 90) ∨ (97 ≤ s[k].toNat ∧ s[k].toNat ≤ 122) → Hid ((s.data.toList.take (k + 1)).all ld = true) := fun h => hide (all_snoc hks (unhide hp) (ld_yes1 h))
        have hno : s[k].toNat < 48 ∨ (57 < s[k].toNat ∧ s[k].toNat < 65) ∨ (90 < s[k].toNat ∧ s[k].toNat < 97) ∨ 122 < s[k].toNat → Hid (v = false) := fun h => hide (by rw [← unhide hv']; unfold kindOk; rw [all_no hks (ld_no1 h)]; simp)
        have hyes' := hide hyes
        have hno' := hide hno
        clear hyes hno
        have hb := byte_le s[k]
        by_cases hL : (65 ≤ s[k].toNat ∧ s[k].toNat ≤ 90) ∨ (97 ≤ s[k].toNat ∧ s[k].toNat ≤ 122)
        · have hL' := hide hL
          clear hL
          go_wp2_with fail
          refine (letter_any s[k].toNat true _ (letN_yes (unhide hL')) hb).mono ?_
          rintro e w1 ⟨rfl, rfl⟩
          go_wp2
          go_round
          case rel => exact ⟨k + 1, by omega, by go_num, unhide hyes' (.inr (unhide hL'))⟩
          case measure => simp [intOf]; omega
        · by_cases hD : 48 ≤ s[k].toNat ∧ s[k].toNat ≤ 57
          · have hL' := hide hL
            have hD' := hide hD
            clear hL hD
            go_wp2_with fail
            refine (letter_any s[k].toNat false _ (letN_no (unhide hL')) hb).mono ?_
            rintro e w1 ⟨rfl, rfl⟩
            go_wp2_with fail
            refine (digit_any s[k].toNat true _ (by have := unhide hD'; simp; omega) hb).mono ?_
            rintro e w1 ⟨rfl, rfl⟩
            go_wp2
            go_round
            case rel => exact ⟨k + 1, by omega, by go_num, unhide hyes' (.inl (unhide hD'))⟩
            case measure => simp [intOf]; omega
          · have hL' := hide hL
            have hD' := hide hD
            clear hL hD
            go_wp2_with fail
            refine (letter_any s[k].toNat false _ (letN_no (unhide hL')) hb).mono ?_
            rintro e w1 ⟨rfl, rfl⟩
            go_wp2_with fail
            refine (digit_any s[k].toNat false _ (by have := unhide hD'; simp; omega) hb).mono ?_
            rintro e w1 ⟨rfl, rfl⟩
            go_wp2
            go_ret
            exact ⟨ret_bool (unhide (unhide hno' (by have := unhide hD'; have := unhide hL'; omega))).symm, rfl⟩
      · go_wp2
        go_ret
        refine ⟨ret_bool ?_, rfl⟩
        rw [← unhide hv']
        have e : k = s.size := by omega
        have hp' := unhide hp
        rw [e, List.take_of_length_le (by simp)] at hp'
        unfold kindOk; rw [hp', decide_eq_true (unhide h4')]; rfl
  · have h4b : ((s.size : Int) != 4) = true := by simp; omega
    go_enter Try.func20, Try.ntmps20
    go_wp2
    go_ret
    exact ⟨ret_bool (by rw [← unhide hv']; simp [kindOk, h4]), rfl⟩
end Go.Proofs.Ytfdbnlmfnhhcbaa
