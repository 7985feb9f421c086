/-
  Contracts of the functions, the model's and the program's, that tell whether something is a clip or a track, and how long a track is; nothing that was there is written.
-/
import Derived.Test.YtfcjdempigoiiaaCopy
namespace Go.Proofs.Ytfcjdempigoiiaa
open Go.RowKit
set_option linter.unusedVariables false
set_option linter.unusedSimpArgs false

set_option maxHeartbeats 400000 in
theorem in_any (x lo hi : Int) (v : Bool) (w : World) (hv : (decide (lo ≤ x) && decide (x ≤ hi)) = v) :
    Calls Try.prog 57 #[.int .i64 x, .int .i64 lo, .int .i64 hi] w fun e w' => e = .returned (.bool v) ∧ w' = w := by
  subst hv
  by_cases h1 : lo ≤ x
  · by_cases h2 : x ≤ hi
    · go_enter Try.func57, Try.ntmps57
      go_wp2
      go_ret
      exact ⟨ret_bool (by simp [h1, h2]), rfl⟩
    · go_enter Try.func57, Try.ntmps57
      go_wp2
      go_ret
      exact ⟨ret_bool (by simp [h2]), rfl⟩
  · have hd : decide (lo ≤ x) = false := by simpa using h1
    go_enter Try.func57, Try.ntmps57
    go_wp2
    go_ret
    exact ⟨ret_bool (by simp), rfl⟩
set_option maxHeartbeats 400000 in
theorem src_any (x : Int) (v : Bool) (w : World) (hv : (decide (1 ≤ x) && decide (x ≤ 500)) = v) :
    Calls Try.prog 58 #[.int .i64 x] w fun e w' => e = .returned (.bool v) ∧ w' = w := by
  go_enter Try.func58, Try.ntmps58
  go_wp2_with fail
  refine (in_any x 1 500 v _ hv).mono ?_
  rintro e w1 ⟨rfl, rfl⟩
  go_wp2
  go_ret
  exact ⟨rfl, rfl⟩
theorem cok_dec (s i n : Int) : decide (COk (s, i, n)) = (decide (1 ≤ n) && decide (n ≤ 10000000) && (decide (0 ≤ i) && decide (i + n ≤ 10000000)) && ((decide (1 ≤ s) && decide (s ≤ 500)) || (decide (s = 0) && decide (i = 0)))) := by
  rw [Bool.eq_iff_iff, decide_eq_true_iff]
  simp [COk, and_assoc]

set_option maxHeartbeats 1600000 in
theorem sclip_any (s i n : Int) (v : Bool) (w : World) (hv : decide (COk (s, i, n)) = v) :
    Calls Try.prog 35 #[.agg #[.int .i64 s, .int .i64 i, .int .i64 n]] w fun e w' => e = .returned (.bool v) ∧ Below w.heap.size w w' := by
  rw [cok_dec] at hv
  subst hv
  by_cases hn : 1 ≤ n ∧ n ≤ 10000000
  · by_cases hi : 0 ≤ i ∧ i ≤ 10000000
    · obtain ⟨n0, n1⟩ := hn
      obtain ⟨i0, i1⟩ := hi
      by_cases hs : i + n ≤ 10000000
      · have hs' : decide (10000000 < i + n) = false := by simp; omega
        by_cases h1 : 1 ≤ s ∧ s ≤ 500
        · go_enter Try.func35, Try.ntmps35
          go_wp2_with fail
          refine (in_any n 1 10000000 true _ (by simp; omega)).mono ?_
          rintro e w1 ⟨rfl, rfl⟩
          go_wp2_with fail
          refine (in_any i 0 10000000 true _ (by simp; omega)).mono ?_
          rintro e w1 ⟨rfl, rfl⟩
          go_wp2_with fail
          refine (src_any s true _ (by simp; omega)).mono ?_
          rintro e w1 ⟨rfl, rfl⟩
          go_wp2
          go_ret
          exact ⟨ret_bool (by simp; omega), (Below.refl _ _).alloc (Nat.le_refl _) _⟩
        · by_cases h0 : s = 0
          · by_cases hi0 : i = 0
            · subst h0 hi0
              go_enter Try.func35, Try.ntmps35
              go_wp2_with fail
              refine (in_any n 1 10000000 true _ (by simp; omega)).mono ?_
              rintro e w1 ⟨rfl, rfl⟩
              go_wp2_with fail
              refine (in_any 0 0 10000000 true _ (by simp)).mono ?_
              rintro e w1 ⟨rfl, rfl⟩
              go_wp2_with fail
              refine (src_any 0 false _ (by simp)).mono ?_
              rintro e w1 ⟨rfl, rfl⟩
              go_wp2
              go_ret
              exact ⟨ret_bool (by simp; omega), (Below.refl _ _).alloc (Nat.le_refl _) _⟩
            · subst h0
              have hi0' : decide (i = 0) = false := by simpa using hi0
              go_enter Try.func35, Try.ntmps35
              go_wp2_with fail
              refine (in_any n 1 10000000 true _ (by simp; omega)).mono ?_
              rintro e w1 ⟨rfl, rfl⟩
              go_wp2_with fail
              refine (in_any i 0 10000000 true _ (by simp; omega)).mono ?_
              rintro e w1 ⟨rfl, rfl⟩
              go_wp2_with fail
              refine (src_any 0 false _ (by simp)).mono ?_
              rintro e w1 ⟨rfl, rfl⟩
              go_wp2
              go_ret
              exact ⟨ret_bool (by simp [hi0]), (Below.refl _ _).alloc (Nat.le_refl _) _⟩
          · have h0' : decide (s = 0) = false := by simpa using h0
            have h1' : (decide (1 ≤ s) && decide (s ≤ 500)) = false := by simp; omega
            go_enter Try.func35, Try.ntmps35
            go_wp2_with fail
            refine (in_any n 1 10000000 true _ (by simp; omega)).mono ?_
            rintro e w1 ⟨rfl, rfl⟩
            go_wp2_with fail
            refine (in_any i 0 10000000 true _ (by simp; omega)).mono ?_
            rintro e w1 ⟨rfl, rfl⟩
            go_wp2_with fail
            refine (src_any s false _ h1').mono ?_
            rintro e w1 ⟨rfl, rfl⟩
            go_wp2
            go_ret
            exact ⟨ret_bool (by simp [h1', h0']), (Below.refl _ _).alloc (Nat.le_refl _) _⟩
      · have hs' : decide (10000000 < i + n) = true := by simp; omega
        have hs2 : decide (i + n ≤ 10000000) = false := by simp; omega
        go_enter Try.func35, Try.ntmps35
        go_wp2_with fail
        refine (in_any n 1 10000000 true _ (by simp; omega)).mono ?_
        rintro e w1 ⟨rfl, rfl⟩
        go_wp2_with fail
        refine (in_any i 0 10000000 true _ (by simp; omega)).mono ?_
        rintro e w1 ⟨rfl, rfl⟩
        go_wp2
        go_ret
        exact ⟨ret_bool (by simp [hs2]), (Below.refl _ _).alloc (Nat.le_refl _) _⟩
    · have hi' : (decide (0 ≤ i) && decide (i ≤ 10000000)) = false := by simp; omega
      have hi2 : decide (0 ≤ i) = false ∨ decide (i + n ≤ 10000000) = false := by simp; omega
      go_enter Try.func35, Try.ntmps35
      go_wp2_with fail
      refine (in_any n 1 10000000 true _ (by simp; omega)).mono ?_
      rintro e w1 ⟨rfl, rfl⟩
      go_wp2_with fail
      refine (in_any i 0 10000000 false _ hi').mono ?_
      rintro e w1 ⟨rfl, rfl⟩
      go_wp2
      go_ret
      refine ⟨ret_bool ?_, (Below.refl _ _).alloc (Nat.le_refl _) _⟩
      rcases hi2 with h | h <;> simp [h]
  · have hn' : (decide (1 ≤ n) && decide (n ≤ 10000000)) = false := by simp; omega
    go_enter Try.func35, Try.ntmps35
    go_wp2_with fail
    refine (in_any n 1 10000000 false _ hn').mono ?_
    rintro e w1 ⟨rfl, rfl⟩
    go_wp2
    go_ret
    exact ⟨ret_bool (by simp [hn']), (Below.refl _ _).alloc (Nat.le_refl _) _⟩

set_option maxHeartbeats 400000 in
theorem gap_any (s i n : Int) (v : Bool) (w : World) (hv : decide (s = 0) = v) :
    Calls Try.prog 55 #[.agg #[.int .i64 s, .int .i64 i, .int .i64 n]] w fun e w' => e = .returned (.bool v) ∧ Below w.heap.size w w' := by
  subst hv
  go_enter Try.func55, Try.ntmps55
  go_wp2
  go_ret
  exact ⟨rfl, (Below.refl _ _).alloc (Nat.le_refl _) _⟩
set_option maxHeartbeats 400000 in
theorem isrc_any (x : Int) (v : Bool) (w : World) (hv : (decide (1 ≤ x) && decide (x ≤ 500)) = v) :
    Calls Try.prog 67 #[.int .i64 x] w fun e w' => e = .returned (.bool v) ∧ w' = w := by
  subst hv
  by_cases h1 : 1 ≤ x
  · by_cases h2 : x ≤ 500
    · go_enter Try.func67, Try.ntmps67
      go_wp2
      go_ret
      exact ⟨ret_bool (by simp [h1, h2]), rfl⟩
    · go_enter Try.func67, Try.ntmps67
      go_wp2
      go_ret
      exact ⟨ret_bool (by simp [h2]), rfl⟩
  · have hd : decide (1 ≤ x) = false := by simpa using h1
    go_enter Try.func67, Try.ntmps67
    go_wp2
    go_ret
    exact ⟨ret_bool (by simp), rfl⟩

set_option maxHeartbeats 1600000 in
theorem iclip_any (s i n : Int) (v : Bool) (w : World) (hv : decide (COk (s, i, n)) = v) :
    Calls Try.prog 51 #[.agg #[.int .i64 s, .int .i64 i, .int .i64 n]] w fun e w' => e = .returned (.bool v) ∧ Below w.heap.size w w' := by
  rw [cok_dec] at hv
  subst hv
  by_cases n0 : n < 1
  · have hn' : decide (1 ≤ n) = false := by simp; omega
    go_enter Try.func51, Try.ntmps51
    go_wp2
    go_ret
    exact ⟨ret_bool (by simp [hn']), (Below.refl _ _).alloc (Nat.le_refl _) _⟩
  have n0' : decide (n < 1) = false := by simpa using n0
  by_cases n1 : 10000000 < n
  · have hn' : decide (n ≤ 10000000) = false := by simp; omega
    go_enter Try.func51, Try.ntmps51
    go_wp2
    go_ret
    exact ⟨ret_bool (by simp [hn']), (Below.refl _ _).alloc (Nat.le_refl _) _⟩
  have n1' : decide (10000000 < n) = false := by simpa using n1
  by_cases h0 : s = 0
  · subst h0
    go_enter Try.func51, Try.ntmps51
    go_wp2_with fail
    refine (gap_any 0 i n true _ rfl).mono ?_
    rintro e w1 ⟨rfl, hb⟩
    obtain ⟨B1, B2⟩ := bcell hb
    go_wp2
    go_ret
    refine ⟨ret_bool ?_, ((Below.refl _ _).alloc (Nat.le_refl _) _).trans (hb.mono (by simp))⟩
    by_cases hi : i = 0
    · subst hi; simp; omega
    · simp [hi]
  have h0' : decide (s = 0) = false := by simpa using h0
  by_cases h1 : 1 ≤ s ∧ s ≤ 500
  · by_cases i0 : 0 ≤ i
    · go_enter Try.func51, Try.ntmps51
      go_wp2_with fail
      refine (gap_any s i n false _ h0').mono ?_
      rintro e w1 ⟨rfl, hb⟩
      obtain ⟨B1, B2⟩ := bcell hb
      go_wp2_with fail
      refine (isrc_any s true _ (by simp; omega)).mono ?_
      rintro e w1 ⟨rfl, rfl⟩
      go_wp2
      go_ret
      refine ⟨ret_bool ?_, ((Below.refl _ _).alloc (Nat.le_refl _) _).trans (hb.mono (by simp))⟩
      by_cases hs : i + n ≤ 10000000
      · have : i ≤ 10000000 - n := by omega
        simp [hs, this]; omega
      · have : ¬ i ≤ 10000000 - n := by omega
        simp [hs, this]
    · have i0' : decide (0 ≤ i) = false := by simpa using i0
      go_enter Try.func51, Try.ntmps51
      go_wp2_with fail
      refine (gap_any s i n false _ h0').mono ?_
      rintro e w1 ⟨rfl, hb⟩
      obtain ⟨B1, B2⟩ := bcell hb
      go_wp2_with fail
      refine (isrc_any s true _ (by simp; omega)).mono ?_
      rintro e w1 ⟨rfl, rfl⟩
      go_wp2
      go_ret
      exact ⟨ret_bool (by simp [i0']), ((Below.refl _ _).alloc (Nat.le_refl _) _).trans (hb.mono (by simp))⟩
  · have h1' : (decide (1 ≤ s) && decide (s ≤ 500)) = false := by simp; omega
    go_enter Try.func51, Try.ntmps51
    go_wp2_with fail
    refine (gap_any s i n false _ h0').mono ?_
    rintro e w1 ⟨rfl, hb⟩
    obtain ⟨B1, B2⟩ := bcell hb
    go_wp2_with fail
    refine (isrc_any s false _ h1').mono ?_
    rintro e w1 ⟨rfl, rfl⟩
    go_wp2
    go_ret
    exact ⟨ret_bool (by simp [h1', h0']), ((Below.refl _ _).alloc (Nat.le_refl _) _).trans (hb.mono (by simp))⟩

end Go.Proofs.Ytfcjdempigoiiaa
