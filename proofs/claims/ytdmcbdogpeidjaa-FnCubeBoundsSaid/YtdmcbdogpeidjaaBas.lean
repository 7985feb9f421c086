/-
  Contracts of the leaves, the model's and the program's: bounds, the less and the greater of two, quotients rounded down and rounded, levels, colours, where a value lies among stretches; nothing that was there is written.
-/
import Derived.Test.YtdmcbdogpeidjaaIMem
import Derived.Lib.MinMax
namespace Go.Proofs.Ytdmcbdogpeidjaa
open Go.RowKit
set_option linter.unusedVariables false
set_option linter.unusedSimpArgs false

set_option maxHeartbeats 400000 in
theorem in_any (x lo hi : Int) (v : Bool) (w : World) (hv : (decide (lo ≤ x) && decide (x ≤ hi)) = v) :
    Calls Try.prog 47 #[.int .i64 x, .int .i64 lo, .int .i64 hi] w fun e w' => e = .returned (.bool v) ∧ w' = w := by
  subst hv
  by_cases h1 : lo ≤ x
  · by_cases h2 : x ≤ hi
    · go_enter Try.func47, Try.ntmps47
      go_wp2
      go_ret
      exact ⟨ret_bool (by simp [h1, h2]), rfl⟩
    · go_enter Try.func47, Try.ntmps47
      go_wp2
      go_ret
      exact ⟨ret_bool (by simp [h2]), rfl⟩
  · have hd : decide (lo ≤ x) = false := by simpa using h1
    go_enter Try.func47, Try.ntmps47
    go_wp2
    go_ret
    exact ⟨ret_bool (by simp), rfl⟩
theorem lv_dec (x : Int) : decide (LvOk x) = (decide (0 ≤ x) && decide (x ≤ 65535)) := by
  rw [Bool.eq_iff_iff, decide_eq_true_iff]
  simp [LvOk]
set_option maxHeartbeats 400000 in
theorem slv_any (x : Int) (v : Bool) (w : World) (hv : decide (LvOk x) = v) :
    Calls Try.prog 60 #[.int .i64 x] w fun e w' => e = .returned (.bool v) ∧ w' = w := by
  rw [lv_dec] at hv
  go_enter Try.func60, Try.ntmps60
  go_wp2_with fail
  refine (in_any x 0 65535 v _ hv).mono ?_
  rintro e w1 ⟨rfl, rfl⟩
  go_wp2
  go_ret
  exact ⟨rfl, rfl⟩
set_option maxHeartbeats 400000 in
theorem ilv_any (x : Int) (v : Bool) (w : World) (hv : decide (LvOk x) = v) :
    Calls Try.prog 62 #[.int .i64 x] w fun e w' => e = .returned (.bool v) ∧ w' = w := by
  rw [lv_dec] at hv
  subst hv
  by_cases h1 : 0 ≤ x
  · by_cases h2 : x ≤ 65535
    · go_enter Try.func62, Try.ntmps62
      go_wp2
      go_ret
      exact ⟨ret_bool (by simp [h1, h2]), rfl⟩
    · have hd : decide (x ≤ 65535) = false := by simpa using h2
      go_enter Try.func62, Try.ntmps62
      go_wp2
      go_ret
      exact ⟨ret_bool (by simp [h2]), rfl⟩
  · have hd : decide (0 ≤ x) = false := by simpa using h1
    go_enter Try.func62, Try.ntmps62
    go_wp2
    go_ret
    exact ⟨ret_bool (by simp [h1]), rfl⟩
set_option maxHeartbeats 400000 in
theorem side_any (x : Int) (v : Bool) (w : World) (hv : decide (2 ≤ x ∧ x ≤ 9) = v) :
    Calls Try.prog 66 #[.int .i64 x] w fun e w' => e = .returned (.bool v) ∧ w' = w := by
  subst hv
  by_cases h1 : 2 ≤ x
  · by_cases h2 : x ≤ 9
    · go_enter Try.func66, Try.ntmps66
      go_wp2
      go_ret
      exact ⟨ret_bool (by simp [h1, h2]), rfl⟩
    · have hd : decide (x ≤ 9) = false := by simpa using h2
      go_enter Try.func66, Try.ntmps66
      go_wp2
      go_ret
      exact ⟨ret_bool (by simp [h2]), rfl⟩
  · have hd : decide (2 ≤ x) = false := by simpa using h1
    go_enter Try.func66, Try.ntmps66
    go_wp2
    go_ret
    exact ⟨ret_bool (by simp [h1]), rfl⟩
theorem min_any (a b v : Int) (w : World) (hv : min a b = v) : Calls Try.prog 54 #[.int .i64 a, .int .i64 b] w fun e w' => e = .returned (.int .i64 v) ∧ w' = w := by
  subst hv
  by_cases h : a < b
  · go_enter Try.func54, Try.ntmps54
    go_wp2
    go_ret
    exact ⟨ret_int (by omega), rfl⟩
  · go_enter Try.func54, Try.ntmps54
    go_wp2
    go_ret
    exact ⟨ret_int (by omega), rfl⟩
theorem max_any (a b v : Int) (w : World) (hv : max a b = v) : Calls Try.prog 56 #[.int .i64 a, .int .i64 b] w fun e w' => e = .returned (.int .i64 v) ∧ w' = w := by
  subst hv
  by_cases h : b < a
  · go_enter Try.func56, Try.ntmps56
    go_wp2
    go_ret
    exact ⟨ret_int (by omega), rfl⟩
  · go_enter Try.func56, Try.ntmps56
    go_wp2
    go_ret
    exact ⟨ret_int (by omega), rfl⟩
theorem abs_any (a v : Int) (w : World) (hb : -1000000000 ≤ a ∧ a ≤ 1000000000) (hv : (a.natAbs : Int) = v) : Calls Try.prog 57 #[.int .i64 a] w fun e w' => e = .returned (.int .i64 v) ∧ w' = w := by
  subst hv
  obtain ⟨b0, b1⟩ := hb
  by_cases h : a < 0
  · go_enter Try.func57, Try.ntmps57
    go_wp2
    go_ret
    exact ⟨ret_int (by omega), rfl⟩
  · go_enter Try.func57, Try.ntmps57
    go_wp2
    go_ret
    exact ⟨ret_int (by omega), rfl⟩

set_option maxHeartbeats 400000 in
theorem down_any (x d v : Int) (w : World) (hd : 1 ≤ d) (hx : -100000000000000 ≤ x ∧ x ≤ 100000000000000) (hv : x / d = v) :
    Calls Try.prog 68 #[.int .i64 x, .int .i64 d] w fun e w' => e = .returned (.int .i64 v) ∧ w' = w := by
  have hb := div_bd hd hx
  have ht := tdiv_down (x := x) (d := d) (by omega)
  have h1 : IntKind.i64.wrap (x.tdiv d) = x.tdiv d := IntWalk.i64_quo' x d (by omega)
  have hmb := tmod_bd (x := x) hd
  have hd0 : d ≠ 0 := by omega
  by_cases h : x.tmod d < 0
  · rw [if_pos h] at ht
    have hd' : decide (x.tmod d < 0) = true := by simpa using h
    have h2 : IntKind.i64.wrap (x.tdiv d - 1) = v := by rw [ht, hv]; rw [IntKind.wrap_i64]; omega
    clear ht hb hmb hx
    go_enter Try.func68, Try.ntmps68
    go_wp2
    go_ret
    exact ⟨rfl, rfl⟩
  · rw [if_neg h] at ht
    have hd' : decide (x.tmod d < 0) = false := by simpa using h
    have h3 : IntKind.i64.wrap (x.tdiv d) = v := by rw [h1, ht, hv]
    clear hb hmb hx h1 ht hv
    go_enter Try.func68, Try.ntmps68
    go_wp2
    go_ret
    exact ⟨rfl, rfl⟩

set_option maxHeartbeats 400000 in
theorem idiv_any (x d v r : Int) (w : World) (hd : 1 ≤ d) (hd9 : d ≤ 100000000000000) (hx : -100000000000000 ≤ x ∧ x ≤ 100000000000000) (hv : x / d = v) (hr : x % d = r) :
    Calls Try.prog 67 #[.int .i64 x, .int .i64 d] w fun e w' => e = .returned (.tuple #[.int .i64 v, .int .i64 r]) ∧ w' = w := by
  have ht := tmod_up (x := x) (d := d) (by omega)
  have hmb := tmod_bd (x := x) hd
  have hq := rest_div (x := x) (d := d) (by omega)
  have hr0 : 0 ≤ x % d ∧ x % d < d := ⟨Int.emod_nonneg _ (by omega), Int.emod_lt_of_pos _ (by omega)⟩
  have hd0 : d ≠ 0 := by omega
  have hw1 : IntKind.i64.wrap (x - r) = x - r := by rw [IntKind.wrap_i64]; omega
  have hw2 : IntKind.i64.wrap ((x - r).tdiv d) = v := by rw [IntWalk.i64_quo' (x - r) d (by omega), ← hr, hq, hv]
  by_cases h : x.tmod d < 0
  · rw [if_pos h] at ht
    have hd' : decide (x.tmod d < 0) = true := by simpa using h
    have h2 : IntKind.i64.wrap (x.tmod d + d) = r := by rw [ht, hr]; rw [IntKind.wrap_i64]; omega
    clear ht hmb hx hr0 hq hr hv
    go_enter Try.func67, Try.ntmps67
    go_wp2
    exact bodyPost_ret (v := .tuple #[.int .i64 v, .int .i64 r]) (by simp [results, Try.results67, go_sem]) rfl ⟨rfl, rfl⟩
  · rw [if_neg h] at ht
    have hd' : decide (x.tmod d < 0) = false := by simpa using h
    have h2 : x.tmod d = r := by rw [ht, hr]
    have hd2 : decide (r < 0) = false := by simp; omega
    clear ht hmb hx hr0 hq hr hv h hd'
    go_enter Try.func67, Try.ntmps67
    go_wp2
    exact bodyPost_ret (v := .tuple #[.int .i64 v, .int .i64 r]) (by simp [results, Try.results67, go_sem]) rfl ⟨rfl, rfl⟩

set_option maxHeartbeats 400000 in
theorem srnd_any (x d v : Int) (w : World) (hd : 1 ≤ d) (hd9 : d ≤ 10000000000000) (hx : -10000000000000 ≤ x ∧ x ≤ 10000000000000) (hv : rnd x d = v) :
    Calls Try.prog 50 #[.int .i64 x, .int .i64 d] w fun e w' => e = .returned (.int .i64 v) ∧ w' = w := by
  obtain ⟨x0, x1⟩ := hx
  have hv' := hide hv
  clear hv
  go_enter Try.func50, Try.ntmps50
  go_wp2_with fail
  refine (down_any (2 * x + d) (2 * d) v _ (by omega) (by omega) (unhide hv')).mono ?_
  rintro e w1 ⟨rfl, rfl⟩
  go_wp2
  go_ret
  exact ⟨rfl, rfl⟩
set_option maxHeartbeats 400000 in
theorem irnd_any (x d v : Int) (w : World) (hd : 1 ≤ d) (hd9 : d ≤ 10000000000000) (hx : -10000000000000 ≤ x ∧ x ≤ 10000000000000) (hv : rnd x d = v) :
    Calls Try.prog 45 #[.int .i64 x, .int .i64 d] w fun e w' => e = .returned (.int .i64 v) ∧ w' = w := by
  obtain ⟨x0, x1⟩ := hx
  have hv' := hide hv
  clear hv
  go_enter Try.func45, Try.ntmps45
  go_wp2_with fail
  refine (idiv_any (2 * x + d) (2 * d) v ((2 * x + d) % (2 * d)) _ (by omega) (by omega) (by omega) (unhide hv') rfl).mono ?_
  rintro e w1 ⟨rfl, rfl⟩
  go_wp2
  go_ret
  exact ⟨rfl, rfl⟩

set_option maxHeartbeats 400000 in
theorem splace_any (v n i r : Int) (w : World) (hv : LvOk v) (hn : 1 ≤ n) (hn9 : n ≤ 1000) (hi : plI v n = i) (hr : plR v n = r) :
    Calls Try.prog 49 #[.int .i64 v, .int .i64 n] w fun e w' => e = .returned (.tuple #[.int .i64 i, .int .i64 r]) ∧ w' = w := by
  obtain ⟨f0, f1, f2, f3⟩ := pl_facts hv hn
  obtain ⟨v0, v1⟩ := hv
  obtain ⟨m0, m1⟩ := mul_nn (a := 65535) (b := 1000) ⟨v0, v1⟩ (show 0 ≤ n ∧ n ≤ 1000 by omega)
  have hi' : Hid (min (n - 1) (v * n / 65535) = i) := hide hi
  have hr' : Hid (v * n - i * 65535 = r) := hide (by rw [← hi]; exact hr)
  rw [hi] at f0 f1
  clear hi hr f2 f3
  go_enter Try.func49, Try.ntmps49
  go_wp2_with fail
  refine (min_any (n - 1) (v * n / 65535) i _ (unhide hi')).mono ?_
  rintro e w1 ⟨rfl, rfl⟩
  have q1 : IntKind.i64.wrap (v * n - i * 65535) = r := by rw [IntKind.wrap_i64, ← unhide hr']; omega
  go_wp2
  exact bodyPost_ret (v := .tuple #[.int .i64 i, .int .i64 r]) (by simp [results, Try.results49, go_sem, unhide hr']) rfl ⟨rfl, rfl⟩
set_option maxHeartbeats 400000 in
theorem ipart_any (v n i r : Int) (w : World) (hv : LvOk v) (hn : 1 ≤ n) (hn9 : n ≤ 1000) (hi : plI v n = i) (hr : plR v n = r) :
    Calls Try.prog 63 #[.int .i64 v, .int .i64 n] w fun e w' => e = .returned (.tuple #[.int .i64 i, .int .i64 r]) ∧ w' = w := by
  obtain ⟨f0, f1, f2, f3⟩ := pl_facts hv hn
  obtain ⟨v0, v1⟩ := hv
  obtain ⟨m0, m1⟩ := mul_nn (a := 65535) (b := 1000) ⟨v0, v1⟩ (show 0 ≤ n ∧ n ≤ 1000 by omega)
  have hi' : Hid (min (v * n / 65535) (n - 1) = i) := hide (by rw [← hi]; unfold plI; omega)
  have hr' : Hid (v * n - i * 65535 = r) := hide (by rw [← hi]; exact hr)
  rw [hi] at f0 f1
  clear hi hr f2 f3
  go_enter Try.func63, Try.ntmps63
  go_wp2
  have e1 := unhide hi'
  exact bodyPost_ret (v := .tuple #[.int .i64 i, .int .i64 r]) (by simp [results, Try.results63, go_sem, unhide hr', unhide hi']) rfl ⟨rfl, rfl⟩

theorem co_dec (a b c : Int) : decide (CoOk (a, b, c)) = (decide (LvOk a) && decide (LvOk b) && decide (LvOk c)) := by
  rw [Bool.eq_iff_iff, decide_eq_true_iff]
  simp [CoOk, and_assoc]
set_option maxHeartbeats 800000 in
theorem sco_any (a b c : Int) (v : Bool) (w : World) (hv : decide (CoOk (a, b, c)) = v) :
    Calls Try.prog 48 #[.agg #[.int .i64 a, .int .i64 b, .int .i64 c]] w fun e w' => e = .returned (.bool v) ∧ Below w.heap.size w w' := by
  rw [co_dec] at hv
  subst hv
  generalize hA : decide (LvOk a) = A
  generalize hB : decide (LvOk b) = B
  generalize hC : decide (LvOk c) = C
  have hA' := hide hA
  have hB' := hide hB
  have hC' := hide hC
  clear hA hB hC
  cases A
  · go_enter Try.func48, Try.ntmps48
    go_wp2_with fail
    refine (slv_any a _ _ (unhide hA')).mono ?_
    rintro e w1 ⟨rfl, hwA⟩
    have hw1 := hwA.symm
    subst hw1
    go_wp2
    go_ret
    exact ⟨rfl, (Below.refl _ _).alloc (Nat.le_refl _) _⟩
  cases B
  · go_enter Try.func48, Try.ntmps48
    go_wp2_with fail
    refine (slv_any a _ _ (unhide hA')).mono ?_
    rintro e w1 ⟨rfl, hwA⟩
    have hw1 := hwA.symm
    subst hw1
    go_wp2_with fail
    refine (slv_any b _ _ (unhide hB')).mono ?_
    rintro e w1 ⟨rfl, hwB⟩
    have hw1 := hwB.symm
    subst hw1
    go_wp2
    go_ret
    exact ⟨rfl, (Below.refl _ _).alloc (Nat.le_refl _) _⟩
  · go_enter Try.func48, Try.ntmps48
    go_wp2_with fail
    refine (slv_any a _ _ (unhide hA')).mono ?_
    rintro e w1 ⟨rfl, hwA⟩
    have hw1 := hwA.symm
    subst hw1
    go_wp2_with fail
    refine (slv_any b _ _ (unhide hB')).mono ?_
    rintro e w1 ⟨rfl, hwB⟩
    have hw1 := hwB.symm
    subst hw1
    go_wp2_with fail
    refine (slv_any c _ _ (unhide hC')).mono ?_
    rintro e w1 ⟨rfl, hwC⟩
    have hw1 := hwC.symm
    subst hw1
    go_wp2
    go_ret
    exact ⟨rfl, (Below.refl _ _).alloc (Nat.le_refl _) _⟩
set_option maxHeartbeats 800000 in
theorem ico_any (a b c : Int) (v : Bool) (w : World) (hv : decide (CoOk (a, b, c)) = v) :
    Calls Try.prog 40 #[.agg #[.int .i64 a, .int .i64 b, .int .i64 c]] w fun e w' => e = .returned (.bool v) ∧ Below w.heap.size w w' := by
  rw [co_dec] at hv
  subst hv
  generalize hA : decide (LvOk a) = A
  generalize hB : decide (LvOk b) = B
  generalize hC : decide (LvOk c) = C
  have hA' := hide hA
  have hB' := hide hB
  have hC' := hide hC
  clear hA hB hC
  cases A
  · go_enter Try.func40, Try.ntmps40
    go_wp2_with fail
    refine (ilv_any a _ _ (unhide hA')).mono ?_
    rintro e w1 ⟨rfl, hwA⟩
    have hw1 := hwA.symm
    subst hw1
    go_wp2
    go_ret
    exact ⟨rfl, (Below.refl _ _).alloc (Nat.le_refl _) _⟩
  cases B
  · go_enter Try.func40, Try.ntmps40
    go_wp2_with fail
    refine (ilv_any a _ _ (unhide hA')).mono ?_
    rintro e w1 ⟨rfl, hwA⟩
    have hw1 := hwA.symm
    subst hw1
    go_wp2_with fail
    refine (ilv_any b _ _ (unhide hB')).mono ?_
    rintro e w1 ⟨rfl, hwB⟩
    have hw1 := hwB.symm
    subst hw1
    go_wp2
    go_ret
    exact ⟨rfl, (Below.refl _ _).alloc (Nat.le_refl _) _⟩
  · go_enter Try.func40, Try.ntmps40
    go_wp2_with fail
    refine (ilv_any a _ _ (unhide hA')).mono ?_
    rintro e w1 ⟨rfl, hwA⟩
    have hw1 := hwA.symm
    subst hw1
    go_wp2_with fail
    refine (ilv_any b _ _ (unhide hB')).mono ?_
    rintro e w1 ⟨rfl, hwB⟩
    have hw1 := hwB.symm
    subst hw1
    go_wp2_with fail
    refine (ilv_any c _ _ (unhide hC')).mono ?_
    rintro e w1 ⟨rfl, hwC⟩
    have hw1 := hwC.symm
    subst hw1
    go_wp2
    go_ret
    exact ⟨rfl, (Below.refl _ _).alloc (Nat.le_refl _) _⟩
end Go.Proofs.Ytdmcbdogpeidjaa
