/-
  Contracts of RateOk and Base, of the program and of its model, for every rate: each answers whether the rate is right, and its base.
  Contracts of RateOk, Base, isFrame and of the law's copy of a rate, joined, for every rate: what each answers, and that nothing that was there is written.
  Contracts of Instant and FrameIn, of the program and of its model, for every argument: what each answers, and that nothing that was there is written.
-/
import Derived.Test.YtfhbmfndjbdhcaaGreatDoorProg
import Derived.Test.YtfhbmfndjbdhcaaGreatDoorLrQ
import Derived.Test.YtfhbmfndjbdhcaaGreatDoorMem
import Derived.WalkKit
import Derived.WalkSpells
import Derived.WalkLawsBesides
import Derived.Deep.QuietTactic
import Derived.BigQuiet
namespace Go.Proofs.YtfhbmfndjbdhcaaGreatDoor
open Go.RowKit

set_option maxHeartbeats 400000 in
theorem in_anyR (x lo hi : Int) (w : World) :
    Calls Tryz.prog 44 #[.int .i64 x, .int .i64 lo, .int .i64 hi] w fun e w' => e = .returned (.bool (decide (lo ≤ x) && decide (x ≤ hi))) ∧ w' = w := by
  by_cases h1 : lo ≤ x
  · by_cases h2 : x ≤ hi
    · go_enter Tryz.func44, Tryz.ntmps44
      go_wp2
      go_ret
      exact ⟨ret_bool (by simp [h1, h2]), rfl⟩
    · go_enter Tryz.func44, Tryz.ntmps44
      go_wp2
      go_ret
      exact ⟨ret_bool (by simp [h2]), rfl⟩
  · have hd : decide (lo ≤ x) = false := by simpa using h1
    go_enter Tryz.func44, Tryz.ntmps44
    go_wp2
    go_ret
    exact ⟨ret_bool (by simp), rfl⟩

set_option maxHeartbeats 400000 in
theorem abs_any (x : Int) (w : World) (h0 : 0 ≤ x) :
    Calls Tryz.prog 76 #[.int .i64 x] w fun e w' => e = .returned (.int .i64 x) ∧ w' = w := by
  have h : ¬ x < 0 := by omega
  go_enter Tryz.func76, Tryz.ntmps76
  go_wp2
  go_ret
  exact ⟨rfl, rfl⟩

set_option maxHeartbeats 400000 in
theorem gcd_any (a b : Int) (w : World) (ha : 0 ≤ a) (ha' : a ≤ 9223372036854775807) (hb : 0 ≤ b) (hb' : b ≤ 9223372036854775807) :
    Calls Tryz.prog 45 #[.int .i64 a, .int .i64 b] w fun e w' => e = .returned (.int .i64 (Pl.gc a b)) ∧ w' = w := by
  go_enter Tryz.func45, Tryz.ntmps45
  go_wp2_with (go_at_call 76; refine (abs_any _ _ (by omega)).mono ?_; rintro e w' ⟨rfl, rfl⟩)
  go_loop [0, 1] (fun s t => ∃ x y : Int, 0 ≤ x ∧ x ≤ 9223372036854775807 ∧ 0 ≤ y ∧ y ≤ 9223372036854775807 ∧ s = .int .i64 x ∧ t = .int .i64 y ∧ Hid (Pl.gc x y = Pl.gc a b)) (fun _ t => (intOf t).toNat)
  case atStart => exact ⟨a, b, ha, ha', hb, hb', rfl, rfl, hide rfl⟩
  case round =>
    obtain ⟨x, y, hx, hx', hy, hy', rfl, rfl, hg⟩ := hrel
    by_cases h0 : y = 0
    · have hn : (y != 0) = false := by simp [h0]
      have hfin : Hid (x = Pl.gc a b) := hide (by rw [← unhide hg, h0, Pl.gc_zero hx])
      subst h0
      go_wp2
      go_ret
      exact ⟨ret_int (unhide hfin), rfl⟩
    · have hn : (y != 0) = true := by simp [h0]
      have h1 := Int.emod_nonneg x h0
      have h2 := Int.emod_lt_of_pos x (show 0 < y by omega)
      go_wp2
      go_round
      case rel => exact ⟨y, x % y, hy, hy', h1, by omega, rfl, rfl, hide (by rw [Pl.gc_step]; exact unhide hg)⟩
      case measure => simp [intOf]; omega

set_option maxHeartbeats 400000 in
theorem div_any (a b : Int) (w : World) (ha : 0 ≤ a) (ha' : a ≤ 9223372036854775807) (hb : 0 ≤ b) (hb' : b ≤ 9223372036854775807) :
    Calls Tryz.prog 77 #[.int .i64 a, .int .i64 b] w fun e w' => e = .returned (.int .i64 (Pl.gc a b)) ∧ ∃ n, w' = w.drewN n := by
  go_enter Tryz.func77, Tryz.ntmps77
  go_wp2
  go_loopw [0, 1] (fun s t w' => ∃ x y : Int, 0 ≤ x ∧ x ≤ 9223372036854775807 ∧ 0 ≤ y ∧ y ≤ 9223372036854775807 ∧ s = .int .i64 x ∧ t = .int .i64 y ∧ Hid (Pl.gc x y = Pl.gc a b) ∧ ∃ n, w' = w.drewN n) (fun _ t _ => (intOf t).toNat)
  case atStart => exact ⟨a, b, ha, ha', hb, hb', rfl, rfl, hide rfl, 0, rfl⟩
  case round =>
    obtain ⟨x, y, hx, hx', hy, hy', rfl, rfl, hg, n, rfl⟩ := hrel
    by_cases h0 : y = 0
    · have hn : (y != 0) = false := by simp [h0]
      have hfin : Hid (x = Pl.gc a b) := hide (by rw [← unhide hg, h0, Pl.gc_zero hx])
      subst h0
      go_wp2
      go_ret
      exact ⟨ret_int (unhide hfin), n, rfl⟩
    · have hn : (y != 0) = true := by simp [h0]
      have h1 := Int.emod_nonneg x h0
      have h2 := Int.emod_lt_of_pos x (show 0 < y by omega)
      go_wp2
      go_quiet (fail)
      go_wp2
      go_roundw
      case rel => exact ⟨y, x % y, hy, hy', h1, by omega, rfl, rfl, hide (by rw [Pl.gc_step]; exact unhide hg), n + nq, World.drewN_drewN _ _ _⟩
      case measure => simp [intOf]; omega

theorem in_val (x lo hi : Int) (v : Bool) (hv : (decide (lo ≤ x) && decide (x ≤ hi)) = v) (w : World) :
    Calls Tryz.prog 44 #[.int .i64 x, .int .i64 lo, .int .i64 hi] w fun e w' => e = .returned (.bool v) ∧ w' = w := by
  subst hv; exact in_anyR x lo hi w

set_option maxHeartbeats 400000 in
theorem srok_no1 (n d : Int) (dr : Bool) (w : World) (h : ¬ (1 ≤ n ∧ n ≤ 240000)) :
    Calls Tryz.prog 24 #[.agg #[.int .i64 n, .int .i64 d, .bool dr]] w fun e w' => e = .returned (.bool false) ∧ Below w.heap.size w w' := by
  have hv : (decide (1 ≤ n) && decide (n ≤ 240000)) = false := by simp; omega
  have c1 := in_val n 1 240000 false hv
  clear hv
  go_enter Tryz.func24, Tryz.ntmps24
  go_wp2_with (go_at_call 44; refine (c1 _).mono ?_; rintro e w' ⟨rfl, rfl⟩)
  go_ret
  exact ⟨rfl, (Below.refl _ _).alloc (Nat.le_refl _) _⟩

set_option maxHeartbeats 400000 in
theorem srok_no2 (n d : Int) (dr : Bool) (w : World) (h : 1 ≤ n ∧ n ≤ 240000) (h2 : ¬ (1 ≤ d ∧ d ≤ 1001)) :
    Calls Tryz.prog 24 #[.agg #[.int .i64 n, .int .i64 d, .bool dr]] w fun e w' => e = .returned (.bool false) ∧ Below w.heap.size w w' := by
  have hv : (decide (1 ≤ n) && decide (n ≤ 240000)) = true := by simp; omega
  have hv2 : (decide (1 ≤ d) && decide (d ≤ 1001)) = false := by simp; omega
  have c1 := in_val n 1 240000 true hv
  have c2 := in_val d 1 1001 false hv2
  clear hv hv2
  go_enter Tryz.func24, Tryz.ntmps24
  go_wp2_with fail
  refine (c1 _).mono ?_
  rintro e w' ⟨rfl, rfl⟩
  go_wp2_with fail
  refine (c2 _).mono ?_
  rintro e w' ⟨rfl, rfl⟩
  go_wp2
  go_ret
  exact ⟨rfl, (Below.refl _ _).alloc (Nat.le_refl _) _⟩

set_option maxHeartbeats 400000 in
theorem srok_no3 (n d : Int) (dr : Bool) (w : World) (h : 1 ≤ n ∧ n ≤ 240000 ∧ 1 ≤ d ∧ d ≤ 1001) (hg : (Pl.gc n d != 1) = true) :
    Calls Tryz.prog 24 #[.agg #[.int .i64 n, .int .i64 d, .bool dr]] w fun e w' => e = .returned (.bool false) ∧ Below w.heap.size w w' := by
  have hv : (decide (1 ≤ n) && decide (n ≤ 240000)) = true := by simp; omega
  have hv2 : (decide (1 ≤ d) && decide (d ≤ 1001)) = true := by simp; omega
  have c1 := in_val n 1 240000 true hv
  have c2 := in_val d 1 1001 true hv2
  clear hv hv2
  obtain ⟨b1, b2, b3, b4⟩ := h
  go_enter Tryz.func24, Tryz.ntmps24
  go_wp2_with fail
  refine (c1 _).mono ?_
  rintro e w' ⟨rfl, rfl⟩
  go_wp2_with fail
  refine (c2 _).mono ?_
  rintro e w' ⟨rfl, rfl⟩
  go_wp2_with fail
  refine (gcd_any n d _ (by omega) (by omega) (by omega) (by omega)).mono ?_
  rintro e w' ⟨rfl, rfl⟩
  go_wp2
  go_ret
  exact ⟨rfl, (Below.refl _ _).alloc (Nat.le_refl _) _⟩

set_option maxHeartbeats 400000 in
theorem srok_no4 (n d : Int) (dr : Bool) (w : World) (h : 1 ≤ n ∧ n ≤ 240000 ∧ 1 ≤ d ∧ d ≤ 1001) (hg : (Pl.gc n d != 1) = false) (hq : ¬ n ≤ 120 * d) :
    Calls Tryz.prog 24 #[.agg #[.int .i64 n, .int .i64 d, .bool dr]] w fun e w' => e = .returned (.bool false) ∧ Below w.heap.size w w' := by
  have hv : (decide (1 ≤ n) && decide (n ≤ 240000)) = true := by simp; omega
  have hv2 : (decide (1 ≤ d) && decide (d ≤ 1001)) = true := by simp; omega
  have c1 := in_val n 1 240000 true hv
  have c2 := in_val d 1 1001 true hv2
  clear hv hv2
  obtain ⟨b1, b2, b3, b4⟩ := h
  have hq' : 120 * d < n := by omega
  go_enter Tryz.func24, Tryz.ntmps24
  go_wp2_with fail
  refine (c1 _).mono ?_
  rintro e w' ⟨rfl, rfl⟩
  go_wp2_with fail
  refine (c2 _).mono ?_
  rintro e w' ⟨rfl, rfl⟩
  go_wp2_with fail
  refine (gcd_any n d _ (by omega) (by omega) (by omega) (by omega)).mono ?_
  rintro e w' ⟨rfl, rfl⟩
  go_wp2
  go_ret
  exact ⟨rfl, (Below.refl _ _).alloc (Nat.le_refl _) _⟩

set_option maxHeartbeats 400000 in
theorem srok_plain (n d : Int) (w : World) (h : 1 ≤ n ∧ n ≤ 240000 ∧ 1 ≤ d ∧ d ≤ 1001) (hg : (Pl.gc n d != 1) = false) (hq : n ≤ 120 * d) :
    Calls Tryz.prog 24 #[.agg #[.int .i64 n, .int .i64 d, .bool false]] w fun e w' => e = .returned (.bool true) ∧ Below w.heap.size w w' := by
  have hv : (decide (1 ≤ n) && decide (n ≤ 240000)) = true := by simp; omega
  have hv2 : (decide (1 ≤ d) && decide (d ≤ 1001)) = true := by simp; omega
  have c1 := in_val n 1 240000 true hv
  have c2 := in_val d 1 1001 true hv2
  clear hv hv2
  obtain ⟨b1, b2, b3, b4⟩ := h
  have hq' : ¬ 120 * d < n := by omega
  go_enter Tryz.func24, Tryz.ntmps24
  go_wp2_with fail
  refine (c1 _).mono ?_
  rintro e w' ⟨rfl, rfl⟩
  go_wp2_with fail
  refine (c2 _).mono ?_
  rintro e w' ⟨rfl, rfl⟩
  go_wp2_with fail
  refine (gcd_any n d _ (by omega) (by omega) (by omega) (by omega)).mono ?_
  rintro e w' ⟨rfl, rfl⟩
  go_wp2
  go_ret
  exact ⟨rfl, (Below.refl _ _).alloc (Nat.le_refl _) _⟩

set_option maxHeartbeats 400000 in
theorem srok_d1 (n d : Int) (w : World) (h : 1 ≤ n ∧ n ≤ 240000 ∧ 1 ≤ d ∧ d ≤ 1001) (hg : (Pl.gc n d != 1) = false) (hq : n ≤ 120 * d) (hd : (d == 1001) = false) :
    Calls Tryz.prog 24 #[.agg #[.int .i64 n, .int .i64 d, .bool true]] w fun e w' => e = .returned (.bool false) ∧ Below w.heap.size w w' := by
  have hv : (decide (1 ≤ n) && decide (n ≤ 240000)) = true := by simp; omega
  have hv2 : (decide (1 ≤ d) && decide (d ≤ 1001)) = true := by simp; omega
  have c1 := in_val n 1 240000 true hv
  have c2 := in_val d 1 1001 true hv2
  clear hv hv2
  obtain ⟨b1, b2, b3, b4⟩ := h
  have hq' : ¬ 120 * d < n := by omega
  go_enter Tryz.func24, Tryz.ntmps24
  go_wp2_with fail
  refine (c1 _).mono ?_
  rintro e w' ⟨rfl, rfl⟩
  go_wp2_with fail
  refine (c2 _).mono ?_
  rintro e w' ⟨rfl, rfl⟩
  go_wp2_with fail
  refine (gcd_any n d _ (by omega) (by omega) (by omega) (by omega)).mono ?_
  rintro e w' ⟨rfl, rfl⟩
  go_wp2
  go_ret
  exact ⟨rfl, (Below.refl _ _).alloc (Nat.le_refl _) _⟩

set_option maxHeartbeats 400000 in
theorem srok_d2 (n d : Int) (w : World) (h : 1 ≤ n ∧ n ≤ 240000 ∧ 1 ≤ d ∧ d ≤ 1001) (hg : (Pl.gc n d != 1) = false) (hq : n ≤ 120 * d) (hd : (d == 1001) = true) (hn : (n == 30000) = true) :
    Calls Tryz.prog 24 #[.agg #[.int .i64 n, .int .i64 d, .bool true]] w fun e w' => e = .returned (.bool true) ∧ Below w.heap.size w w' := by
  have hv : (decide (1 ≤ n) && decide (n ≤ 240000)) = true := by simp; omega
  have hv2 : (decide (1 ≤ d) && decide (d ≤ 1001)) = true := by simp; omega
  have c1 := in_val n 1 240000 true hv
  have c2 := in_val d 1 1001 true hv2
  clear hv hv2
  obtain ⟨b1, b2, b3, b4⟩ := h
  have hq' : ¬ 120 * d < n := by omega
  go_enter Tryz.func24, Tryz.ntmps24
  go_wp2_with fail
  refine (c1 _).mono ?_
  rintro e w' ⟨rfl, rfl⟩
  go_wp2_with fail
  refine (c2 _).mono ?_
  rintro e w' ⟨rfl, rfl⟩
  go_wp2_with fail
  refine (gcd_any n d _ (by omega) (by omega) (by omega) (by omega)).mono ?_
  rintro e w' ⟨rfl, rfl⟩
  go_wp2
  go_ret
  exact ⟨rfl, (Below.refl _ _).alloc (Nat.le_refl _) _⟩

set_option maxHeartbeats 400000 in
theorem srok_d3 (n d : Int) (w : World) (h : 1 ≤ n ∧ n ≤ 240000 ∧ 1 ≤ d ∧ d ≤ 1001) (hg : (Pl.gc n d != 1) = false) (hq : n ≤ 120 * d) (hd : (d == 1001) = true) (hn : (n == 30000) = false) (hm : (n == 60000) = true) :
    Calls Tryz.prog 24 #[.agg #[.int .i64 n, .int .i64 d, .bool true]] w fun e w' => e = .returned (.bool true) ∧ Below w.heap.size w w' := by
  have hv : (decide (1 ≤ n) && decide (n ≤ 240000)) = true := by simp; omega
  have hv2 : (decide (1 ≤ d) && decide (d ≤ 1001)) = true := by simp; omega
  have c1 := in_val n 1 240000 true hv
  have c2 := in_val d 1 1001 true hv2
  clear hv hv2
  obtain ⟨b1, b2, b3, b4⟩ := h
  have hq' : ¬ 120 * d < n := by omega
  go_enter Tryz.func24, Tryz.ntmps24
  go_wp2_with fail
  refine (c1 _).mono ?_
  rintro e w' ⟨rfl, rfl⟩
  go_wp2_with fail
  refine (c2 _).mono ?_
  rintro e w' ⟨rfl, rfl⟩
  go_wp2_with fail
  refine (gcd_any n d _ (by omega) (by omega) (by omega) (by omega)).mono ?_
  rintro e w' ⟨rfl, rfl⟩
  go_wp2
  go_ret
  exact ⟨rfl, (Below.refl _ _).alloc (Nat.le_refl _) _⟩

set_option maxHeartbeats 400000 in
theorem srok_d4 (n d : Int) (w : World) (h : 1 ≤ n ∧ n ≤ 240000 ∧ 1 ≤ d ∧ d ≤ 1001) (hg : (Pl.gc n d != 1) = false) (hq : n ≤ 120 * d) (hd : (d == 1001) = true) (hn : (n == 30000) = false) (hm : (n == 60000) = false) :
    Calls Tryz.prog 24 #[.agg #[.int .i64 n, .int .i64 d, .bool true]] w fun e w' => e = .returned (.bool false) ∧ Below w.heap.size w w' := by
  have hv : (decide (1 ≤ n) && decide (n ≤ 240000)) = true := by simp; omega
  have hv2 : (decide (1 ≤ d) && decide (d ≤ 1001)) = true := by simp; omega
  have c1 := in_val n 1 240000 true hv
  have c2 := in_val d 1 1001 true hv2
  clear hv hv2
  obtain ⟨b1, b2, b3, b4⟩ := h
  have hq' : ¬ 120 * d < n := by omega
  go_enter Tryz.func24, Tryz.ntmps24
  go_wp2_with fail
  refine (c1 _).mono ?_
  rintro e w' ⟨rfl, rfl⟩
  go_wp2_with fail
  refine (c2 _).mono ?_
  rintro e w' ⟨rfl, rfl⟩
  go_wp2_with fail
  refine (gcd_any n d _ (by omega) (by omega) (by omega) (by omega)).mono ?_
  rintro e w' ⟨rfl, rfl⟩
  go_wp2
  go_ret
  exact ⟨rfl, (Below.refl _ _).alloc (Nat.le_refl _) _⟩

set_option maxHeartbeats 400000 in
theorem irok_n1 (n d : Int) (dr : Bool) (w : World) (h : n < 1)  :
    Calls Tryz.prog 50 #[.agg #[.int .i64 n, .int .i64 d, .bool dr]] w fun e w' => e = .returned (.bool false) ∧ Below w.heap.size w w' := by
  go_enter Tryz.func50, Tryz.ntmps50
  go_wp2
  go_ret
  exact ⟨rfl, (Below.refl _ _).alloc (Nat.le_refl _) _⟩

set_option maxHeartbeats 400000 in
theorem irok_n2 (n d : Int) (dr : Bool) (w : World) (h : ¬ n < 1) (h2 : 240000 < n)  :
    Calls Tryz.prog 50 #[.agg #[.int .i64 n, .int .i64 d, .bool dr]] w fun e w' => e = .returned (.bool false) ∧ Below w.heap.size w w' := by
  go_enter Tryz.func50, Tryz.ntmps50
  go_wp2
  go_ret
  exact ⟨rfl, (Below.refl _ _).alloc (Nat.le_refl _) _⟩

set_option maxHeartbeats 400000 in
theorem irok_n3 (n d : Int) (dr : Bool) (w : World) (h : ¬ n < 1) (h2 : ¬ 240000 < n) (h3 : d < 1)  :
    Calls Tryz.prog 50 #[.agg #[.int .i64 n, .int .i64 d, .bool dr]] w fun e w' => e = .returned (.bool false) ∧ Below w.heap.size w w' := by
  go_enter Tryz.func50, Tryz.ntmps50
  go_wp2
  go_ret
  exact ⟨rfl, (Below.refl _ _).alloc (Nat.le_refl _) _⟩

set_option maxHeartbeats 400000 in
theorem irok_n4 (n d : Int) (dr : Bool) (w : World) (h : ¬ n < 1) (h2 : ¬ 240000 < n) (h3 : ¬ d < 1) (h4 : 1001 < d)  :
    Calls Tryz.prog 50 #[.agg #[.int .i64 n, .int .i64 d, .bool dr]] w fun e w' => e = .returned (.bool false) ∧ Below w.heap.size w w' := by
  go_enter Tryz.func50, Tryz.ntmps50
  go_wp2
  go_ret
  exact ⟨rfl, (Below.refl _ _).alloc (Nat.le_refl _) _⟩

set_option maxHeartbeats 400000 in
theorem irok_no4 (n d : Int) (dr : Bool) (w : World) (h : 1 ≤ n ∧ n ≤ 240000 ∧ 1 ≤ d ∧ d ≤ 1001) (hq : ¬ n ≤ 120 * d) :
    Calls Tryz.prog 50 #[.agg #[.int .i64 n, .int .i64 d, .bool dr]] w fun e w' => e = .returned (.bool false) ∧ Below w.heap.size w w' := by
  obtain ⟨b1, b2, b3, b4⟩ := h
  have hq' : 120 * d < n := by omega
  go_enter Tryz.func50, Tryz.ntmps50
  go_wp2
  go_ret
  exact ⟨rfl, (Below.refl _ _).alloc (Nat.le_refl _) _⟩

set_option maxHeartbeats 400000 in
theorem irok_no3 (n d : Int) (dr : Bool) (w : World) (h : 1 ≤ n ∧ n ≤ 240000 ∧ 1 ≤ d ∧ d ≤ 1001) (hg : (Pl.gc n d != 1) = true) (hq : n ≤ 120 * d) :
    Calls Tryz.prog 50 #[.agg #[.int .i64 n, .int .i64 d, .bool dr]] w fun e w' => e = .returned (.bool false) ∧ Below w.heap.size w w' := by
  obtain ⟨b1, b2, b3, b4⟩ := h
  have hq' : ¬ 120 * d < n := by omega
  go_enter Tryz.func50, Tryz.ntmps50
  go_wp2_with fail
  refine (div_any n d _ (by omega) (by omega) (by omega) (by omega)).mono ?_
  rintro e w' ⟨rfl, q, rfl⟩
  go_wp2
  go_ret
  exact ⟨rfl, below_drewN ((Below.refl _ _).alloc (Nat.le_refl _) _) _⟩

set_option maxHeartbeats 400000 in
theorem irok_plain (n d : Int) (w : World) (h : 1 ≤ n ∧ n ≤ 240000 ∧ 1 ≤ d ∧ d ≤ 1001) (hg : (Pl.gc n d != 1) = false) (hq : n ≤ 120 * d) :
    Calls Tryz.prog 50 #[.agg #[.int .i64 n, .int .i64 d, .bool false]] w fun e w' => e = .returned (.bool true) ∧ Below w.heap.size w w' := by
  obtain ⟨b1, b2, b3, b4⟩ := h
  have hq' : ¬ 120 * d < n := by omega
  go_enter Tryz.func50, Tryz.ntmps50
  go_wp2_with fail
  refine (div_any n d _ (by omega) (by omega) (by omega) (by omega)).mono ?_
  rintro e w' ⟨rfl, q, rfl⟩
  go_wp2
  go_ret
  exact ⟨rfl, below_drewN ((Below.refl _ _).alloc (Nat.le_refl _) _) _⟩

set_option maxHeartbeats 400000 in
theorem irok_d1 (n d : Int) (w : World) (h : 1 ≤ n ∧ n ≤ 240000 ∧ 1 ≤ d ∧ d ≤ 1001) (hg : (Pl.gc n d != 1) = false) (hq : n ≤ 120 * d) (hd : (d == 1001) = false) :
    Calls Tryz.prog 50 #[.agg #[.int .i64 n, .int .i64 d, .bool true]] w fun e w' => e = .returned (.bool false) ∧ Below w.heap.size w w' := by
  obtain ⟨b1, b2, b3, b4⟩ := h
  have hq' : ¬ 120 * d < n := by omega
  go_enter Tryz.func50, Tryz.ntmps50
  go_wp2_with fail
  refine (div_any n d _ (by omega) (by omega) (by omega) (by omega)).mono ?_
  rintro e w' ⟨rfl, q, rfl⟩
  go_wp2
  go_ret
  exact ⟨rfl, below_drewN ((Below.refl _ _).alloc (Nat.le_refl _) _) _⟩

set_option maxHeartbeats 400000 in
theorem irok_d2 (n d : Int) (w : World) (h : 1 ≤ n ∧ n ≤ 240000 ∧ 1 ≤ d ∧ d ≤ 1001) (hg : (Pl.gc n d != 1) = false) (hq : n ≤ 120 * d) (hd : (d == 1001) = true) (hn : (n == 30000) = true) :
    Calls Tryz.prog 50 #[.agg #[.int .i64 n, .int .i64 d, .bool true]] w fun e w' => e = .returned (.bool true) ∧ Below w.heap.size w w' := by
  obtain ⟨b1, b2, b3, b4⟩ := h
  have hq' : ¬ 120 * d < n := by omega
  go_enter Tryz.func50, Tryz.ntmps50
  go_wp2_with fail
  refine (div_any n d _ (by omega) (by omega) (by omega) (by omega)).mono ?_
  rintro e w' ⟨rfl, q, rfl⟩
  go_wp2
  go_ret
  exact ⟨rfl, below_drewN ((Below.refl _ _).alloc (Nat.le_refl _) _) _⟩

set_option maxHeartbeats 400000 in
theorem irok_d3 (n d : Int) (w : World) (h : 1 ≤ n ∧ n ≤ 240000 ∧ 1 ≤ d ∧ d ≤ 1001) (hg : (Pl.gc n d != 1) = false) (hq : n ≤ 120 * d) (hd : (d == 1001) = true) (hn : (n == 30000) = false) (hm : (n == 60000) = true) :
    Calls Tryz.prog 50 #[.agg #[.int .i64 n, .int .i64 d, .bool true]] w fun e w' => e = .returned (.bool true) ∧ Below w.heap.size w w' := by
  obtain ⟨b1, b2, b3, b4⟩ := h
  have hq' : ¬ 120 * d < n := by omega
  go_enter Tryz.func50, Tryz.ntmps50
  go_wp2_with fail
  refine (div_any n d _ (by omega) (by omega) (by omega) (by omega)).mono ?_
  rintro e w' ⟨rfl, q, rfl⟩
  go_wp2
  go_ret
  exact ⟨rfl, below_drewN ((Below.refl _ _).alloc (Nat.le_refl _) _) _⟩

set_option maxHeartbeats 400000 in
theorem irok_d4 (n d : Int) (w : World) (h : 1 ≤ n ∧ n ≤ 240000 ∧ 1 ≤ d ∧ d ≤ 1001) (hg : (Pl.gc n d != 1) = false) (hq : n ≤ 120 * d) (hd : (d == 1001) = true) (hn : (n == 30000) = false) (hm : (n == 60000) = false) :
    Calls Tryz.prog 50 #[.agg #[.int .i64 n, .int .i64 d, .bool true]] w fun e w' => e = .returned (.bool false) ∧ Below w.heap.size w w' := by
  obtain ⟨b1, b2, b3, b4⟩ := h
  have hq' : ¬ 120 * d < n := by omega
  go_enter Tryz.func50, Tryz.ntmps50
  go_wp2_with fail
  refine (div_any n d _ (by omega) (by omega) (by omega) (by omega)).mono ?_
  rintro e w' ⟨rfl, q, rfl⟩
  go_wp2
  go_ret
  exact ⟨rfl, below_drewN ((Below.refl _ _).alloc (Nat.le_refl _) _) _⟩

end Go.Proofs.YtfhbmfndjbdhcaaGreatDoor

namespace Go.Proofs.YtfhbmfndjbdhcaaGreatDoor
open Go.RowKit

theorem rok_in {n d : Int} {dr : Bool} (h : 1 ≤ n ∧ n ≤ 240000 ∧ 1 ≤ d ∧ d ≤ 1001) :
    Pl.rok n d dr = ((Pl.gc n d == 1) && decide (n ≤ 120 * d) && (!dr || (d == 1001 && (n == 30000 || n == 60000)))) := by
  obtain ⟨h1, h2, h3, h4⟩ := h
  simp [Pl.rok, h1, h2, h3, h4]
theorem rok_out {n d : Int} {dr : Bool} (h : ¬ (1 ≤ n ∧ n ≤ 240000 ∧ 1 ≤ d ∧ d ≤ 1001)) : Pl.rok n d dr = false := by
  cases hr : Pl.rok n d dr
  · rfl
  · have := Pl.rok_bd hr; omega

theorem srok_any (n d : Int) (dr : Bool) (w : World) :
    Calls Tryz.prog 24 #[.agg #[.int .i64 n, .int .i64 d, .bool dr]] w fun e w' => e = .returned (.bool (Pl.rok n d dr)) ∧ Below w.heap.size w w' := by
  by_cases h : 1 ≤ n ∧ n ≤ 240000 ∧ 1 ≤ d ∧ d ≤ 1001
  · rw [rok_in h]
    cases hg : Pl.gc n d != 1
    · have hg' : (Pl.gc n d == 1) = true := by simpa using hg
      by_cases hq : n ≤ 120 * d
      · rw [hg', decide_eq_true hq]
        cases dr
        · exact srok_plain n d w h hg hq
        · cases hd : d == 1001
          · exact srok_d1 n d w h hg hq hd
          · cases hn : n == 30000
            · cases hm : n == 60000
              · exact srok_d4 n d w h hg hq hd hn hm
              · exact srok_d3 n d w h hg hq hd hn hm
            · exact srok_d2 n d w h hg hq hd hn
      · rw [hg', decide_eq_false hq]
        exact srok_no4 n d dr w h hg hq
    · have hg' : (Pl.gc n d == 1) = false := by simpa using hg
      rw [hg']
      exact srok_no3 n d dr w h hg
  · rw [rok_out h]
    by_cases h1 : 1 ≤ n ∧ n ≤ 240000
    · exact srok_no2 n d dr w h1 (by omega)
    · exact srok_no1 n d dr w h1

theorem irok_any (n d : Int) (dr : Bool) (w : World) :
    Calls Tryz.prog 50 #[.agg #[.int .i64 n, .int .i64 d, .bool dr]] w fun e w' => e = .returned (.bool (Pl.rok n d dr)) ∧ Below w.heap.size w w' := by
  by_cases h : 1 ≤ n ∧ n ≤ 240000 ∧ 1 ≤ d ∧ d ≤ 1001
  · rw [rok_in h]
    by_cases hq : n ≤ 120 * d
    · rw [decide_eq_true hq]
      cases hg : Pl.gc n d != 1
      · have hg' : (Pl.gc n d == 1) = true := by simpa using hg
        rw [hg']
        cases dr
        · exact irok_plain n d w h hg hq
        · cases hd : d == 1001
          · exact irok_d1 n d w h hg hq hd
          · cases hn : n == 30000
            · cases hm : n == 60000
              · exact irok_d4 n d w h hg hq hd hn hm
              · exact irok_d3 n d w h hg hq hd hn hm
            · exact irok_d2 n d w h hg hq hd hn
      · have hg' : (Pl.gc n d == 1) = false := by simpa using hg
        rw [hg']
        exact irok_no3 n d dr w h hg hq
    · rw [decide_eq_false hq, Bool.and_false]
      exact irok_no4 n d dr w h hq
  · rw [rok_out h]
    by_cases h1 : n < 1
    · exact irok_n1 n d dr w h1
    by_cases h2 : 240000 < n
    · exact irok_n2 n d dr w h1 h2
    by_cases h3 : d < 1
    · exact irok_n3 n d dr w h1 h2 h3
    · exact irok_n4 n d dr w h1 h2 h3 (by omega)

set_option maxHeartbeats 400000 in
theorem sbase_no (n d : Int) (dr : Bool) (w : World) (h : Pl.rok n d dr = false) :
    Calls Tryz.prog 47 #[.agg #[.int .i64 n, .int .i64 d, .bool dr]] w fun e w' => e = .returned (.int .i64 0) ∧ Below w.heap.size w w' := by
  have c := srok_any n d dr
  rw [h] at c
  have c' := hide c
  clear c
  go_enter Tryz.func47, Tryz.ntmps47
  go_wp2_with fail
  refine (unhide c' _).mono ?_
  rintro e w1 ⟨rfl, hb⟩
  go_wp2
  go_ret
  exact ⟨rfl, ((Below.refl _ _).alloc (Nat.le_refl _) _).trans (hb.mono (by simp))⟩

set_option maxHeartbeats 400000 in
theorem sbase_yes (n d : Int) (dr : Bool) (w : World) (h : Pl.rok n d dr = true) :
    Calls Tryz.prog 47 #[.agg #[.int .i64 n, .int .i64 d, .bool dr]] w fun e w' => e = .returned (.int .i64 ((n + d - 1) / d)) ∧ Below w.heap.size w w' := by
  have c := srok_any n d dr
  obtain ⟨b1, b2, b3, b4, b5⟩ := Pl.rok_bd h
  rw [h] at c
  have c' := hide c
  clear c h
  go_enter Tryz.func47, Tryz.ntmps47
  go_wp2_with fail
  refine (unhide c' _).mono ?_
  rintro e w1 ⟨rfl, hb⟩
  obtain ⟨hc, hf⟩ := bcell hb
  go_wp2
  go_ret
  exact ⟨rfl, ((Below.refl _ _).alloc (Nat.le_refl _) _).trans (hb.mono (by simp))⟩

set_option maxHeartbeats 400000 in
theorem ibase_no (n d : Int) (dr : Bool) (w : World) (h : Pl.rok n d dr = false) :
    Calls Tryz.prog 67 #[.agg #[.int .i64 n, .int .i64 d, .bool dr]] w fun e w' => e = .returned (.int .i64 0) ∧ Below w.heap.size w w' := by
  have c := irok_any n d dr
  rw [h] at c
  have c' := hide c
  clear c
  go_enter Tryz.func67, Tryz.ntmps67
  go_wp2_with fail
  refine (unhide c' _).mono ?_
  rintro e w1 ⟨rfl, hb⟩
  go_wp2
  go_ret
  exact ⟨rfl, ((Below.refl _ _).alloc (Nat.le_refl _) _).trans (hb.mono (by simp))⟩

set_option maxHeartbeats 400000 in
theorem ibase_yes (n d : Int) (dr : Bool) (w : World) (h : Pl.rok n d dr = true) :
    Calls Tryz.prog 67 #[.agg #[.int .i64 n, .int .i64 d, .bool dr]] w fun e w' => e = .returned (.int .i64 ((n + d - 1) / d)) ∧ Below w.heap.size w w' := by
  have c := irok_any n d dr
  obtain ⟨b1, b2, b3, b4, b5⟩ := Pl.rok_bd h
  rw [h] at c
  have c' := hide c
  clear c h
  go_enter Tryz.func67, Tryz.ntmps67
  go_wp2_with fail
  refine (unhide c' _).mono ?_
  rintro e w1 ⟨rfl, hb⟩
  obtain ⟨hc, hf⟩ := bcell hb
  go_wp2
  go_ret
  exact ⟨rfl, ((Below.refl _ _).alloc (Nat.le_refl _) _).trans (hb.mono (by simp))⟩

theorem sbase_any (n d : Int) (dr : Bool) (w : World) :
    Calls Tryz.prog 47 #[.agg #[.int .i64 n, .int .i64 d, .bool dr]] w fun e w' => e = .returned (.int .i64 (Pl.base n d dr)) ∧ Below w.heap.size w w' := by
  cases h : Pl.rok n d dr
  · have e : Pl.base n d dr = 0 := by simp [Pl.base, h]
    rw [e]; exact sbase_no n d dr w h
  · have e : Pl.base n d dr = (n + d - 1) / d := by simp [Pl.base, h]
    rw [e]; exact sbase_yes n d dr w h
theorem ibase_any (n d : Int) (dr : Bool) (w : World) :
    Calls Tryz.prog 67 #[.agg #[.int .i64 n, .int .i64 d, .bool dr]] w fun e w' => e = .returned (.int .i64 (Pl.base n d dr)) ∧ Below w.heap.size w w' := by
  cases h : Pl.rok n d dr
  · have e : Pl.base n d dr = 0 := by simp [Pl.base, h]
    rw [e]; exact ibase_no n d dr w h
  · have e : Pl.base n d dr = (n + d - 1) / d := by simp [Pl.base, h]
    rw [e]; exact ibase_yes n d dr w h

set_option maxHeartbeats 400000 in
theorem iframe_any (f : Int) (w : World) :
    Calls Tryz.prog 68 #[.int .i64 f] w fun e w' => e = .returned (.bool (Pl.isf f)) ∧ w' = w := by
  by_cases h1 : 0 ≤ f
  · by_cases h2 : f ≤ 10000000
    · rw [Pl.isf_mk ⟨h1, h2⟩]
      go_enter Tryz.func68, Tryz.ntmps68
      go_wp2
      go_ret
      exact ⟨rfl, rfl⟩
    · rw [Pl.isf_no (by omega)]
      go_enter Tryz.func68, Tryz.ntmps68
      go_wp2
      go_ret
      exact ⟨ret_bool (by simp), rfl⟩
  · rw [Pl.isf_no (by omega)]
    have hd : decide (0 ≤ f) = false := by simpa using h1
    go_enter Tryz.func68, Tryz.ntmps68
    go_wp2
    go_ret
    exact ⟨rfl, rfl⟩

set_option maxHeartbeats 400000 in
theorem sframe_any (f : Int) (w : World) :
    Calls Tryz.prog 48 #[.int .i64 f] w fun e w' => e = .returned (.bool (Pl.isf f)) ∧ w' = w := by
  have c := in_val f 0 10000000 (Pl.isf f) rfl
  go_enter Tryz.func48, Tryz.ntmps48
  go_wp2_with (go_at_call 44; refine (c _).mono ?_; rintro e w' ⟨rfl, rfl⟩)
  go_ret
  exact ⟨rfl, rfl⟩

end Go.Proofs.YtfhbmfndjbdhcaaGreatDoor

namespace Go.Proofs.YtfhbmfndjbdhcaaGreatDoor
open Go.RowKit
set_option linter.unusedVariables false

theorem frame_val (k : Nat) (hk : ∀ (f : Int) (w : World), Calls Tryz.prog k #[.int .i64 f] w fun e w' => e = .returned (.bool (Pl.isf f)) ∧ w' = w) (f : Int) (v : Bool) (hv : Pl.isf f = v) (w : World) :
    Calls Tryz.prog k #[.int .i64 f] w fun e w' => e = .returned (.bool v) ∧ w' = w := by subst hv; exact hk f w
theorem rok_val (k : Nat) (hk : ∀ (n d : Int) (dr : Bool) (w : World), Calls Tryz.prog k #[.agg #[.int .i64 n, .int .i64 d, .bool dr]] w fun e w' => e = .returned (.bool (Pl.rok n d dr)) ∧ Below w.heap.size w w') (n d : Int) (dr : Bool) (v : Bool) (hv : Pl.rok n d dr = v) (w : World) :
    Calls Tryz.prog k #[.agg #[.int .i64 n, .int .i64 d, .bool dr]] w fun e w' => e = .returned (.bool v) ∧ Below w.heap.size w w' := by subst hv; exact hk n d dr w

theorem below_box {w w1 : World} {o : Obj} (hb : Below (w.alloc o).heap.size (w.alloc o) w1) : Below w.heap.size w w1 :=
  ((Below.refl _ _).alloc (Nat.le_refl _) _).trans (hb.mono (by simp))

end Go.Proofs.YtfhbmfndjbdhcaaGreatDoor
