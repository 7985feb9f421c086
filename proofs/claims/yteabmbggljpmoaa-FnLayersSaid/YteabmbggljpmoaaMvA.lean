/-
  Contracts of the leaves over pictures: sides, moves, what lies within, elements; nothing that was there is written.
-/
import Derived.Test.YteabmbggljpmoaaPx1
import Derived.Stop.Asserts
namespace Go.Proofs.Yteabmbggljpmoaa
open Go.RowKit
set_option linter.unusedVariables false
set_option linter.unusedSimpArgs false

set_option maxHeartbeats 400000 in
theorem side_any (x : Int) (v : Bool) (w : World) (hv : (decide (1 ≤ x) && decide (x ≤ 64)) = v) :
    Calls Try.prog 67 #[.int .i64 x] w fun e w' => e = .returned (.bool v) ∧ w' = w := by
  subst hv
  by_cases h1 : 1 ≤ x
  · by_cases h2 : x ≤ 64
    · go_enter Try.func67, Try.ntmps67
      go_wp2
      go_ret
      exact ⟨ret_bool (by simp [h1, h2]), rfl⟩
    · have hd : decide (x ≤ 64) = false := by simpa using h2
      go_enter Try.func67, Try.ntmps67
      go_wp2
      go_ret
      exact ⟨ret_bool (by first | rfl | (rw [hd]; simp)), rfl⟩
  · have hd : decide (1 ≤ x) = false := by simpa using h1
    go_enter Try.func67, Try.ntmps67
    go_wp2
    go_ret
    exact ⟨ret_bool (by first | rfl | (rw [hd]; simp)), rfl⟩

set_option maxHeartbeats 400000 in
theorem move_any (x : Int) (v : Bool) (w : World) (hv : (decide (-10000000 ≤ x) && decide (x ≤ 10000000)) = v) :
    Calls Try.prog 59 #[.int .i64 x] w fun e w' => e = .returned (.bool v) ∧ w' = w := by
  subst hv
  by_cases h1 : -10000000 ≤ x
  · by_cases h2 : x ≤ 10000000
    · go_enter Try.func59, Try.ntmps59
      go_wp2
      go_ret
      exact ⟨ret_bool (by simp [h1, h2]), rfl⟩
    · have hd : decide (x ≤ 10000000) = false := by simpa using h2
      go_enter Try.func59, Try.ntmps59
      go_wp2
      go_ret
      exact ⟨ret_bool (by first | rfl | (rw [hd]; simp)), rfl⟩
  · have hd : decide (-10000000 ≤ x) = false := by simpa using h1
    go_enter Try.func59, Try.ntmps59
    go_wp2
    go_ret
    exact ⟨ret_bool (by first | rfl | (rw [hd]; simp)), rfl⟩

set_option maxHeartbeats 400000 in
theorem within_any (x n : Int) (v : Bool) (w : World) (hv : (decide (0 ≤ x) && decide (x < n)) = v) :
    Calls Try.prog 60 #[.int .i64 x, .int .i64 n] w fun e w' => e = .returned (.bool v) ∧ w' = w := by
  subst hv
  by_cases h1 : 0 ≤ x
  · by_cases h2 : x < n
    · go_enter Try.func60, Try.ntmps60
      go_wp2
      go_ret
      exact ⟨ret_bool (by simp [h1, h2]), rfl⟩
    · have hd : decide (x < n) = false := by simpa using h2
      go_enter Try.func60, Try.ntmps60
      go_wp2
      go_ret
      exact ⟨ret_bool (by first | rfl | (rw [hd]; simp)), rfl⟩
  · have hd : decide (0 ≤ x) = false := by simpa using h1
    go_enter Try.func60, Try.ntmps60
    go_wp2
    go_ret
    exact ⟨ret_bool (by first | rfl | (rw [hd]; simp)), rfl⟩

set_option maxHeartbeats 400000 in
theorem ifr_any (x : Int) (v : Bool) (w : World) (hv : (decide (0 ≤ x) && decide (x ≤ 10000000)) = v) :
    Calls Try.prog 69 #[.int .i64 x] w fun e w' => e = .returned (.bool v) ∧ w' = w := by
  subst hv
  by_cases h1 : 0 ≤ x
  · by_cases h2 : x ≤ 10000000
    · go_enter Try.func69, Try.ntmps69
      go_wp2
      go_ret
      exact ⟨ret_bool (by simp [h1, h2]), rfl⟩
    · have hd : decide (x ≤ 10000000) = false := by simpa using h2
      go_enter Try.func69, Try.ntmps69
      go_wp2
      go_ret
      exact ⟨ret_bool (by first | rfl | (rw [hd]; simp)), rfl⟩
  · have hd : decide (0 ≤ x) = false := by simpa using h1
    go_enter Try.func69, Try.ntmps69
    go_wp2
    go_ret
    exact ⟨ret_bool (by first | rfl | (rw [hd]; simp)), rfl⟩

set_option maxHeartbeats 400000 in
theorem by_any (x : Int) (v : Bool) (w : World) (hv : (decide (-10000000 ≤ x) && decide (x ≤ 10000000)) = v) :
    Calls Try.prog 61 #[.int .i64 x] w fun e w' => e = .returned (.bool v) ∧ w' = w := by
  go_enter Try.func61, Try.ntmps61
  go_wp2_with fail
  refine (in_any x (-10000000) 10000000 v _ hv).mono ?_
  rintro e w1 ⟨rfl, rfl⟩
  go_wp2
  go_ret
  exact ⟨rfl, rfl⟩

set_option maxHeartbeats 800000 in
theorem pixel_any (r g b a : Int) (w : World) : Calls Try.prog 86 #[ag4 r g b a] w fun e w' => e = .returned (ag4 r g b a) ∧ Below w.heap.size w w' := by
  go_enter Try.func86, Try.ntmps86
  go_wp2
  exact bodyPost_ret (v := ag4 r g b a) (by simp [results, Try.results86, go_sem]) rfl ⟨rfl, (((Below.refl _ _).alloc (Nat.le_refl _) _).alloc (by simp) _)⟩
set_option maxHeartbeats 800000 in
theorem depth_any (r g b a : Int) (w : World) : Calls Try.prog 70 #[.iface 25 (ag4 r g b a)] w fun e w' => e = .returned (.int .i64 0) ∧ w' = w := by
  have hno : ∀ (v : Value) (xT : TypeId) (w : World), (Instr.typeAssert (.iface 25 v) xT 73 true).run Try.prog w = .ok (.tuple #[.nilIface, .bool false]) w := fun v xT w => run_typeAssert_lacksB Try.underlying73 (by kernel_rfl) (by kernel_rfl) v xT w
  go_enter Try.func70, Try.ntmps70
  go_wp2
  go_ret
  exact ⟨rfl, rfl⟩
set_option maxHeartbeats 800000 in
theorem elem_any (r g b a : Int) (v : Bool) (w : World) (hv : decide (Pix (r, g, b, a)) = v) : Calls Try.prog 68 #[.iface 25 (ag4 r g b a)] w fun e w' => e = .returned (.bool v) ∧ Below w.heap.size w w' := by
  have hv' := hide hv
  clear hv
  go_enter Try.func68, Try.ntmps68
  go_wp2_with fail
  refine (depth_any r g b a _).mono ?_
  rintro e w1 ⟨rfl, hw1⟩
  have hw2 := hw1.symm
  subst hw2
  go_wp2_with fail
  refine (ifr_any 0 true _ (by decide)).mono ?_
  rintro e w1 ⟨rfl, hw1⟩
  have hw2 := hw1.symm
  subst hw2
  go_wp2_with fail
  refine (pixel_any r g b a _).mono ?_
  rintro e w1 ⟨rfl, hb1⟩
  have h1 := hide hb1
  clear hb1
  go_wp2_with fail
  refine (ipx_any r g b a v _ (unhide hv')).mono ?_
  rintro e w2 ⟨rfl, hb2⟩
  have h2 := hide (laterB (unhide h1) hb2)
  clear hb2
  go_wp2
  go_ret
  exact ⟨ret_bool (by simp), unhide h2⟩

end Go.Proofs.Yteabmbggljpmoaa
