/-
  Contracts of Instant and FrameIn, of the program and of its model, for every argument: what each answers, and that nothing that was there is written.
-/
import Derived.Test.YtffibbcombjkcaaBase
namespace Go.Proofs.Ytffibbcombjkcaa
open Go.RowKit
set_option linter.unusedVariables false

theorem frame_val (k : Nat) (hk : ∀ (f : Int) (w : World), Calls Try.prog k #[.int .i64 f] w fun e w' => e = .returned (.bool (Pl.isf f)) ∧ w' = w) (f : Int) (v : Bool) (hv : Pl.isf f = v) (w : World) :
    Calls Try.prog k #[.int .i64 f] w fun e w' => e = .returned (.bool v) ∧ w' = w := by subst hv; exact hk f w
theorem rok_val (k : Nat) (hk : ∀ (n d : Int) (dr : Bool) (w : World), Calls Try.prog k #[.agg #[.int .i64 n, .int .i64 d, .bool dr]] w fun e w' => e = .returned (.bool (Pl.rok n d dr)) ∧ Below w.heap.size w w') (n d : Int) (dr : Bool) (v : Bool) (hv : Pl.rok n d dr = v) (w : World) :
    Calls Try.prog k #[.agg #[.int .i64 n, .int .i64 d, .bool dr]] w fun e w' => e = .returned (.bool v) ∧ Below w.heap.size w w' := by subst hv; exact hk n d dr w

theorem below_box {w w1 : World} {o : Obj} (hb : Below (w.alloc o).heap.size (w.alloc o) w1) : Below w.heap.size w w1 :=
  ((Below.refl _ _).alloc (Nat.le_refl _) _).trans (hb.mono (by simp))

set_option maxHeartbeats 400000 in
theorem iinst_r (n d : Int) (dr : Bool) (f u : Int) (w : World) (hr : Pl.rok n d dr = false) :
    Calls Try.prog 19 #[.agg #[.int .i64 n, .int .i64 d, .bool dr], .int .i64 f, .int .i64 u] w fun e w' => e = .returned (.int .i64 (-1)) ∧ Below w.heap.size w w' := by
  have cr := hide (rok_val 22 irok_any n d dr false hr)
  clear hr
  go_enter Try.func19, Try.ntmps19
  go_wp2_with fail
  refine (unhide cr _).mono ?_
  rintro e w1 ⟨rfl, hb⟩
  go_wp2
  go_ret
  exact ⟨rfl, below_box hb⟩

set_option maxHeartbeats 400000 in
theorem iinst_f (n d : Int) (dr : Bool) (f u : Int) (w : World) (hr : Pl.rok n d dr = true) (hf : Pl.isf f = false) :
    Calls Try.prog 19 #[.agg #[.int .i64 n, .int .i64 d, .bool dr], .int .i64 f, .int .i64 u] w fun e w' => e = .returned (.int .i64 (-1)) ∧ Below w.heap.size w w' := by
  have cr := hide (rok_val 22 irok_any n d dr true hr)
  clear hr
  have cf := hide (frame_val 30 iframe_any f false hf)
  clear hf
  go_enter Try.func19, Try.ntmps19
  go_wp2_with fail
  refine (unhide cr _).mono ?_
  rintro e w1 ⟨rfl, hb⟩
  go_wp2_with fail
  refine (unhide cf _).mono ?_
  rintro e w2 ⟨rfl, rfl⟩
  go_wp2
  go_ret
  exact ⟨rfl, below_box hb⟩

set_option maxHeartbeats 400000 in
theorem iinst_u1 (n d : Int) (dr : Bool) (f u : Int) (w : World) (hr : Pl.rok n d dr = true) (hf : Pl.isf f = true) (hu : u < 1) :
    Calls Try.prog 19 #[.agg #[.int .i64 n, .int .i64 d, .bool dr], .int .i64 f, .int .i64 u] w fun e w' => e = .returned (.int .i64 (-1)) ∧ Below w.heap.size w w' := by
  have cr := hide (rok_val 22 irok_any n d dr true hr)
  clear hr
  have cf := hide (frame_val 30 iframe_any f true hf)
  clear hf
  go_enter Try.func19, Try.ntmps19
  go_wp2_with fail
  refine (unhide cr _).mono ?_
  rintro e w1 ⟨rfl, hb⟩
  have hc := (bcell hb).1
  go_wp2_with fail
  refine (unhide cf _).mono ?_
  rintro e w2 ⟨rfl, rfl⟩
  go_wp2
  go_ret
  exact ⟨rfl, below_box hb⟩

set_option maxHeartbeats 400000 in
theorem iinst_u2 (n d : Int) (dr : Bool) (f u : Int) (w : World) (hr : Pl.rok n d dr = true) (hf : Pl.isf f = true) (hu : ¬ u < 1) (hu2 : 1000000 < u) :
    Calls Try.prog 19 #[.agg #[.int .i64 n, .int .i64 d, .bool dr], .int .i64 f, .int .i64 u] w fun e w' => e = .returned (.int .i64 (-1)) ∧ Below w.heap.size w w' := by
  have cr := hide (rok_val 22 irok_any n d dr true hr)
  clear hr
  have cf := hide (frame_val 30 iframe_any f true hf)
  clear hf
  go_enter Try.func19, Try.ntmps19
  go_wp2_with fail
  refine (unhide cr _).mono ?_
  rintro e w1 ⟨rfl, hb⟩
  have hc := (bcell hb).1
  go_wp2_with fail
  refine (unhide cf _).mono ?_
  rintro e w2 ⟨rfl, rfl⟩
  go_wp2
  go_ret
  exact ⟨rfl, below_box hb⟩

set_option maxHeartbeats 400000 in
theorem iinst_yes (n d : Int) (dr : Bool) (f u : Int) (w : World) (hr : Pl.rok n d dr = true) (hf : Pl.isf f = true) (hu : ¬ u < 1) (hu2 : ¬ 1000000 < u) :
    Calls Try.prog 19 #[.agg #[.int .i64 n, .int .i64 d, .bool dr], .int .i64 f, .int .i64 u] w fun e w' => e = .returned (.int .i64 (f * d * u / n)) ∧ Below w.heap.size w w' := by
  obtain ⟨b1, b2, b3, b4, b5⟩ := Pl.rok_bd hr
  obtain ⟨f1, f2⟩ := Pl.isf_bd hf
  obtain ⟨g1, g2⟩ := Pl.mul_bd f1 f2 (show 0 ≤ d by omega) b4
  obtain ⟨g3, g4⟩ := Pl.mul_bd g1 g2 (show 0 ≤ u by omega) (show u ≤ 1000000 by omega)
  have cr := hide (rok_val 22 irok_any n d dr true hr)
  clear hr
  have cf := hide (frame_val 30 iframe_any f true hf)
  clear hf
  go_enter Try.func19, Try.ntmps19
  go_wp2_with fail
  refine (unhide cr _).mono ?_
  rintro e w1 ⟨rfl, hb⟩
  have hc := (bcell hb).1
  go_wp2_with fail
  refine (unhide cf _).mono ?_
  rintro e w2 ⟨rfl, rfl⟩
  go_wp2
  go_ret
  exact ⟨rfl, below_box hb⟩

theorem iinst_any (n d : Int) (dr : Bool) (f u : Int) (w : World) :
    Calls Try.prog 19 #[.agg #[.int .i64 n, .int .i64 d, .bool dr], .int .i64 f, .int .i64 u] w fun e w' => e = .returned (.int .i64 (Pl.inst n d dr f u)) ∧ Below w.heap.size w w' := by
  unfold Pl.inst
  cases hr : Pl.rok n d dr
  · simp only [Bool.false_eq_true, false_and, if_false]; exact iinst_r n d dr f u w hr
  cases hf : Pl.isf f
  · simp only [Bool.false_eq_true, false_and, and_false, if_false]; exact iinst_f n d dr f u w hr hf
  by_cases hu : u < 1
  · rw [if_neg (by omega)]; exact iinst_u1 n d dr f u w hr hf hu
  by_cases hu2 : 1000000 < u
  · rw [if_neg (by omega)]; exact iinst_u2 n d dr f u w hr hf hu hu2
  · rw [if_pos ⟨rfl, rfl, by omega, by omega⟩]; exact iinst_yes n d dr f u w hr hf hu hu2

set_option maxHeartbeats 400000 in
theorem sinst_r (n d : Int) (dr : Bool) (f u : Int) (w : World) (hr : Pl.rok n d dr = false) :
    Calls Try.prog 26 #[.agg #[.int .i64 n, .int .i64 d, .bool dr], .int .i64 f, .int .i64 u] w fun e w' => e = .returned (.int .i64 (-1)) ∧ Below w.heap.size w w' := by
  have cr := hide (rok_val 20 srok_any n d dr false hr)
  clear hr
  go_enter Try.func26, Try.ntmps26
  go_wp2_with fail
  refine (unhide cr _).mono ?_
  rintro e w1 ⟨rfl, hb⟩
  go_wp2
  go_ret
  exact ⟨rfl, below_box hb⟩

set_option maxHeartbeats 400000 in
theorem sinst_f (n d : Int) (dr : Bool) (f u : Int) (w : World) (hr : Pl.rok n d dr = true) (hf : Pl.isf f = false) :
    Calls Try.prog 26 #[.agg #[.int .i64 n, .int .i64 d, .bool dr], .int .i64 f, .int .i64 u] w fun e w' => e = .returned (.int .i64 (-1)) ∧ Below w.heap.size w w' := by
  have cr := hide (rok_val 20 srok_any n d dr true hr)
  clear hr
  have cf := hide (frame_val 37 sframe_any f false hf)
  clear hf
  go_enter Try.func26, Try.ntmps26
  go_wp2_with fail
  refine (unhide cr _).mono ?_
  rintro e w1 ⟨rfl, hb⟩
  go_wp2_with fail
  refine (unhide cf _).mono ?_
  rintro e w2 ⟨rfl, rfl⟩
  go_wp2
  go_ret
  exact ⟨rfl, below_box hb⟩

set_option maxHeartbeats 400000 in
theorem sinst_u1 (n d : Int) (dr : Bool) (f u : Int) (w : World) (hr : Pl.rok n d dr = true) (hf : Pl.isf f = true) (hu : u < 1) :
    Calls Try.prog 26 #[.agg #[.int .i64 n, .int .i64 d, .bool dr], .int .i64 f, .int .i64 u] w fun e w' => e = .returned (.int .i64 (-1)) ∧ Below w.heap.size w w' := by
  have cr := hide (rok_val 20 srok_any n d dr true hr)
  clear hr
  have cf := hide (frame_val 37 sframe_any f true hf)
  clear hf
  have cu := hide (in_val u 1 1000000 false (by simp; omega))
  go_enter Try.func26, Try.ntmps26
  go_wp2_with fail
  refine (unhide cr _).mono ?_
  rintro e w1 ⟨rfl, hb⟩
  have hc := (bcell hb).1
  go_wp2_with fail
  refine (unhide cf _).mono ?_
  rintro e w2 ⟨rfl, rfl⟩
  go_wp2_with fail
  refine (unhide cu _).mono ?_
  rintro e w3 ⟨rfl, rfl⟩
  go_wp2
  go_ret
  exact ⟨rfl, below_box hb⟩

set_option maxHeartbeats 400000 in
theorem sinst_u2 (n d : Int) (dr : Bool) (f u : Int) (w : World) (hr : Pl.rok n d dr = true) (hf : Pl.isf f = true) (hu : ¬ u < 1) (hu2 : 1000000 < u) :
    Calls Try.prog 26 #[.agg #[.int .i64 n, .int .i64 d, .bool dr], .int .i64 f, .int .i64 u] w fun e w' => e = .returned (.int .i64 (-1)) ∧ Below w.heap.size w w' := by
  have cr := hide (rok_val 20 srok_any n d dr true hr)
  clear hr
  have cf := hide (frame_val 37 sframe_any f true hf)
  clear hf
  have cu := hide (in_val u 1 1000000 false (by simp; omega))
  go_enter Try.func26, Try.ntmps26
  go_wp2_with fail
  refine (unhide cr _).mono ?_
  rintro e w1 ⟨rfl, hb⟩
  have hc := (bcell hb).1
  go_wp2_with fail
  refine (unhide cf _).mono ?_
  rintro e w2 ⟨rfl, rfl⟩
  go_wp2_with fail
  refine (unhide cu _).mono ?_
  rintro e w3 ⟨rfl, rfl⟩
  go_wp2
  go_ret
  exact ⟨rfl, below_box hb⟩

set_option maxHeartbeats 400000 in
theorem sinst_yes (n d : Int) (dr : Bool) (f u : Int) (w : World) (hr : Pl.rok n d dr = true) (hf : Pl.isf f = true) (hu : ¬ u < 1) (hu2 : ¬ 1000000 < u) :
    Calls Try.prog 26 #[.agg #[.int .i64 n, .int .i64 d, .bool dr], .int .i64 f, .int .i64 u] w fun e w' => e = .returned (.int .i64 (f * d * u / n)) ∧ Below w.heap.size w w' := by
  obtain ⟨b1, b2, b3, b4, b5⟩ := Pl.rok_bd hr
  obtain ⟨f1, f2⟩ := Pl.isf_bd hf
  obtain ⟨g1, g2⟩ := Pl.mul_bd f1 f2 (show 0 ≤ d by omega) b4
  obtain ⟨g3, g4⟩ := Pl.mul_bd g1 g2 (show 0 ≤ u by omega) (show u ≤ 1000000 by omega)
  have cr := hide (rok_val 20 srok_any n d dr true hr)
  clear hr
  have cf := hide (frame_val 37 sframe_any f true hf)
  clear hf
  have cu := hide (in_val u 1 1000000 true (by simp; omega))
  go_enter Try.func26, Try.ntmps26
  go_wp2_with fail
  refine (unhide cr _).mono ?_
  rintro e w1 ⟨rfl, hb⟩
  have hc := (bcell hb).1
  go_wp2_with fail
  refine (unhide cf _).mono ?_
  rintro e w2 ⟨rfl, rfl⟩
  go_wp2_with fail
  refine (unhide cu _).mono ?_
  rintro e w3 ⟨rfl, rfl⟩
  go_wp2
  go_ret
  exact ⟨rfl, below_box hb⟩

theorem sinst_any (n d : Int) (dr : Bool) (f u : Int) (w : World) :
    Calls Try.prog 26 #[.agg #[.int .i64 n, .int .i64 d, .bool dr], .int .i64 f, .int .i64 u] w fun e w' => e = .returned (.int .i64 (Pl.inst n d dr f u)) ∧ Below w.heap.size w w' := by
  unfold Pl.inst
  cases hr : Pl.rok n d dr
  · simp only [Bool.false_eq_true, false_and, if_false]; exact sinst_r n d dr f u w hr
  cases hf : Pl.isf f
  · simp only [Bool.false_eq_true, false_and, and_false, if_false]; exact sinst_f n d dr f u w hr hf
  by_cases hu : u < 1
  · rw [if_neg (by omega)]; exact sinst_u1 n d dr f u w hr hf hu
  by_cases hu2 : 1000000 < u
  · rw [if_neg (by omega)]; exact sinst_u2 n d dr f u w hr hf hu hu2
  · rw [if_pos ⟨rfl, rfl, by omega, by omega⟩]; exact sinst_yes n d dr f u w hr hf hu hu2

end Go.Proofs.Ytffibbcombjkcaa
