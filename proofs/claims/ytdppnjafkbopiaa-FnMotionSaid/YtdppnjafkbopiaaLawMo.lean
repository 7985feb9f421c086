/-
  For every code: the motion that the program tells is the model's, of at most two pixels each way, and none of a picture in itself.
-/
import Derived.Test.YtdppnjafkbopiaaDrM
namespace Go.Proofs.Ytdppnjafkbopiaa
open Go.RowKit
set_option linter.unusedVariables false
set_option linter.unusedSimpArgs false
theorem bigM_any (a : Option Addr) (n c : Nat) (w : World) : Calls Try.prog 4 #[.slice a n c] w fun e w' => e = .returned (.bool (decide (4096 < n))) ∧ w' = w := by
  go_enter Try.func4, Try.ntmps4
  go_wp2
  go_ret
  exact ⟨ret_bool (by simp; omega), rfl⟩
theorem MoAns.bd {W H U V : Int} {l m : List Int} {n p q : Int} (h : MoAns W H U V l m n p q) : -2 ≤ p ∧ p ≤ 2 ∧ -2 ≤ q ∧ q ≤ 2 := by
  by_cases c : TwoOk W H U V l m ∧ 0 ≤ n ∧ n < nBl W H
  · exact (h.1 c).1
  · have := h.2 c; omega
theorem MoAns.self {W H : Int} {l : List Int} {n p q : Int} (h : MoAns W H W H l l n p q) : p = 0 ∧ q = 0 := by
  by_cases c : TwoOk W H W H l l ∧ 0 ≤ n ∧ n < nBl W H
  · exact best_self (h.1 c)
  · exact h.2 c
set_option maxRecDepth 100000 in
set_option maxHeartbeats 3200000 in
theorem lawMo {W : World} (a : Option Addr) (len cap : Nat) (hr : RdB W W.heap.size a len) :
    Calls Try.prog 3 #[.slice a len cap] W fun e w' => e = .returned (.bool true) ∧ Below W.heap.size W w' := by
  have hr' := hide hr
  clear hr
  go_enter Try.func3, Try.ntmps3
  go_wp2_with fail
  refine (bigM_any a len cap W).mono ?_
  rintro e w0 ⟨rfl, rfl⟩
  by_cases hb : 4096 < len
  · rw [decide_eq_true hb]
    go_wp2
    go_ret
    exact ⟨rfl, Below.refl _ _⟩
  rw [decide_eq_false hb]
  go_wp2_with fail
  refine (dmo_any a len cap (by omega) (unhide hr')).mono ?_
  rintro e w1 ⟨x6, y6, x7, y7, n, A6, A7, n6, n7, c6, c7, L6, L7, rfl, hL6, hL7, hn6, hn7, i6, i7, k1⟩
  have q1 : Below w1.heap.size w1 (w1.alloc (.cells #[.int .i64 x6, .int .i64 y6, .slice A6 n6 c6] 26)) := (Below.refl _ _).alloc (Nat.le_refl _) _
  have q2 : Below w1.heap.size w1 ((w1.alloc (.cells #[.int .i64 x6, .int .i64 y6, .slice A6 n6 c6] 26)).alloc (.cells #[.int .i64 x7, .int .i64 y7, .slice A7 n7 c7] 26)) := q1.alloc (by simp) _
  have P6 : Hid (P3 ((w1.alloc (.cells #[.int .i64 x6, .int .i64 y6, .slice A6 n6 c6] 26)).alloc (.cells #[.int .i64 x7, .int .i64 y7, .slice A7 n7 c7] 26)) w1.heap.size 26 x6 y6 (.slice A6 n6 c6)) := hide ((P3.new _ _ _ _ _).later ((Below.refl _ _).alloc (Nat.le_refl _) _))
  have P7 : Hid (P3 ((w1.alloc (.cells #[.int .i64 x6, .int .i64 y6, .slice A6 n6 c6] 26)).alloc (.cells #[.int .i64 x7, .int .i64 y7, .slice A7 n7 c7] 26)) (w1.heap.size + 1) 26 x7 y7 (.slice A7 n7 c7)) := hide (by
    have h := P3.new (w1.alloc (.cells #[.int .i64 x6, .int .i64 y6, .slice A6 n6 c6] 26)) 26 x7 y7 (.slice A7 n7 c7)
    rw [Deep.nblk_alloc] at h
    exact h)
  have I6 := hide (i6.below q2)
  have I7 := hide (i7.below q2)
  have BW := hide (laterB k1 q2)
  have m1 := hide (fun w' (h6 : Ins w' A6 L6) (h7 : Ins w' A7 L7) => imotion_any x6 y6 x7 y7 A6 A7 c6 c7 L6 L7 n w' (by unfold maxLen; omega) (by unfold maxLen; omega) h6 h7)
  have m2 := hide (fun w' (h6 : Ins w' A6 L6) (h7 : Ins w' A7 L7) => smotion_any x6 y6 x7 y7 A6 A7 c6 c7 L6 L7 n w' (by unfold maxLen; omega) (by unfold maxLen; omega) h6 h7)
  have m3 := hide (fun w' (h7 : Ins w' A7 L7) => imotion_any x7 y7 x7 y7 A7 A7 c7 c7 L7 L7 n w' (by unfold maxLen; omega) (by unfold maxLen; omega) h7 h7)
  rw [hL6, hL7] at m1 m2
  rw [hL7] at m3
  clear i6 i7 k1 q1 q2 hr' hb hL6 hL7
  go_upto_region 4 with fail
  generalize (w1.alloc (.cells #[.int .i64 x6, .int .i64 y6, .slice A6 n6 c6] 26)).alloc (.cells #[.int .i64 x7, .int .i64 y7, .slice A7 n7 c7] 26) = w2 at *
  generalize w1.heap.size = k6 at *
  clear w1
  obtain ⟨c0, c1, c2⟩ := (unhide P6).cells
  obtain ⟨d0, d1, d2⟩ := (unhide P7).cells
  go_wp2_with fail
  refine (unhide m1 _ (unhide I6) (unhide I7)).mono ?_
  rintro e w3 ⟨p, q, rfl, hA, k3⟩
  have P6x := hide ((unhide P6).later k3)
  have P7x := hide ((unhide P7).later k3)
  have I6x := hide ((unhide I6).below k3)
  have I7x := hide ((unhide I7).below k3)
  have BWx := hide (laterB (unhide BW) k3)
  have hA' := hide hA
  clear P6 P7 I6 I7 BW k3 c0 c1 c2 d0 d1 d2 m1 hA
  obtain ⟨c0, c1, c2⟩ := (unhide P6x).cells
  obtain ⟨d0, d1, d2⟩ := (unhide P7x).cells
  go_wp2_with fail
  refine (unhide m2 _ (unhide I6x) (unhide I7x)).mono ?_
  rintro e w4 ⟨r, s, rfl, hB, k3⟩
  obtain ⟨rfl, rfl⟩ := (unhide hA').uniq hB
  have hbd := (unhide hA').bd
  obtain ⟨h1, h2, h3, h4⟩ := hbd
  have P7 := hide ((unhide P7x).later k3)
  have I7 := hide ((unhide I7x).below k3)
  have BW := hide (laterB (unhide BWx) k3)
  clear P6x P7x I6x I7x BWx k3 c0 c1 c2 d0 d1 d2 m2 hA' hB
  obtain ⟨d0, d1, d2⟩ := (unhide P7).cells
  have t1 : decide (p < -2) = false := by simp; omega
  have t2 : decide (2 < p) = false := by simp; omega
  have t3 : decide (q < -2) = false := by simp; omega
  have t4 : decide (2 < q) = false := by simp; omega
  go_wp2_with fail
  refine (unhide m3 _ (unhide I7)).mono ?_
  rintro e w5 ⟨u, v, rfl, hC, k5⟩
  obtain ⟨rfl, rfl⟩ := hC.self
  have BWx := hide (laterB (unhide BW) k5)
  clear BW k5 hC
  go_wp2
  go_ret
  exact ⟨rfl, unhide BWx⟩

end Go.Proofs.Ytdppnjafkbopiaa
