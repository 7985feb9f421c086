/-
  Contract of what is a node to the model; nothing that was there is written.
-/
import Derived.Test.YtfblnnnnkjphjaaNdI
import Derived.Deep.CutRange
import Derived.Deep.CutBlock
import Derived.Deep.DeepCutAuto
namespace Go.Proofs.Ytfblnnnnkjphjaa
open Go.RowKit
set_option linter.unusedVariables false
set_option linter.unusedSimpArgs false

theorem one_over_zero : FloatKind.f64.format.order (fv .quo 4607182418800017408 0 default) 0 = some .gt := by decide +kernel
theorem bits_quo0 : floatBits .quo .f64 4607182418800017408 0 = some 9218868437227405312 := by decide +kernel
theorem bits_quo1 : floatBits .quo .f64 4607182418800017408 9223372036854775808 = some 18442240474082181120 := by decide +kernel
theorem fv_quo0 (w : World) : fv .quo 4607182418800017408 0 w = 9218868437227405312 := by unfold fv; rw [bits_quo0]; rfl
theorem fv_quo1 (w : World) : fv .quo 4607182418800017408 9223372036854775808 w = 18442240474082181120 := by unfold fv; rw [bits_quo1]; rfl
theorem gr_inf : FloatKind.f64.format.order 9218868437227405312 0 = some .gt := by decide
theorem gr_minf : FloatKind.f64.format.order 18442240474082181120 0 = some .lt := by decide
set_option maxHeartbeats 3200000 in
theorem snode_any (k m n : Int) (v : Nat) (i : Int) (B : Bool) (w : World) (hv : v < 18446744073709551616) (hB : decide (NodeOk k m n v i) = B) :
    Calls Try.prog 23 #[agN k m n v, .int .i64 i] w fun e w' => e = .returned (.bool B) ∧ Below w.heap.size w w' := by
  have hB' := hide hB
  clear hB
  go_enter Try.func23, Try.ntmps23
  go_upto_region 1 with fail
  go_cut [5] from 16 (fun s wx => s = .bool (decide (InOk m i)) ∧ wx = (w.alloc (.cells #[.int .i64 k, .int .i64 m, .int .i64 n, .float .f64 v] 48)))
  case first =>
    by_cases h0 : 0 ≤ m
    · by_cases h1 : m < i
      · go_wp2
        go_meet
        exact ⟨by simp [InOk, h0, h1], rfl⟩
      · have hd : decide (m < i) = false := by simpa using h1
        go_wp2
        go_meet
        exact ⟨by congr 1; symm; rw [decide_eq_false_iff_not]; unfold InOk; omega, rfl⟩
    · have hd : decide (0 ≤ m) = false := by simpa using h0
      go_wp2
      go_meet
      exact ⟨by congr 1; symm; rw [decide_eq_false_iff_not]; unfold InOk; omega, rfl⟩
  case rest =>
    obtain ⟨h5, h6⟩ := hcut
    subst h5
    subst h6
    generalize hA : decide (InOk m i) = A
    have hA' := hide hA
    clear hA
    go_upto_region 2 with fail
    go_cut [6] from 25 (fun s wx => s = .bool (decide (v = 0)) ∧ ∃ q, wx = (w.alloc (.cells #[.int .i64 k, .int .i64 m, .int .i64 n, .float .f64 v] 48)).drewN q)
    case first =>
      by_cases ho : FloatKind.f64.format.order v 0 = some .eq
      · rcases zero_order hv ho with rfl | rfl
        · have hq := fv_quo0
          have hg := gr_inf
          go_wp2
          go_meet
          exact ⟨by simp, _, rfl⟩
        · have hq := fv_quo1
          have hg := gr_minf
          go_wp2
          go_meet
          exact ⟨by simp, _, rfl⟩
      · have ho' : (FloatKind.f64.format.order v 0 == some .eq) = false := by simpa using ho
        have hz : decide (v = 0) = false := by simp; intro e; rw [e] at ho; exact ho zero_self
        have hz' := hide hz
        clear hz
        go_wp2
        go_meet
        exact ⟨by rw [unhide hz'], 0, rfl⟩
    case rest =>
      obtain ⟨h7, q, h8⟩ := hcut
      subst h7
      subst h8
      generalize hZ : decide (v = 0) = Z
      have hZ' := hide hZ
      clear hZ
      have hE : Hid (Below w.heap.size w ((w.alloc (.cells #[.int .i64 k, .int .i64 m, .int .i64 n, .float .f64 v] 48)).drewN q)) := hide (below_drewN ((Below.refl _ _).alloc (Nat.le_refl _) _) _)
      by_cases hk : k = 1 ∨ k = 2 ∨ k = 3 ∨ k = 4 ∨ k = 5 ∨ k = 6 ∨ k = 7
      rotate_left
      · have hz : Hid (B = false) := hide (by rw [← unhide hB']; exact node_no hk)
        have t1 : (k == 1) = false := by simp; omega
        have t2 : (k == 2) = false := by simp; omega
        have t3 : (k == 3) = false := by simp; omega
        have t4 : (k == 4) = false := by simp; omega
        have t5 : (k == 5) = false := by simp; omega
        have t6 : (k == 6) = false := by simp; omega
        have t7 : (k == 7) = false := by simp; omega
        clear hk
        go_wp2
        go_ret
        exact ⟨ret_bool (unhide hz).symm, unhide hE⟩
      rcases hk with rfl | rfl | rfl | rfl | rfl | rfl | rfl
      · have hb : Hid (B = ((m == 0) && (n == 0) && Z)) := hide (by rw [← unhide hB', node_1, unhide hZ'])
        by_cases hm : m = 0
        rotate_left
        · have t1 : (m == 0) = false := by simpa using hm
          go_wp2
          go_ret
          exact ⟨ret_bool (by rw [unhide hb]; rw [t1]; simp), unhide hE⟩
        have t1 : (m == 0) = true := by simpa using hm
        clear hm
        by_cases hn : n = 0
        rotate_left
        · have t2 : (n == 0) = false := by simpa using hn
          go_wp2
          go_ret
          exact ⟨ret_bool (by rw [unhide hb]; rw [t2]; simp), unhide hE⟩
        have t2 : (n == 0) = true := by simpa using hn
        clear hn
        go_wp2
        go_ret
        exact ⟨ret_bool (by rw [unhide hb]; rw [t1, t2]; simp), unhide hE⟩
      · have hb : Hid (B = (A && (n == 0))) := hide (by rw [← unhide hB', node_g (by omega), unhide hA'])
        cases A
        · skip
          go_wp2
          go_ret
          exact ⟨ret_bool (by rw [unhide hb]; simp), unhide hE⟩
        go_wp2
        go_ret
        exact ⟨ret_bool (by rw [unhide hb]; simp), unhide hE⟩
      · have hb : Hid (B = (A && (n == 0))) := hide (by rw [← unhide hB', node_g (by omega), unhide hA'])
        cases A
        · skip
          go_wp2
          go_ret
          exact ⟨ret_bool (by rw [unhide hb]; simp), unhide hE⟩
        go_wp2
        go_ret
        exact ⟨ret_bool (by rw [unhide hb]; simp), unhide hE⟩
      · have hb : Hid (B = (A && decide (InOk n i))) := hide (by rw [← unhide hB', node_4, unhide hA'])
        cases A
        · skip
          go_wp2
          go_ret
          exact ⟨ret_bool (by rw [unhide hb]; simp), unhide hE⟩
        by_cases h0 : 0 ≤ n
        rotate_left
        · have t1 : decide (0 ≤ n) = false := by simpa using h0
          go_wp2
          go_ret
          exact ⟨ret_bool (by rw [unhide hb]; symm; rw [Bool.true_and, decide_eq_false_iff_not]; unfold InOk; omega), unhide hE⟩
        by_cases h1 : n < i
        rotate_left
        · have t2 : decide (n < i) = false := by simpa using h1
          go_wp2
          go_ret
          exact ⟨ret_bool (by rw [unhide hb]; symm; rw [Bool.true_and, decide_eq_false_iff_not]; unfold InOk; omega), unhide hE⟩
        go_wp2
        go_ret
        exact ⟨ret_bool (by rw [unhide hb]; symm; rw [Bool.true_and, decide_eq_true_iff]; exact ⟨h0, h1⟩), unhide hE⟩
      · have hb : Hid (B = (A && (n == 0))) := hide (by rw [← unhide hB', node_g (by omega), unhide hA'])
        cases A
        · skip
          go_wp2
          go_ret
          exact ⟨ret_bool (by rw [unhide hb]; simp), unhide hE⟩
        go_wp2
        go_ret
        exact ⟨ret_bool (by rw [unhide hb]; simp), unhide hE⟩
      · have hb : Hid (B = (A && (n == 0) && Z)) := hide (by rw [← unhide hB', node_c (by omega), unhide hA', unhide hZ'])
        cases A
        · skip
          go_wp2
          go_ret
          exact ⟨ret_bool (by rw [unhide hb]; simp), unhide hE⟩
        by_cases hn : n = 0
        rotate_left
        · have t2 : (n == 0) = false := by simpa using hn
          go_wp2
          go_ret
          exact ⟨ret_bool (by rw [unhide hb]; rw [t2]; simp), unhide hE⟩
        have t2 : (n == 0) = true := by simpa using hn
        clear hn
        go_wp2
        go_ret
        exact ⟨ret_bool (by rw [unhide hb]; rw [t2]; simp), unhide hE⟩
      · have hb : Hid (B = (A && (n == 0) && Z)) := hide (by rw [← unhide hB', node_c (by omega), unhide hA', unhide hZ'])
        cases A
        · skip
          go_wp2
          go_ret
          exact ⟨ret_bool (by rw [unhide hb]; simp), unhide hE⟩
        by_cases hn : n = 0
        rotate_left
        · have t2 : (n == 0) = false := by simpa using hn
          go_wp2
          go_ret
          exact ⟨ret_bool (by rw [unhide hb]; rw [t2]; simp), unhide hE⟩
        have t2 : (n == 0) = true := by simpa using hn
        clear hn
        go_wp2
        go_ret
        exact ⟨ret_bool (by rw [unhide hb]; rw [t2]; simp), unhide hE⟩

end Go.Proofs.Ytfblnnnnkjphjaa
