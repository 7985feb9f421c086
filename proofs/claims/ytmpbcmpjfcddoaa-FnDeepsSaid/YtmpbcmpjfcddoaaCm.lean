/-
  Contract of the comparison of samples by depth; nothing that was there is written.
-/
import Derived.Test.YtmpbcmpjfcddoaaCopyL
import Derived.Test.YtmpbcmpjfcddoaaStP
import Derived.Test.YtmpbcmpjfcddoaaQL
import Derived.Stop.Asserts
namespace Go.Proofs.Ytmpbcmpjfcddoaa
open Go.RowKit
set_option linter.unusedVariables false
set_option linter.unusedSimpArgs false
namespace D

theorem depth1 (t r g b a : Int) (w : World) : Calls Try.prog 78 #[ag5 t r g b a] w fun e w' => e = .returned (.int .i64 t) ∧ Below w.heap.size w w' := by
  go_enter Try.func78, Try.ntmps78
  go_wp2
  go_ret
  exact ⟨rfl, (Below.refl _ _).alloc (Nat.le_refl _) _⟩
set_option maxHeartbeats 800000 in
theorem depth_any (t r g b a : Int) (w : World) : Calls Try.prog 45 #[.iface 32 (ag5 t r g b a)] w fun e w' => e = .returned (.int .i64 t) ∧ Below w.heap.size w w' := by
  have hyes : ∀ (v : Value) (xT : TypeId) (w : World), (Instr.typeAssert (.iface 32 v) xT 82 true).run Try.prog w = .ok (.tuple #[.iface 32 v, .bool true]) w := fun v xT w => run_typeAssert_hasB Try.underlying82 (by kernel_rfl) v xT w
  go_enter Try.func45, Try.ntmps45
  go_wp2_with fail
  refine (depth1 t r g b a _).mono ?_
  rintro e w1 ⟨rfl, hb⟩
  have h1 := hide hb
  clear hb
  go_wp2
  go_ret
  exact ⟨rfl, unhide h1⟩
theorem nan_any (x : Int) (w : World) : Calls Try.prog 55 #[.int .i64 x] w fun e w' => e = .returned (.bool false) ∧ w' = w := by
  have h : (x != x) = false := by simp
  go_enter Try.func55, Try.ntmps55
  go_wp2
  go_ret
  exact ⟨rfl, rfl⟩
/-- how two depths stand to each other -/
def cmpI (x y : Int) : Int := if x < y then -1 else if y < x then 1 else 0
set_option maxHeartbeats 800000 in
theorem compare_any (x y c : Int) (w : World) (hc : cmpI x y = c) : Calls Try.prog 47 #[.int .i64 x, .int .i64 y] w fun e w' => e = .returned (.int .i64 c) ∧ w' = w := by
  subst hc
  by_cases h1 : x < y
  · go_enter Try.func47, Try.ntmps47
    go_wp2_with fail
    refine (nan_any x _).mono ?_
    rintro e w1 ⟨rfl, hw1⟩
    have hw2 := hw1.symm
    subst hw2
    go_wp2_with fail
    refine (nan_any y _).mono ?_
    rintro e w1 ⟨rfl, hw1⟩
    have hw2 := hw1.symm
    subst hw2
    go_wp2
    go_ret
    exact ⟨ret_int (by unfold cmpI; rw [if_pos (by omega)]), rfl⟩
  · by_cases h2 : y < x
    · go_enter Try.func47, Try.ntmps47
      go_wp2_with fail
      refine (nan_any x _).mono ?_
      rintro e w1 ⟨rfl, hw1⟩
      have hw2 := hw1.symm
      subst hw2
      go_wp2_with fail
      refine (nan_any y _).mono ?_
      rintro e w1 ⟨rfl, hw1⟩
      have hw2 := hw1.symm
      subst hw2
      go_wp2
      go_ret
      exact ⟨ret_int (by unfold cmpI; rw [if_neg (by omega), if_pos (by omega)]), rfl⟩
    · go_enter Try.func47, Try.ntmps47
      go_wp2_with fail
      refine (nan_any x _).mono ?_
      rintro e w1 ⟨rfl, hw1⟩
      have hw2 := hw1.symm
      subst hw2
      go_wp2_with fail
      refine (nan_any y _).mono ?_
      rintro e w1 ⟨rfl, hw1⟩
      have hw2 := hw1.symm
      subst hw2
      go_wp2
      go_ret
      exact ⟨ret_int (by unfold cmpI; rw [if_neg (by omega), if_neg (by omega)]), rfl⟩

theorem compareB_any (x y c : Int) (w : World) (hc : cmpI x y = c) : Calls Try.prog 47 #[.int .i64 x, .int .i64 y] w fun e w' => e = .returned (.int .i64 c) ∧ Below w.heap.size w w' :=
  (compare_any x y c w hc).mono fun e w' h => ⟨h.1, by rw [h.2]; exact Below.refl _ _⟩

set_option maxHeartbeats 1600000 in
theorem by_any (t r g b a t' r' g' b' a' c : Int) (w : World) (hc : cmpI t t' = c) : Calls Try.prog 34 #[ag5 t r g b a, ag5 t' r' g' b' a'] w fun e w' => e = .returned (.int .i64 c) ∧ Below w.heap.size w w' := by
  have hc' := hide hc
  clear hc
  have hall : Hid ((fun w' : World => w'.cell? ⟨w.heap.size, 0, none⟩ = some (.int .i64 t) ∧ w'.cell? ⟨w.heap.size, 1, none⟩ = some (.int .i64 r) ∧ w'.cell? ⟨w.heap.size, 2, none⟩ = some (.int .i64 g) ∧ w'.cell? ⟨w.heap.size, 3, none⟩ = some (.int .i64 b) ∧ w'.cell? ⟨w.heap.size, 4, none⟩ = some (.int .i64 a) ∧ w'.cell? ⟨w.heap.size + 1, 0, none⟩ = some (.int .i64 t') ∧ w'.cell? ⟨w.heap.size + 1, 1, none⟩ = some (.int .i64 r') ∧ w'.cell? ⟨w.heap.size + 1, 2, none⟩ = some (.int .i64 g') ∧ w'.cell? ⟨w.heap.size + 1, 3, none⟩ = some (.int .i64 b') ∧ w'.cell? ⟨w.heap.size + 1, 4, none⟩ = some (.int .i64 a') ∧ Below w.heap.size w w') ((w.alloc (.cells #[.int .i64 t, .int .i64 r, .int .i64 g, .int .i64 b, .int .i64 a] 32)).alloc (.cells #[.int .i64 t', .int .i64 r', .int .i64 g', .int .i64 b', .int .i64 a'] 32))) := hide ⟨by simp [go_sem], by simp [go_sem], by simp [go_sem], by simp [go_sem], by simp [go_sem], by simp [go_sem], by simp [go_sem], by simp [go_sem], by simp [go_sem], by simp [go_sem], ((Below.refl _ _).alloc (Nat.le_refl _) _).alloc (by simp) _⟩
  go_enter Try.func34, Try.ntmps34
  go_wp2_with fail
  go_region_held3 (fun w' => w'.cell? ⟨w.heap.size, 0, none⟩ = some (.int .i64 t) ∧ w'.cell? ⟨w.heap.size, 1, none⟩ = some (.int .i64 r) ∧ w'.cell? ⟨w.heap.size, 2, none⟩ = some (.int .i64 g) ∧ w'.cell? ⟨w.heap.size, 3, none⟩ = some (.int .i64 b) ∧ w'.cell? ⟨w.heap.size, 4, none⟩ = some (.int .i64 a) ∧ w'.cell? ⟨w.heap.size + 1, 0, none⟩ = some (.int .i64 t') ∧ w'.cell? ⟨w.heap.size + 1, 1, none⟩ = some (.int .i64 r') ∧ w'.cell? ⟨w.heap.size + 1, 2, none⟩ = some (.int .i64 g') ∧ w'.cell? ⟨w.heap.size + 1, 3, none⟩ = some (.int .i64 b') ∧ w'.cell? ⟨w.heap.size + 1, 4, none⟩ = some (.int .i64 a') ∧ Below w.heap.size w w')
    (first | (with_reducible refine keepN ?_ hb; with_reducible assumption) | (with_reducible exact keepNd (unhide hall)))
    (first
      | (go_at_call 45; refine (depth_any _ _ _ _ _ _).mono ?_; rintro e w1 ⟨rfl, hb⟩)
      | (go_at_call 47; refine (compareB_any t t' c _ (unhide hc')).mono ?_; rintro e w1 ⟨rfl, hb⟩))
  all_goals
    rename_i hH
    have hE := hide hH.2.2.2.2.2.2.2.2.2.2
    go_wp2
    go_ret
    exact ⟨rfl, unhide hE⟩

end D
end Go.Proofs.Ytmpbcmpjfcddoaa
