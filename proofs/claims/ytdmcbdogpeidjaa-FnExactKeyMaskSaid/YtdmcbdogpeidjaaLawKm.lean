/-
  For every two colours and every two numbers KeyMask of the program answers as its model does; no conditions.
-/
import Derived.Test.YtdmcbdogpeidjaaKm2
namespace Go.Proofs.Ytdmcbdogpeidjaa
open Go.RowKit
set_option linter.unusedVariables false
set_option linter.unusedSimpArgs false

set_option maxHeartbeats 3200000 in
theorem lawKm {W : World} (x y z a b c n f : Int) :
    Calls Try.prog 10 #[ag3 x y z, ag3 a b c, .int .i64 n, .int .i64 f] W fun e w' => e = .returned (.bool true) ∧ Below W.heap.size W w' := by
  obtain ⟨V, hV⟩ : ∃ V, kmOf (x, y, z) (a, b, c) n f = V := ⟨_, rfl⟩
  have hV' := hide hV
  clear hV
  have e1 : (V != V) = false := by simp
  go_enter Try.func10, Try.ntmps10
  have hall : Hid ((fun w' : World => w'.cell? ⟨W.heap.size, 0, none⟩ = some (.int .i64 x) ∧ w'.cell? ⟨W.heap.size, 1, none⟩ = some (.int .i64 y) ∧ w'.cell? ⟨W.heap.size, 2, none⟩ = some (.int .i64 z) ∧ w'.cell? ⟨W.heap.size + 1, 0, none⟩ = some (.int .i64 a) ∧ w'.cell? ⟨W.heap.size + 1, 1, none⟩ = some (.int .i64 b) ∧ w'.cell? ⟨W.heap.size + 1, 2, none⟩ = some (.int .i64 c) ∧ Below W.heap.size W w') ((W.alloc (.cells #[.int .i64 x, .int .i64 y, .int .i64 z] 37)).alloc (.cells #[.int .i64 a, .int .i64 b, .int .i64 c] 37))) :=
    hide ⟨by simp [go_sem], by simp [go_sem], by simp [go_sem], by simp [go_sem], by simp [go_sem], by simp [go_sem], (((Below.refl _ _).alloc (Nat.le_refl _) _).alloc (by simp) _)⟩
  go_wp2_with fail
  go_region_held3 (fun w' => w'.cell? ⟨W.heap.size, 0, none⟩ = some (.int .i64 x) ∧ w'.cell? ⟨W.heap.size, 1, none⟩ = some (.int .i64 y) ∧ w'.cell? ⟨W.heap.size, 2, none⟩ = some (.int .i64 z) ∧ w'.cell? ⟨W.heap.size + 1, 0, none⟩ = some (.int .i64 a) ∧ w'.cell? ⟨W.heap.size + 1, 1, none⟩ = some (.int .i64 b) ∧ w'.cell? ⟨W.heap.size + 1, 2, none⟩ = some (.int .i64 c) ∧ Below W.heap.size W w')
    (first | (refine keep6 ?_ hb; assumption) | (exact keep6d (unhide hall)))
    (first | (go_at_call 24; refine (tok1_any _ _ _ _).mono ?_; rintro e w1 ⟨rfl, hb⟩) | (go_at_call 21; refine (skm_any x y z a b c n f V _ (unhide hV')).mono ?_; rintro e w1 ⟨rfl, hb⟩))
  all_goals
    rename_i hH
    have hall2 := hide hH
    clear hH hall
    go_wp2_with fail
    go_region_held3 (fun w' => w'.cell? ⟨W.heap.size, 0, none⟩ = some (.int .i64 x) ∧ w'.cell? ⟨W.heap.size, 1, none⟩ = some (.int .i64 y) ∧ w'.cell? ⟨W.heap.size, 2, none⟩ = some (.int .i64 z) ∧ w'.cell? ⟨W.heap.size + 1, 0, none⟩ = some (.int .i64 a) ∧ w'.cell? ⟨W.heap.size + 1, 1, none⟩ = some (.int .i64 b) ∧ w'.cell? ⟨W.heap.size + 1, 2, none⟩ = some (.int .i64 c) ∧ Below W.heap.size W w')
      (first | (refine keep6 ?_ hb; assumption) | (exact keep6d (unhide hall2)))
      (first | (go_at_call 24; refine (tok1_any _ _ _ _).mono ?_; rintro e w1 ⟨rfl, hb⟩) | (go_at_call 20; refine (ikm_any x y z a b c n f V _ (unhide hV')).mono ?_; rintro e w1 ⟨rfl, hb⟩))
    all_goals
      go_wp2
      go_ret
      exact ⟨rfl, by rename_i hH; exact hH.2.2.2.2.2.2⟩

end Go.Proofs.Ytdmcbdogpeidjaa
