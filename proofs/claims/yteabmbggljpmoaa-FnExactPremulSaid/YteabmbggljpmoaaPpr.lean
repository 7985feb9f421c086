/-
  Contract of the model's premultiplied pixel; nothing that was there is written.
-/
import Derived.Test.YteabmbggljpmoaaPfo
namespace Go.Proofs.Yteabmbggljpmoaa
open Go.RowKit
set_option linter.unusedVariables false
set_option linter.unusedSimpArgs false

set_option maxHeartbeats 1600000 in
theorem spr_any (r g b a V0 V1 V2 V3 : Int) (w : World) (hV : premulOf (r, g, b, a) = (V0, V1, V2, V3)) :
    Calls Try.prog 36 #[ag4 r g b a] w fun e w' => e = .returned (ag4 V0 V1 V2 V3) ∧ Below w.heap.size w w' := by
  unfold premulOf at hV
  by_cases hA : Num r
  rotate_left
  · have hA' : Hid (decide (Num r) = false) := hide (by simpa using hA)
    rw [if_neg (fun h => hA h.1)] at hV
    have hz : Hid (V0 = 0 ∧ V1 = 0 ∧ V2 = 0 ∧ V3 = 0) := hide (by cases hV; exact ⟨rfl, rfl, rfl, rfl⟩)
    clear hV hA
    go_enter Try.func36, Try.ntmps36
    go_wp2_with fail
    refine (byte_any r _ _ (unhide hA')).mono ?_
    rintro e w1 ⟨rfl, hwA⟩
    have hw1 := hwA.symm
    subst hw1
    go_wp2
    obtain ⟨rfl, rfl, rfl, rfl⟩ := unhide hz
    exact bodyPost_ret (v := ag4 0 0 0 0) (by simp [results, Try.results36, go_sem]) rfl ⟨rfl, (((Below.refl _ _).alloc (Nat.le_refl _) _).alloc (by simp) _)⟩
  have hA' : Hid (decide (Num r) = true) := hide (by simpa using hA)
  by_cases hB : Num g
  rotate_left
  · have hB' : Hid (decide (Num g) = false) := hide (by simpa using hB)
    rw [if_neg (fun h => hB h.2.1)] at hV
    have hz : Hid (V0 = 0 ∧ V1 = 0 ∧ V2 = 0 ∧ V3 = 0) := hide (by cases hV; exact ⟨rfl, rfl, rfl, rfl⟩)
    clear hV hB
    go_enter Try.func36, Try.ntmps36
    go_wp2_with fail
    refine (byte_any r _ _ (unhide hA')).mono ?_
    rintro e w1 ⟨rfl, hwA⟩
    have hw1 := hwA.symm
    subst hw1
    go_wp2_with fail
    refine (byte_any g _ _ (unhide hB')).mono ?_
    rintro e w1 ⟨rfl, hwB⟩
    have hw1 := hwB.symm
    subst hw1
    go_wp2
    obtain ⟨rfl, rfl, rfl, rfl⟩ := unhide hz
    exact bodyPost_ret (v := ag4 0 0 0 0) (by simp [results, Try.results36, go_sem]) rfl ⟨rfl, (((Below.refl _ _).alloc (Nat.le_refl _) _).alloc (by simp) _)⟩
  have hB' : Hid (decide (Num g) = true) := hide (by simpa using hB)
  by_cases hC : Num b
  rotate_left
  · have hC' : Hid (decide (Num b) = false) := hide (by simpa using hC)
    rw [if_neg (fun h => hC h.2.2.1)] at hV
    have hz : Hid (V0 = 0 ∧ V1 = 0 ∧ V2 = 0 ∧ V3 = 0) := hide (by cases hV; exact ⟨rfl, rfl, rfl, rfl⟩)
    clear hV hC
    go_enter Try.func36, Try.ntmps36
    go_wp2_with fail
    refine (byte_any r _ _ (unhide hA')).mono ?_
    rintro e w1 ⟨rfl, hwA⟩
    have hw1 := hwA.symm
    subst hw1
    go_wp2_with fail
    refine (byte_any g _ _ (unhide hB')).mono ?_
    rintro e w1 ⟨rfl, hwB⟩
    have hw1 := hwB.symm
    subst hw1
    go_wp2_with fail
    refine (byte_any b _ _ (unhide hC')).mono ?_
    rintro e w1 ⟨rfl, hwC⟩
    have hw1 := hwC.symm
    subst hw1
    go_wp2
    obtain ⟨rfl, rfl, rfl, rfl⟩ := unhide hz
    exact bodyPost_ret (v := ag4 0 0 0 0) (by simp [results, Try.results36, go_sem]) rfl ⟨rfl, (((Below.refl _ _).alloc (Nat.le_refl _) _).alloc (by simp) _)⟩
  have hC' : Hid (decide (Num b) = true) := hide (by simpa using hC)
  by_cases hD : Num a
  rotate_left
  · have hD' : Hid (decide (Num a) = false) := hide (by simpa using hD)
    rw [if_neg (fun h => hD h.2.2.2)] at hV
    have hz : Hid (V0 = 0 ∧ V1 = 0 ∧ V2 = 0 ∧ V3 = 0) := hide (by cases hV; exact ⟨rfl, rfl, rfl, rfl⟩)
    clear hV hD
    go_enter Try.func36, Try.ntmps36
    go_wp2_with fail
    refine (byte_any r _ _ (unhide hA')).mono ?_
    rintro e w1 ⟨rfl, hwA⟩
    have hw1 := hwA.symm
    subst hw1
    go_wp2_with fail
    refine (byte_any g _ _ (unhide hB')).mono ?_
    rintro e w1 ⟨rfl, hwB⟩
    have hw1 := hwB.symm
    subst hw1
    go_wp2_with fail
    refine (byte_any b _ _ (unhide hC')).mono ?_
    rintro e w1 ⟨rfl, hwC⟩
    have hw1 := hwC.symm
    subst hw1
    go_wp2_with fail
    refine (byte_any a _ _ (unhide hD')).mono ?_
    rintro e w1 ⟨rfl, hwD⟩
    have hw1 := hwD.symm
    subst hw1
    go_wp2
    obtain ⟨rfl, rfl, rfl, rfl⟩ := unhide hz
    exact bodyPost_ret (v := ag4 0 0 0 0) (by simp [results, Try.results36, go_sem]) rfl ⟨rfl, (((Below.refl _ _).alloc (Nat.le_refl _) _).alloc (by simp) _)⟩
  have hD' : Hid (decide (Num a) = true) := hide (by simpa using hD)
  rw [if_pos ⟨hA, hB, hC, hD⟩] at hV
  obtain ⟨v0, v1, v2, v3⟩ : part r a = V0 ∧ part g a = V1 ∧ part b a = V2 ∧ a = V3 := by cases hV; exact ⟨rfl, rfl, rfl, rfl⟩
  subst v3
  have u0 := hide v0
  have u1 := hide v1
  have u2 := hide v2
  clear hV v0 v1 v2
  go_enter Try.func36, Try.ntmps36
  go_wp2_with fail
  refine (byte_any r _ _ (unhide hA')).mono ?_
  rintro e w1 ⟨rfl, hwA⟩
  have hw1 := hwA.symm
  subst hw1
  go_wp2_with fail
  refine (byte_any g _ _ (unhide hB')).mono ?_
  rintro e w1 ⟨rfl, hwB⟩
  have hw1 := hwB.symm
  subst hw1
  go_wp2_with fail
  refine (byte_any b _ _ (unhide hC')).mono ?_
  rintro e w1 ⟨rfl, hwC⟩
  have hw1 := hwC.symm
  subst hw1
  go_wp2_with fail
  refine (byte_any a _ _ (unhide hD')).mono ?_
  rintro e w1 ⟨rfl, hwD⟩
  have hw1 := hwD.symm
  subst hw1
  go_wp2_with fail
  apply wp_region_quiet_last
  case ht =>
    repeat (first | exact snoc_nil | apply snoc_cons)
  case hm => kernel_rfl
  case hB => kernel_rfl
  case hW => kernel_rfl
  repeat (go_big_quiet_step (first 
      | (go_at_call 62; exact Calls.quiet_of_same (spart_any _ _ _ _ (by assumption) (by assumption) rfl))))
  refine wpQuiet_nil ?_
  intro wq hwq
  obtain ⟨nq, hwq'⟩ := hwq
  subst hwq'
  go_wp2
  exact bodyPost_ret (v := ag4 V0 V1 V2 a) (by simp [results, Try.results36, go_sem, unhide u0, unhide u1, unhide u2]) rfl ⟨rfl, set4B (below_drewN (((Below.refl _ _).alloc (Nat.le_refl _) _).alloc (by simp) _) _) (by omega)⟩

end Go.Proofs.Yteabmbggljpmoaa
