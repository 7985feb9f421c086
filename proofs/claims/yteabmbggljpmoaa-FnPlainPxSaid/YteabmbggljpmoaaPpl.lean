/-
  Contract of the model's plain pixel; nothing that was there is written.
-/
import Derived.Test.YteabmbggljpmoaaPfo
namespace Go.Proofs.Yteabmbggljpmoaa
open Go.RowKit
set_option linter.unusedVariables false
set_option linter.unusedSimpArgs false

set_option maxHeartbeats 1600000 in
theorem spl_any (r g b a V0 V1 V2 V3 : Int) (w : World) (hV : plainOf (r, g, b, a) = (V0, V1, V2, V3)) :
    Calls Try.prog 28 #[ag4 r g b a] w fun e w' => e = .returned (ag4 V0 V1 V2 V3) ∧ Below w.heap.size w w' := by
  unfold plainOf at hV
  by_cases hA : Pix (r, g, b, a)
  · have hA' : Hid (decide (Pix (r, g, b, a)) = true) := hide (by simpa using hA)
    by_cases ha : a = 0
    · rw [if_neg (fun h => h.2 ha)] at hV
      have hz : Hid (V0 = 0 ∧ V1 = 0 ∧ V2 = 0 ∧ V3 = 0) := hide (by cases hV; exact ⟨rfl, rfl, rfl, rfl⟩)
      have ez : (a == 0) = true := by simpa using ha
      clear hV hA ha
      go_enter Try.func28, Try.ntmps28
      go_wp2_with fail
      refine (spx_any r g b a _ _ (unhide hA')).mono ?_
      rintro e w1 ⟨rfl, hb⟩
      have hT := hide ((Ts.start w r g b a 25 25).later hb)
      clear hb
      obtain ⟨⟨c0, c1, c2, c3, f0, f1, f2, f3⟩, ⟨k0, k1, k2, k3, l0, l1, l2, l3⟩, hB⟩ := unhide hT
      have hBl := hide hB
      clear hB
      go_wp2
      obtain ⟨rfl, rfl, rfl, rfl⟩ := unhide hz
      exact bodyPost_ret (v := ag4 0 0 0 0) (by simp [results, Try.results28, go_sem, k0, k1, k2, k3]) rfl ⟨rfl, set4_below (unhide hBl) (by omega)⟩

    · rw [if_pos ⟨hA, ha⟩] at hV
      obtain ⟨v0, v1, v2, v3⟩ : rnd (255 * r) a = V0 ∧ rnd (255 * g) a = V1 ∧ rnd (255 * b) a = V2 ∧ a = V3 := by cases hV; exact ⟨rfl, rfl, rfl, rfl⟩
      subst v3
      have ez : (a == 0) = false := by simpa using ha
      have hP := hide hA
      have hd1 : 1 ≤ a := by have := hA.1.2.2.2; unfold Num at this; simp only at this; omega
      have hd2 : a ≤ 10000000000000 := by have := hA.1.2.2.2; unfold Num at this; simp only at this; omega
      obtain ⟨M0, hM0⟩ : ∃ M, 255 * r = M := ⟨_, rfl⟩
      have m0 : IntKind.i64.wrap (255 * r) = M0 := by have := (unhide hP).1.1; unfold Num at this; rw [IntKind.wrap_i64, ← hM0]; simp only at this; omega
      have y0 : -10000000000000 ≤ M0 ∧ M0 ≤ 10000000000000 := by have := (unhide hP).1.1; unfold Num at this; simp only at this; omega
      rw [hM0] at v0
      have u0 := hide v0
      clear hM0
      obtain ⟨M1, hM1⟩ : ∃ M, 255 * g = M := ⟨_, rfl⟩
      have m1 : IntKind.i64.wrap (255 * g) = M1 := by have := (unhide hP).1.2.1; unfold Num at this; rw [IntKind.wrap_i64, ← hM1]; simp only at this; omega
      have y1 : -10000000000000 ≤ M1 ∧ M1 ≤ 10000000000000 := by have := (unhide hP).1.2.1; unfold Num at this; simp only at this; omega
      rw [hM1] at v1
      have u1 := hide v1
      clear hM1
      obtain ⟨M2, hM2⟩ : ∃ M, 255 * b = M := ⟨_, rfl⟩
      have m2 : IntKind.i64.wrap (255 * b) = M2 := by have := (unhide hP).1.2.2.1; unfold Num at this; rw [IntKind.wrap_i64, ← hM2]; simp only at this; omega
      have y2 : -10000000000000 ≤ M2 ∧ M2 ≤ 10000000000000 := by have := (unhide hP).1.2.2.1; unfold Num at this; simp only at this; omega
      rw [hM2] at v2
      have u2 := hide v2
      clear hM2
      clear hV hA v0 v1 v2 ha
      go_enter Try.func28, Try.ntmps28
      go_wp2_with fail
      refine (spx_any r g b a _ _ (unhide hA')).mono ?_
      rintro e w1 ⟨rfl, hb⟩
      have hT := hide ((Ts.start w r g b a 25 25).later hb)
      clear hb
      obtain ⟨⟨c0, c1, c2, c3, f0, f1, f2, f3⟩, ⟨k0, k1, k2, k3, l0, l1, l2, l3⟩, hB⟩ := unhide hT
      have hBl := hide hB
      clear hB
      go_wp2_with fail
      apply wp_region_quiet_last
      case ht =>
        repeat (first | exact snoc_nil | apply snoc_cons)
      case hm => kernel_rfl
      case hB => kernel_rfl
      case hW => kernel_rfl
      repeat (go_big_quiet_step (first 
          | (go_at_call 54; exact Calls.quiet_of_same (srnd_any _ _ _ _ (by assumption) (by assumption) (by assumption) rfl))))
      refine wpQuiet_nil ?_
      intro wq hwq
      obtain ⟨nq, hwq'⟩ := hwq
      subst hwq'
      go_wp2
      exact bodyPost_ret (v := ag4 V0 V1 V2 a) (by simp [results, Try.results28, go_sem, k0, k1, k2, k3, unhide u0, unhide u1, unhide u2]) rfl ⟨rfl, set4_below (below_drewN (unhide hBl) _) (by omega)⟩
  · rw [if_neg (fun h => hA h.1)] at hV
    have hA' : Hid (decide (Pix (r, g, b, a)) = false) := hide (by simpa using hA)
    have hz : Hid (V0 = 0 ∧ V1 = 0 ∧ V2 = 0 ∧ V3 = 0) := hide (by cases hV; exact ⟨rfl, rfl, rfl, rfl⟩)
    clear hV hA
    go_enter Try.func28, Try.ntmps28
    go_wp2_with fail
    refine (spx_any r g b a _ _ (unhide hA')).mono ?_
    rintro e w1 ⟨rfl, hb⟩
    have hT := hide ((Ts.start w r g b a 25 25).later hb)
    clear hb
    obtain ⟨⟨c0, c1, c2, c3, f0, f1, f2, f3⟩, ⟨k0, k1, k2, k3, l0, l1, l2, l3⟩, hB⟩ := unhide hT
    have hBl := hide hB
    clear hB
    go_wp2
    obtain ⟨rfl, rfl, rfl, rfl⟩ := unhide hz
    exact bodyPost_ret (v := ag4 0 0 0 0) (by simp [results, Try.results28, go_sem, k0, k1, k2, k3]) rfl ⟨rfl, set4_below (unhide hBl) (by omega)⟩


end Go.Proofs.Yteabmbggljpmoaa
