/-
  Contract of the program's premultiplied pixel; nothing that was there is written.
-/
import Derived.Test.YteabmbggljpmoaaPfo
import Derived.Test.YteabmbggljpmoaaPp
namespace Go.Proofs.Yteabmbggljpmoaa
open Go.RowKit
set_option linter.unusedVariables false
set_option linter.unusedSimpArgs false

set_option maxHeartbeats 1600000 in
theorem ipr_any (r g b a V0 V1 V2 V3 : Int) (w : World) (hV : premulOf (r, g, b, a) = (V0, V1, V2, V3)) :
    Calls Try.prog 29 #[ag4 r g b a] w fun e w' => e = .returned (ag4 V0 V1 V2 V3) ∧ Below w.heap.size w w' := by
  unfold premulOf at hV
  by_cases hA : PxNs (r, g, b, a)
  · rw [if_pos hA] at hV
    have hA' : Hid (decide (PxNs (r, g, b, a)) = true) := hide (by simpa using hA)
    obtain ⟨U3, hU⟩ : ∃ U3, scale (r, g, b, a) a = (V0, V1, V2, U3) := ⟨part a a, by cases hV; rfl⟩
    have hU' := hide hU
    have v3 : a = V3 := by cases hV; rfl
    subst v3
    have hP := hide hA
    clear hV hA hU
    go_enter Try.func29, Try.ntmps29
    go_wp2_with fail
    refine (ns_any r g b a _ _ (unhide hA')).mono ?_
    rintro e w1 ⟨rfl, hb⟩
    have hT := hide ((Ts.start w r g b a 25 25).later hb)
    clear hb
    obtain ⟨⟨c0, c1, c2, c3, f0, f1, f2, f3⟩, ⟨k0, k1, k2, k3, l0, l1, l2, l3⟩, hB⟩ := unhide hT
    have hBl := hide hB
    clear hB
    go_wp2_with fail
    refine (ipart_any r g b a a V0 V1 V2 U3 _ (unhide hP) (unhide hP).2.2.2 (unhide hU')).mono ?_
    rintro e w3 ⟨rfl, hb⟩
    have hT3 := hide ((unhide hT).later hb)
    clear hb hT hBl c0 c1 c2 c3 f0 f1 f2 f3 k0 k1 k2 k3 l0 l1 l2 l3
    obtain ⟨⟨c0, c1, c2, c3, f0, f1, f2, f3⟩, ⟨k0, k1, k2, k3, l0, l1, l2, l3⟩, hB⟩ := unhide hT3
    have hBl := hide hB
    clear hB
    have hl1 : w.heap.size + 1 < w3.heap.size := (unhide hT3).h2.lt
    have hl0 : w.heap.size < w3.heap.size := by omega
    go_wp2
    have hR := ((unhide hT3).h2.set4 V0 V1 V2 a).below ((Below.refl _ _).alloc (Nat.le_refl _) (.cells #[.int .i64 V0, .int .i64 V1, .int .i64 V2, .int .i64 a] 25))
    exact bodyPost_ret (v := ag4 V0 V1 V2 a) (by simp [results, Try.results29, go_sem, hR.c0, hR.c1, hR.c2, hR.c3]) rfl ⟨rfl, (set4_below (unhide hT3).hb (by omega)).alloc (by simp; omega) _⟩
  · rw [if_neg hA] at hV
    have hA' : Hid (decide (PxNs (r, g, b, a)) = false) := hide (by simpa using hA)
    have hz : Hid (V0 = 0 ∧ V1 = 0 ∧ V2 = 0 ∧ V3 = 0) := hide (by cases hV; exact ⟨rfl, rfl, rfl, rfl⟩)
    clear hV hA
    go_enter Try.func29, Try.ntmps29
    go_wp2_with fail
    refine (ns_any r g b a _ _ (unhide hA')).mono ?_
    rintro e w1 ⟨rfl, hb⟩
    have hT := hide ((Ts.start w r g b a 25 25).later hb)
    clear hb
    obtain ⟨⟨c0, c1, c2, c3, f0, f1, f2, f3⟩, ⟨k0, k1, k2, k3, l0, l1, l2, l3⟩, hB⟩ := unhide hT
    have hBl := hide hB
    clear hB
    go_wp2
    obtain ⟨rfl, rfl, rfl, rfl⟩ := unhide hz
    exact bodyPost_ret (v := ag4 0 0 0 0) (by simp [results, Try.results29, go_sem, k0, k1, k2, k3]) rfl ⟨rfl, set4_below (unhide hBl) (by omega)⟩

end Go.Proofs.Yteabmbggljpmoaa
