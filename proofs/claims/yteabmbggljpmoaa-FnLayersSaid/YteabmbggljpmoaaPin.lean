/-
  Contracts of what is inside and outside, of the model and of the program; nothing that was there is written.
-/
import Derived.Test.YteabmbggljpmoaaPfo
import Derived.Test.YteabmbggljpmoaaPp
namespace Go.Proofs.Yteabmbggljpmoaa
open Go.RowKit
set_option linter.unusedVariables false
set_option linter.unusedSimpArgs false

set_option maxHeartbeats 1600000 in
theorem sin_any (r g b a r' g' b' a' V0 V1 V2 V3 : Int) (w : World) (hV : insideOf (r, g, b, a) (r', g', b', a') = (V0, V1, V2, V3)) :
    Calls Try.prog 21 #[ag4 r g b a, ag4 r' g' b' a'] w fun e w' => e = .returned (ag4 V0 V1 V2 V3) ∧ Below w.heap.size w w' := by
  unfold insideOf at hV
  by_cases hA : Pix (r, g, b, a)
  · by_cases hB : Pix (r', g', b', a')
    · rw [if_pos ⟨hA, hB⟩] at hV
      have hA' : Hid (decide (Pix (r, g, b, a)) = true) := hide (by simpa using hA)
      have hB' : Hid (decide (Pix (r', g', b', a')) = true) := hide (by simpa using hB)
      have hV' := hide hV
      have hP := hide (And.intro hA hB)
      clear hV hA hB
      go_enter Try.func21, Try.ntmps21
      go_wp2_with fail
      refine (spx_any r g b a _ _ (unhide hA')).mono ?_
      rintro e w1 ⟨rfl, hb⟩
      have hT := hide ((Tr.start w r g b a r' g' b' a' 25 25 25).later hb)
      clear hb
      obtain ⟨⟨c0, c1, c2, c3, _, _, _, _⟩, ⟨d0, d1, d2, d3, _, _, _, _⟩, _, _⟩ := unhide hT
      go_wp2_with fail
      refine (spx_any r' g' b' a' _ _ (unhide hB')).mono ?_
      rintro e w2 ⟨rfl, hb⟩
      have hT2 := hide ((unhide hT).later hb)
      clear hb hT c0 c1 c2 c3 d0 d1 d2 d3
      have hT := hT2
      clear hT2
      obtain ⟨⟨c0, c1, c2, c3, f0, f1, f2, f3⟩, ⟨d0, d1, d2, d3, g0, g1, g2, g3⟩, ⟨k0, k1, k2, k3, l0, l1, l2, l3⟩, hB⟩ := unhide hT
      have hBl := hide hB
      clear hB
      go_wp2_with fail
      refine (sscale_any r g b a a' V0 V1 V2 V3 _ (unhide hP).1.1 (unhide hP).2.1.2.2.2 (unhide hV')).mono ?_
      rintro e w3 ⟨rfl, hb⟩
      obtain ⟨k0, k1, k2, k3, l0, l1, l2, l3⟩ := (unhide hT).h2.below hb
      have hBl := hide (laterB (unhide hT).hb hb)
      clear hb
      go_wp2
      exact bodyPost_ret (v := ag4 V0 V1 V2 V3) (by simp [results, Try.results21, go_sem, k0, k1, k2, k3]) rfl ⟨rfl, set4_below (unhide hBl) (by omega)⟩
    · rw [if_neg (fun h => hB h.2)] at hV
      have hA' : Hid (decide (Pix (r, g, b, a)) = true) := hide (by simpa using hA)
      have hB' : Hid (decide (Pix (r', g', b', a')) = false) := hide (by simpa using hB)
      have hz : Hid (V0 = 0 ∧ V1 = 0 ∧ V2 = 0 ∧ V3 = 0) := hide (by cases hV; exact ⟨rfl, rfl, rfl, rfl⟩)
      clear hV hA hB
      go_enter Try.func21, Try.ntmps21
      go_wp2_with fail
      refine (spx_any r g b a _ _ (unhide hA')).mono ?_
      rintro e w1 ⟨rfl, hb⟩
      have hT := hide ((Tr.start w r g b a r' g' b' a' 25 25 25).later hb)
      clear hb
      obtain ⟨⟨c0, c1, c2, c3, _, _, _, _⟩, ⟨d0, d1, d2, d3, _, _, _, _⟩, _, _⟩ := unhide hT
      go_wp2_with fail
      refine (spx_any r' g' b' a' _ _ (unhide hB')).mono ?_
      rintro e w2 ⟨rfl, hb⟩
      have hT2 := hide ((unhide hT).later hb)
      clear hb hT c0 c1 c2 c3 d0 d1 d2 d3
      have hT := hT2
      clear hT2
      obtain ⟨⟨c0, c1, c2, c3, f0, f1, f2, f3⟩, ⟨d0, d1, d2, d3, g0, g1, g2, g3⟩, ⟨k0, k1, k2, k3, l0, l1, l2, l3⟩, hB⟩ := unhide hT
      have hBl := hide hB
      clear hB
      go_wp2
      obtain ⟨rfl, rfl, rfl, rfl⟩ := unhide hz
      exact bodyPost_ret (v := ag4 0 0 0 0) (by simp [results, Try.results21, go_sem, k0, k1, k2, k3]) rfl ⟨rfl, set4_below (unhide hBl) (by omega)⟩

  · rw [if_neg (fun h => hA h.1)] at hV
    have hA' : Hid (decide (Pix (r, g, b, a)) = false) := hide (by simpa using hA)
    have hz : Hid (V0 = 0 ∧ V1 = 0 ∧ V2 = 0 ∧ V3 = 0) := hide (by cases hV; exact ⟨rfl, rfl, rfl, rfl⟩)
    clear hV hA
    go_enter Try.func21, Try.ntmps21
    go_wp2_with fail
    refine (spx_any r g b a _ _ (unhide hA')).mono ?_
    rintro e w1 ⟨rfl, hb⟩
    have hT := hide ((Tr.start w r g b a r' g' b' a' 25 25 25).later hb)
    clear hb
    obtain ⟨⟨c0, c1, c2, c3, f0, f1, f2, f3⟩, ⟨d0, d1, d2, d3, g0, g1, g2, g3⟩, ⟨k0, k1, k2, k3, l0, l1, l2, l3⟩, hB⟩ := unhide hT
    have hBl := hide hB
    clear hB
    go_wp2
    obtain ⟨rfl, rfl, rfl, rfl⟩ := unhide hz
    exact bodyPost_ret (v := ag4 0 0 0 0) (by simp [results, Try.results21, go_sem, k0, k1, k2, k3]) rfl ⟨rfl, set4_below (unhide hBl) (by omega)⟩


set_option maxHeartbeats 1600000 in
theorem iin_any (r g b a r' g' b' a' V0 V1 V2 V3 : Int) (w : World) (hV : insideOf (r, g, b, a) (r', g', b', a') = (V0, V1, V2, V3)) :
    Calls Try.prog 17 #[ag4 r g b a, ag4 r' g' b' a'] w fun e w' => e = .returned (ag4 V0 V1 V2 V3) ∧ Below w.heap.size w w' := by
  unfold insideOf at hV
  by_cases hA : Pix (r, g, b, a)
  · by_cases hB : Pix (r', g', b', a')
    · rw [if_pos ⟨hA, hB⟩] at hV
      have hA' : Hid (decide (Pix (r, g, b, a)) = true) := hide (by simpa using hA)
      have hB' : Hid (decide (Pix (r', g', b', a')) = true) := hide (by simpa using hB)
      have hV' := hide hV
      have hP := hide (And.intro hA hB)
      clear hV hA hB
      go_enter Try.func17, Try.ntmps17
      go_wp2_with fail
      refine (ipx_any r g b a _ _ (unhide hA')).mono ?_
      rintro e w1 ⟨rfl, hb⟩
      have hT := hide ((Tr.start w r g b a r' g' b' a' 25 25 25).later hb)
      clear hb
      obtain ⟨⟨c0, c1, c2, c3, _, _, _, _⟩, ⟨d0, d1, d2, d3, _, _, _, _⟩, _, _⟩ := unhide hT
      go_wp2_with fail
      refine (ipx_any r' g' b' a' _ _ (unhide hB')).mono ?_
      rintro e w2 ⟨rfl, hb⟩
      have hT2 := hide ((unhide hT).later hb)
      clear hb hT c0 c1 c2 c3 d0 d1 d2 d3
      have hT := hT2
      clear hT2
      obtain ⟨⟨c0, c1, c2, c3, f0, f1, f2, f3⟩, ⟨d0, d1, d2, d3, g0, g1, g2, g3⟩, ⟨k0, k1, k2, k3, l0, l1, l2, l3⟩, hB⟩ := unhide hT
      have hBl := hide hB
      clear hB
      go_wp2_with fail
      refine (ipart_any r g b a a' V0 V1 V2 V3 _ (unhide hP).1.1 (unhide hP).2.1.2.2.2 (unhide hV')).mono ?_
      rintro e w3 ⟨rfl, hb⟩
      obtain ⟨k0, k1, k2, k3, l0, l1, l2, l3⟩ := (unhide hT).h2.below hb
      have hBl := hide (laterB (unhide hT).hb hb)
      clear hb
      go_wp2
      exact bodyPost_ret (v := ag4 V0 V1 V2 V3) (by simp [results, Try.results17, go_sem, k0, k1, k2, k3]) rfl ⟨rfl, set4_below (unhide hBl) (by omega)⟩
    · rw [if_neg (fun h => hB h.2)] at hV
      have hA' : Hid (decide (Pix (r, g, b, a)) = true) := hide (by simpa using hA)
      have hB' : Hid (decide (Pix (r', g', b', a')) = false) := hide (by simpa using hB)
      have hz : Hid (V0 = 0 ∧ V1 = 0 ∧ V2 = 0 ∧ V3 = 0) := hide (by cases hV; exact ⟨rfl, rfl, rfl, rfl⟩)
      clear hV hA hB
      go_enter Try.func17, Try.ntmps17
      go_wp2_with fail
      refine (ipx_any r g b a _ _ (unhide hA')).mono ?_
      rintro e w1 ⟨rfl, hb⟩
      have hT := hide ((Tr.start w r g b a r' g' b' a' 25 25 25).later hb)
      clear hb
      obtain ⟨⟨c0, c1, c2, c3, _, _, _, _⟩, ⟨d0, d1, d2, d3, _, _, _, _⟩, _, _⟩ := unhide hT
      go_wp2_with fail
      refine (ipx_any r' g' b' a' _ _ (unhide hB')).mono ?_
      rintro e w2 ⟨rfl, hb⟩
      have hT2 := hide ((unhide hT).later hb)
      clear hb hT c0 c1 c2 c3 d0 d1 d2 d3
      have hT := hT2
      clear hT2
      obtain ⟨⟨c0, c1, c2, c3, f0, f1, f2, f3⟩, ⟨d0, d1, d2, d3, g0, g1, g2, g3⟩, ⟨k0, k1, k2, k3, l0, l1, l2, l3⟩, hB⟩ := unhide hT
      have hBl := hide hB
      clear hB
      go_wp2
      obtain ⟨rfl, rfl, rfl, rfl⟩ := unhide hz
      exact bodyPost_ret (v := ag4 0 0 0 0) (by simp [results, Try.results17, go_sem, k0, k1, k2, k3]) rfl ⟨rfl, set4_below (unhide hBl) (by omega)⟩

  · rw [if_neg (fun h => hA h.1)] at hV
    have hA' : Hid (decide (Pix (r, g, b, a)) = false) := hide (by simpa using hA)
    have hz : Hid (V0 = 0 ∧ V1 = 0 ∧ V2 = 0 ∧ V3 = 0) := hide (by cases hV; exact ⟨rfl, rfl, rfl, rfl⟩)
    clear hV hA
    go_enter Try.func17, Try.ntmps17
    go_wp2_with fail
    refine (ipx_any r g b a _ _ (unhide hA')).mono ?_
    rintro e w1 ⟨rfl, hb⟩
    have hT := hide ((Tr.start w r g b a r' g' b' a' 25 25 25).later hb)
    clear hb
    obtain ⟨⟨c0, c1, c2, c3, f0, f1, f2, f3⟩, ⟨d0, d1, d2, d3, g0, g1, g2, g3⟩, ⟨k0, k1, k2, k3, l0, l1, l2, l3⟩, hB⟩ := unhide hT
    have hBl := hide hB
    clear hB
    go_wp2
    obtain ⟨rfl, rfl, rfl, rfl⟩ := unhide hz
    exact bodyPost_ret (v := ag4 0 0 0 0) (by simp [results, Try.results17, go_sem, k0, k1, k2, k3]) rfl ⟨rfl, set4_below (unhide hBl) (by omega)⟩


set_option maxHeartbeats 1600000 in
theorem sout_any (r g b a r' g' b' a' V0 V1 V2 V3 : Int) (w : World) (hV : outsideOf (r, g, b, a) (r', g', b', a') = (V0, V1, V2, V3)) :
    Calls Try.prog 22 #[ag4 r g b a, ag4 r' g' b' a'] w fun e w' => e = .returned (ag4 V0 V1 V2 V3) ∧ Below w.heap.size w w' := by
  unfold outsideOf at hV
  by_cases hA : Pix (r, g, b, a)
  · by_cases hB : Pix (r', g', b', a')
    · rw [if_pos ⟨hA, hB⟩] at hV
      have hA' : Hid (decide (Pix (r, g, b, a)) = true) := hide (by simpa using hA)
      have hB' : Hid (decide (Pix (r', g', b', a')) = true) := hide (by simpa using hB)
      have hV' := hide hV
      have hP := hide (And.intro hA hB)
      clear hV hA hB
      go_enter Try.func22, Try.ntmps22
      go_wp2_with fail
      refine (spx_any r g b a _ _ (unhide hA')).mono ?_
      rintro e w1 ⟨rfl, hb⟩
      have hT := hide ((Tr.start w r g b a r' g' b' a' 25 25 25).later hb)
      clear hb
      obtain ⟨⟨c0, c1, c2, c3, _, _, _, _⟩, ⟨d0, d1, d2, d3, _, _, _, _⟩, _, _⟩ := unhide hT
      go_wp2_with fail
      refine (spx_any r' g' b' a' _ _ (unhide hB')).mono ?_
      rintro e w2 ⟨rfl, hb⟩
      have hT2 := hide ((unhide hT).later hb)
      clear hb hT c0 c1 c2 c3 d0 d1 d2 d3
      have hT := hT2
      clear hT2
      have ka : IntKind.i64.wrap (255 - a') = 255 - a' := wrap_sm (by have := (unhide hP).2.1.2.2.2; unfold Num at this; simp only at this; omega)
      obtain ⟨⟨c0, c1, c2, c3, f0, f1, f2, f3⟩, ⟨d0, d1, d2, d3, g0, g1, g2, g3⟩, ⟨k0, k1, k2, k3, l0, l1, l2, l3⟩, hB⟩ := unhide hT
      have hBl := hide hB
      clear hB
      go_wp2_with fail
      refine (sscale_any r g b a (255 - a') V0 V1 V2 V3 _ (unhide hP).1.1 (num_sub (unhide hP).2.1.2.2.2) (unhide hV')).mono ?_
      rintro e w3 ⟨rfl, hb⟩
      obtain ⟨k0, k1, k2, k3, l0, l1, l2, l3⟩ := (unhide hT).h2.below hb
      have hBl := hide (laterB (unhide hT).hb hb)
      clear hb
      go_wp2
      exact bodyPost_ret (v := ag4 V0 V1 V2 V3) (by simp [results, Try.results22, go_sem, k0, k1, k2, k3]) rfl ⟨rfl, set4_below (unhide hBl) (by omega)⟩
    · rw [if_neg (fun h => hB h.2)] at hV
      have hA' : Hid (decide (Pix (r, g, b, a)) = true) := hide (by simpa using hA)
      have hB' : Hid (decide (Pix (r', g', b', a')) = false) := hide (by simpa using hB)
      have hz : Hid (V0 = 0 ∧ V1 = 0 ∧ V2 = 0 ∧ V3 = 0) := hide (by cases hV; exact ⟨rfl, rfl, rfl, rfl⟩)
      clear hV hA hB
      go_enter Try.func22, Try.ntmps22
      go_wp2_with fail
      refine (spx_any r g b a _ _ (unhide hA')).mono ?_
      rintro e w1 ⟨rfl, hb⟩
      have hT := hide ((Tr.start w r g b a r' g' b' a' 25 25 25).later hb)
      clear hb
      obtain ⟨⟨c0, c1, c2, c3, _, _, _, _⟩, ⟨d0, d1, d2, d3, _, _, _, _⟩, _, _⟩ := unhide hT
      go_wp2_with fail
      refine (spx_any r' g' b' a' _ _ (unhide hB')).mono ?_
      rintro e w2 ⟨rfl, hb⟩
      have hT2 := hide ((unhide hT).later hb)
      clear hb hT c0 c1 c2 c3 d0 d1 d2 d3
      have hT := hT2
      clear hT2
      obtain ⟨⟨c0, c1, c2, c3, f0, f1, f2, f3⟩, ⟨d0, d1, d2, d3, g0, g1, g2, g3⟩, ⟨k0, k1, k2, k3, l0, l1, l2, l3⟩, hB⟩ := unhide hT
      have hBl := hide hB
      clear hB
      go_wp2
      obtain ⟨rfl, rfl, rfl, rfl⟩ := unhide hz
      exact bodyPost_ret (v := ag4 0 0 0 0) (by simp [results, Try.results22, go_sem, k0, k1, k2, k3]) rfl ⟨rfl, set4_below (unhide hBl) (by omega)⟩

  · rw [if_neg (fun h => hA h.1)] at hV
    have hA' : Hid (decide (Pix (r, g, b, a)) = false) := hide (by simpa using hA)
    have hz : Hid (V0 = 0 ∧ V1 = 0 ∧ V2 = 0 ∧ V3 = 0) := hide (by cases hV; exact ⟨rfl, rfl, rfl, rfl⟩)
    clear hV hA
    go_enter Try.func22, Try.ntmps22
    go_wp2_with fail
    refine (spx_any r g b a _ _ (unhide hA')).mono ?_
    rintro e w1 ⟨rfl, hb⟩
    have hT := hide ((Tr.start w r g b a r' g' b' a' 25 25 25).later hb)
    clear hb
    obtain ⟨⟨c0, c1, c2, c3, f0, f1, f2, f3⟩, ⟨d0, d1, d2, d3, g0, g1, g2, g3⟩, ⟨k0, k1, k2, k3, l0, l1, l2, l3⟩, hB⟩ := unhide hT
    have hBl := hide hB
    clear hB
    go_wp2
    obtain ⟨rfl, rfl, rfl, rfl⟩ := unhide hz
    exact bodyPost_ret (v := ag4 0 0 0 0) (by simp [results, Try.results22, go_sem, k0, k1, k2, k3]) rfl ⟨rfl, set4_below (unhide hBl) (by omega)⟩


set_option maxHeartbeats 1600000 in
theorem iout_any (r g b a r' g' b' a' V0 V1 V2 V3 : Int) (w : World) (hV : outsideOf (r, g, b, a) (r', g', b', a') = (V0, V1, V2, V3)) :
    Calls Try.prog 18 #[ag4 r g b a, ag4 r' g' b' a'] w fun e w' => e = .returned (ag4 V0 V1 V2 V3) ∧ Below w.heap.size w w' := by
  unfold outsideOf at hV
  by_cases hA : Pix (r, g, b, a)
  · by_cases hB : Pix (r', g', b', a')
    · rw [if_pos ⟨hA, hB⟩] at hV
      have hA' : Hid (decide (Pix (r, g, b, a)) = true) := hide (by simpa using hA)
      have hB' : Hid (decide (Pix (r', g', b', a')) = true) := hide (by simpa using hB)
      have hV' := hide hV
      have hP := hide (And.intro hA hB)
      clear hV hA hB
      go_enter Try.func18, Try.ntmps18
      go_wp2_with fail
      refine (ipx_any r g b a _ _ (unhide hA')).mono ?_
      rintro e w1 ⟨rfl, hb⟩
      have hT := hide ((Tr.start w r g b a r' g' b' a' 25 25 25).later hb)
      clear hb
      obtain ⟨⟨c0, c1, c2, c3, _, _, _, _⟩, ⟨d0, d1, d2, d3, _, _, _, _⟩, _, _⟩ := unhide hT
      go_wp2_with fail
      refine (ipx_any r' g' b' a' _ _ (unhide hB')).mono ?_
      rintro e w2 ⟨rfl, hb⟩
      have hT2 := hide ((unhide hT).later hb)
      clear hb hT c0 c1 c2 c3 d0 d1 d2 d3
      have hT := hT2
      clear hT2
      have ka : IntKind.i64.wrap (255 - a') = 255 - a' := wrap_sm (by have := (unhide hP).2.1.2.2.2; unfold Num at this; simp only at this; omega)
      obtain ⟨⟨c0, c1, c2, c3, f0, f1, f2, f3⟩, ⟨d0, d1, d2, d3, g0, g1, g2, g3⟩, ⟨k0, k1, k2, k3, l0, l1, l2, l3⟩, hB⟩ := unhide hT
      have hBl := hide hB
      clear hB
      go_wp2_with fail
      refine (ipart_any r g b a (255 - a') V0 V1 V2 V3 _ (unhide hP).1.1 (num_sub (unhide hP).2.1.2.2.2) (unhide hV')).mono ?_
      rintro e w3 ⟨rfl, hb⟩
      obtain ⟨k0, k1, k2, k3, l0, l1, l2, l3⟩ := (unhide hT).h2.below hb
      have hBl := hide (laterB (unhide hT).hb hb)
      clear hb
      go_wp2
      exact bodyPost_ret (v := ag4 V0 V1 V2 V3) (by simp [results, Try.results18, go_sem, k0, k1, k2, k3]) rfl ⟨rfl, set4_below (unhide hBl) (by omega)⟩
    · rw [if_neg (fun h => hB h.2)] at hV
      have hA' : Hid (decide (Pix (r, g, b, a)) = true) := hide (by simpa using hA)
      have hB' : Hid (decide (Pix (r', g', b', a')) = false) := hide (by simpa using hB)
      have hz : Hid (V0 = 0 ∧ V1 = 0 ∧ V2 = 0 ∧ V3 = 0) := hide (by cases hV; exact ⟨rfl, rfl, rfl, rfl⟩)
      clear hV hA hB
      go_enter Try.func18, Try.ntmps18
      go_wp2_with fail
      refine (ipx_any r g b a _ _ (unhide hA')).mono ?_
      rintro e w1 ⟨rfl, hb⟩
      have hT := hide ((Tr.start w r g b a r' g' b' a' 25 25 25).later hb)
      clear hb
      obtain ⟨⟨c0, c1, c2, c3, _, _, _, _⟩, ⟨d0, d1, d2, d3, _, _, _, _⟩, _, _⟩ := unhide hT
      go_wp2_with fail
      refine (ipx_any r' g' b' a' _ _ (unhide hB')).mono ?_
      rintro e w2 ⟨rfl, hb⟩
      have hT2 := hide ((unhide hT).later hb)
      clear hb hT c0 c1 c2 c3 d0 d1 d2 d3
      have hT := hT2
      clear hT2
      obtain ⟨⟨c0, c1, c2, c3, f0, f1, f2, f3⟩, ⟨d0, d1, d2, d3, g0, g1, g2, g3⟩, ⟨k0, k1, k2, k3, l0, l1, l2, l3⟩, hB⟩ := unhide hT
      have hBl := hide hB
      clear hB
      go_wp2
      obtain ⟨rfl, rfl, rfl, rfl⟩ := unhide hz
      exact bodyPost_ret (v := ag4 0 0 0 0) (by simp [results, Try.results18, go_sem, k0, k1, k2, k3]) rfl ⟨rfl, set4_below (unhide hBl) (by omega)⟩

  · rw [if_neg (fun h => hA h.1)] at hV
    have hA' : Hid (decide (Pix (r, g, b, a)) = false) := hide (by simpa using hA)
    have hz : Hid (V0 = 0 ∧ V1 = 0 ∧ V2 = 0 ∧ V3 = 0) := hide (by cases hV; exact ⟨rfl, rfl, rfl, rfl⟩)
    clear hV hA
    go_enter Try.func18, Try.ntmps18
    go_wp2_with fail
    refine (ipx_any r g b a _ _ (unhide hA')).mono ?_
    rintro e w1 ⟨rfl, hb⟩
    have hT := hide ((Tr.start w r g b a r' g' b' a' 25 25 25).later hb)
    clear hb
    obtain ⟨⟨c0, c1, c2, c3, f0, f1, f2, f3⟩, ⟨d0, d1, d2, d3, g0, g1, g2, g3⟩, ⟨k0, k1, k2, k3, l0, l1, l2, l3⟩, hB⟩ := unhide hT
    have hBl := hide hB
    clear hB
    go_wp2
    obtain ⟨rfl, rfl, rfl, rfl⟩ := unhide hz
    exact bodyPost_ret (v := ag4 0 0 0 0) (by simp [results, Try.results18, go_sem, k0, k1, k2, k3]) rfl ⟨rfl, set4_below (unhide hBl) (by omega)⟩


end Go.Proofs.Yteabmbggljpmoaa
