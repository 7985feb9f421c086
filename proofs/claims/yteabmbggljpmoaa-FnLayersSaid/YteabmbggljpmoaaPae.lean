/-
  Contract of the program's sum of pixels; nothing that was there is written.
-/
import Derived.Test.YteabmbggljpmoaaPfo
namespace Go.Proofs.Yteabmbggljpmoaa
open Go.RowKit
set_option linter.unusedVariables false
set_option linter.unusedSimpArgs false

set_option maxHeartbeats 1600000 in
theorem iad_any (r g b a r' g' b' a' V0 V1 V2 V3 : Int) (w : World) (hV : addedOf (r, g, b, a) (r', g', b', a') = (V0, V1, V2, V3)) :
    Calls Try.prog 19 #[ag4 r g b a, ag4 r' g' b' a'] w fun e w' => e = .returned (ag4 V0 V1 V2 V3) ∧ Below w.heap.size w w' := by
  unfold addedOf at hV
  by_cases hA : Pix (r, g, b, a)
  · by_cases hB : Pix (r', g', b', a')
    · rw [if_pos ⟨hA, hB⟩] at hV
      have hA' : Hid (decide (Pix (r, g, b, a)) = true) := hide (by simpa using hA)
      have hB' : Hid (decide (Pix (r', g', b', a')) = true) := hide (by simpa using hB)
      have hV' := hide hV
      have hP := hide (And.intro hA hB)
      clear hV hA hB
      go_enter Try.func19, Try.ntmps19
      go_wp2_with fail
      refine (ipx_any r g b a _ _ (unhide hA')).mono ?_
      rintro e w1 ⟨rfl, hb⟩
      have hT := hide ((Tr.start w r g b a r' g' b' a' 25 25 25).later hb)
      clear hb
      obtain ⟨⟨c0, c1, c2, c3, _, _, _, _⟩, ⟨d0, d1, d2, d3, _, _, _, _⟩, _, _⟩ := unhide hT
      go_wp2_with fail
      refine (ipx_any r' g' b' a' _ _ (unhide hB')).mono ?_
      rintro e w2 ⟨rfl, hb⟩
      have hT2 := hide ((unhide hT).later hb)
      clear hb hT c0 c1 c2 c3 d0 d1 d2 d3
      have hT := hT2
      clear hT2
      have ht := hide (ns_sm (unhide hP).1.1)
      have hs := hide (ns_sm (unhide hP).2.1)
      obtain ⟨v0, v1, v2, v3⟩ : min 255 (r + r') = V0 ∧ min 255 (g + g') = V1 ∧ min 255 (b + b') = V2 ∧ min 255 (a + a') = V3 := by have := unhide hV'; unfold least plusP at this; cases this; exact ⟨rfl, rfl, rfl, rfl⟩
      obtain ⟨M0, hM0⟩ : ∃ M, r + r' = M := ⟨_, rfl⟩
      have s0 : IntKind.i64.wrap (r + r') = M0 := by rw [← hM0]; exact wrap_sm (by have h1 := (unhide ht).1; have h2 := (unhide hs).1; unfold Sm at h1 h2; omega)
      rw [hM0] at v0
      have u0 := hide v0
      have z0 := hide hM0
      clear hM0 v0
      obtain ⟨M1, hM1⟩ : ∃ M, g + g' = M := ⟨_, rfl⟩
      have s1 : IntKind.i64.wrap (g + g') = M1 := by rw [← hM1]; exact wrap_sm (by have h1 := (unhide ht).2.1; have h2 := (unhide hs).2.1; unfold Sm at h1 h2; omega)
      rw [hM1] at v1
      have u1 := hide v1
      have z1 := hide hM1
      clear hM1 v1
      obtain ⟨M2, hM2⟩ : ∃ M, b + b' = M := ⟨_, rfl⟩
      have s2 : IntKind.i64.wrap (b + b') = M2 := by rw [← hM2]; exact wrap_sm (by have h1 := (unhide ht).2.2.1; have h2 := (unhide hs).2.2.1; unfold Sm at h1 h2; omega)
      rw [hM2] at v2
      have u2 := hide v2
      have z2 := hide hM2
      clear hM2 v2
      obtain ⟨M3, hM3⟩ : ∃ M, a + a' = M := ⟨_, rfl⟩
      have s3 : IntKind.i64.wrap (a + a') = M3 := by rw [← hM3]; exact wrap_sm (by have h1 := (unhide ht).2.2.2; have h2 := (unhide hs).2.2.2; unfold Sm at h1 h2; omega)
      rw [hM3] at v3
      have u3 := hide v3
      have z3 := hide hM3
      clear hM3 v3
      obtain ⟨⟨c0, c1, c2, c3, f0, f1, f2, f3⟩, ⟨d0, d1, d2, d3, g0, g1, g2, g3⟩, ⟨k0, k1, k2, k3, l0, l1, l2, l3⟩, hB⟩ := unhide hT
      have hBl := hide hB
      clear hB
      go_wp2_with fail
      refine (plus_any r g b a r' g' b' a' _ (unhide ht) (unhide hs)).mono ?_
      rw [unhide z0, unhide z1, unhide z2, unhide z3]
      rintro e w3 ⟨rfl, hb⟩
      have hT3 := hide ((unhide hT).later hb)
      obtain ⟨n0, n1, n2, n3, o0, o1, o2, o3⟩ := (unhide hT3).h2
      clear hb
      have hl2 : w.heap.size + 1 + 1 < w3.heap.size := (unhide hT3).h2.lt
      obtain ⟨e0, e1, e2, e3⟩ : min M0 255 = V0 ∧ min M1 255 = V1 ∧ min M2 255 = V2 ∧ min M3 255 = V3 := by
        have h0 := unhide u0; have h1 := unhide u1; have h2 := unhide u2; have h3 := unhide u3
        omega
      go_wp2
      have hR := ((unhide hT3).h2.set4 V0 V1 V2 V3).below ((Below.refl _ _).alloc (Nat.le_refl _) (.cells #[.int .i64 M0, .int .i64 M1, .int .i64 M2, .int .i64 M3] 25))
      exact bodyPost_ret (v := ag4 V0 V1 V2 V3) (by simp [results, Try.results19, go_sem, hR.c0, hR.c1, hR.c2, hR.c3]) rfl ⟨rfl, (set4_below (unhide hT3).hb (by omega)).alloc (by simp; omega) _⟩
    · rw [if_neg (fun h => hB h.2)] at hV
      have hA' : Hid (decide (Pix (r, g, b, a)) = true) := hide (by simpa using hA)
      have hB' : Hid (decide (Pix (r', g', b', a')) = false) := hide (by simpa using hB)
      have hz : Hid (V0 = 0 ∧ V1 = 0 ∧ V2 = 0 ∧ V3 = 0) := hide (by cases hV; exact ⟨rfl, rfl, rfl, rfl⟩)
      clear hV hA hB
      go_enter Try.func19, Try.ntmps19
      go_wp2_with fail
      refine (ipx_any r g b a _ _ (unhide hA')).mono ?_
      rintro e w1 ⟨rfl, hb⟩
      have hT := hide ((Tr.start w r g b a r' g' b' a' 25 25 25).later hb)
      clear hb
      obtain ⟨⟨c0, c1, c2, c3, _, _, _, _⟩, ⟨d0, d1, d2, d3, _, _, _, _⟩, _, _⟩ := unhide hT
      go_wp2_with fail
      refine (ipx_any r' g' b' a' _ _ (unhide hB')).mono ?_
      rintro e w2 ⟨rfl, hb⟩
      have hT2 := hide ((unhide hT).later hb)
      clear hb hT c0 c1 c2 c3 d0 d1 d2 d3
      have hT := hT2
      clear hT2
      obtain ⟨⟨c0, c1, c2, c3, f0, f1, f2, f3⟩, ⟨d0, d1, d2, d3, g0, g1, g2, g3⟩, ⟨k0, k1, k2, k3, l0, l1, l2, l3⟩, hB⟩ := unhide hT
      have hBl := hide hB
      clear hB
      go_wp2
      obtain ⟨rfl, rfl, rfl, rfl⟩ := unhide hz
      exact bodyPost_ret (v := ag4 0 0 0 0) (by simp [results, Try.results19, go_sem, k0, k1, k2, k3]) rfl ⟨rfl, set4_below (unhide hBl) (by omega)⟩

  · rw [if_neg (fun h => hA h.1)] at hV
    have hA' : Hid (decide (Pix (r, g, b, a)) = false) := hide (by simpa using hA)
    have hz : Hid (V0 = 0 ∧ V1 = 0 ∧ V2 = 0 ∧ V3 = 0) := hide (by cases hV; exact ⟨rfl, rfl, rfl, rfl⟩)
    clear hV hA
    go_enter Try.func19, Try.ntmps19
    go_wp2_with fail
    refine (ipx_any r g b a _ _ (unhide hA')).mono ?_
    rintro e w1 ⟨rfl, hb⟩
    have hT := hide ((Tr.start w r g b a r' g' b' a' 25 25 25).later hb)
    clear hb
    obtain ⟨⟨c0, c1, c2, c3, f0, f1, f2, f3⟩, ⟨d0, d1, d2, d3, g0, g1, g2, g3⟩, ⟨k0, k1, k2, k3, l0, l1, l2, l3⟩, hB⟩ := unhide hT
    have hBl := hide hB
    clear hB
    go_wp2
    obtain ⟨rfl, rfl, rfl, rfl⟩ := unhide hz
    exact bodyPost_ret (v := ag4 0 0 0 0) (by simp [results, Try.results19, go_sem, k0, k1, k2, k3]) rfl ⟨rfl, set4_below (unhide hBl) (by omega)⟩


end Go.Proofs.Yteabmbggljpmoaa
