/-
  Contracts of a pixel over another, of the model and of the program; nothing that was there is written.
-/
import Derived.Test.YtmpbcmpjfcddoaaPfo
import Derived.Test.YtmpbcmpjfcddoaaPp
namespace Go.Proofs.Ytmpbcmpjfcddoaa
open Go.RowKit
set_option linter.unusedVariables false
set_option linter.unusedSimpArgs false

set_option maxHeartbeats 1600000 in
theorem iov_any (r g b a r' g' b' a' V0 V1 V2 V3 : Int) (w : World) (hV : overOf (r, g, b, a) (r', g', b', a') = (V0, V1, V2, V3)) :
    Calls Try.prog 25 #[ag4 r g b a, ag4 r' g' b' a'] w fun e w' => e = .returned (ag4 V0 V1 V2 V3) ∧ Below w.heap.size w w' := by
  unfold overOf at hV
  by_cases hA : Pix (r, g, b, a)
  · by_cases hB : Pix (r', g', b', a')
    · rw [if_pos ⟨hA, hB⟩] at hV
      have hA' : Hid (decide (Pix (r, g, b, a)) = true) := hide (by simpa using hA)
      have hB' : Hid (decide (Pix (r', g', b', a')) = true) := hide (by simpa using hB)
      have hV' := hide hV
      have hP := hide (And.intro hA hB)
      clear hV hA hB
      go_enter Try.func25, Try.ntmps25
      go_wp2_with fail
      refine (ipx_any r g b a _ _ (unhide hA')).mono ?_
      rintro e w1 ⟨rfl, hb⟩
      have hT := hide ((Tr.start w r g b a r' g' b' a' 29 29 29).later hb)
      clear hb
      obtain ⟨⟨c0, c1, c2, c3, _, _, _, _⟩, ⟨d0, d1, d2, d3, _, _, _, _⟩, _, _⟩ := unhide hT
      go_wp2_with fail
      refine (ipx_any r' g' b' a' _ _ (unhide hB')).mono ?_
      rintro e w2 ⟨rfl, hb⟩
      have hT2 := hide ((unhide hT).later hb)
      clear hb hT c0 c1 c2 c3 d0 d1 d2 d3
      have hT := hT2
      clear hT2
      obtain ⟨U0, U1, U2, U3, hU⟩ : ∃ U0 U1 U2 U3, scale (r', g', b', a') (255 - a) = (U0, U1, U2, U3) := ⟨_, _, _, _, rfl⟩
      have hn : Num (255 - a) := num_sub (unhide hP).1.1.2.2.2
      have hs := hide (scale_sm (unhide hP).2.1 hn hU)
      have ht := hide (ns_sm (unhide hP).1.1)
      have hV2 := unhide hV'
      unfold over at hV2
      simp only at hV2
      rw [hU] at hV2
      simp only [plusP] at hV2
      have hV3 := hide hV2
      have hU' := hide hU
      have hn' := hide hn
      have ka : IntKind.i64.wrap (255 - a) = 255 - a := wrap_sm (by have := (unhide ht).2.2.2; unfold Sm at this; omega)
      clear hU hV2 hn
      obtain ⟨⟨c0, c1, c2, c3, f0, f1, f2, f3⟩, ⟨d0, d1, d2, d3, g0, g1, g2, g3⟩, ⟨k0, k1, k2, k3, l0, l1, l2, l3⟩, hB⟩ := unhide hT
      have hBl := hide hB
      clear hB
      go_wp2_with fail
      go_region_held3 (fun w' => w'.cell? ⟨w.heap.size, 0, none⟩ = some (.int .i64 r) ∧ w'.cell? ⟨w.heap.size, 1, none⟩ = some (.int .i64 g) ∧ w'.cell? ⟨w.heap.size, 2, none⟩ = some (.int .i64 b) ∧ w'.cell? ⟨w.heap.size, 3, none⟩ = some (.int .i64 a) ∧ w'.cell? ⟨w.heap.size + 1, 0, none⟩ = some (.int .i64 r') ∧ w'.cell? ⟨w.heap.size + 1, 1, none⟩ = some (.int .i64 g') ∧ w'.cell? ⟨w.heap.size + 1, 2, none⟩ = some (.int .i64 b') ∧ w'.cell? ⟨w.heap.size + 1, 3, none⟩ = some (.int .i64 a') ∧ Below w.heap.size w w')
        (first | (with_reducible refine t2_keep ?_ hb; with_reducible assumption) | (with_reducible exact t2_drew (unhide hT).t2) | (with_reducible refine t2_set4 ?_ (by omega); with_reducible assumption))
        (first
          | (go_at_call 40; refine (ipart_any r' g' b' a' (255 - a) U0 U1 U2 U3 _ (unhide hP).2.1 (unhide hn') (unhide hU')).mono ?_; rintro e w3 ⟨rfl, hb⟩; have nb := (unhide hT).h2.drew.below hb; have ⟨n0, n1, n2, n3, o0, o1, o2, o3⟩ := nb)
          | (go_at_call 39; refine (plus_any r g b a U0 U1 U2 U3 _ (unhide ht) (unhide hs)).mono ?_; rintro e w4 ⟨rfl, hb⟩; have nb2 := nb.below hb; have ⟨q0, q1, q2, q3, p0, p1, p2, p3⟩ := nb2))
      all_goals
        rename_i hH
        have hE := hide hH.2.2.2.2.2.2.2.2
        have hV4 := unhide hV3
        cases hV4
        have hR := nb2.set4 (r + U0) (g + U1) (b + U2) (a + U3)
        go_wp2
        exact bodyPost_ret (v := ag4 (r + U0) (g + U1) (b + U2) (a + U3)) (by simp [results, Try.results25, go_sem, hR.c0, hR.c1, hR.c2, hR.c3]) rfl ⟨rfl, unhide hE⟩
    · rw [if_neg (fun h => hB h.2)] at hV
      have hA' : Hid (decide (Pix (r, g, b, a)) = true) := hide (by simpa using hA)
      have hB' : Hid (decide (Pix (r', g', b', a')) = false) := hide (by simpa using hB)
      have hz : Hid (V0 = 0 ∧ V1 = 0 ∧ V2 = 0 ∧ V3 = 0) := hide (by cases hV; exact ⟨rfl, rfl, rfl, rfl⟩)
      clear hV hA hB
      go_enter Try.func25, Try.ntmps25
      go_wp2_with fail
      refine (ipx_any r g b a _ _ (unhide hA')).mono ?_
      rintro e w1 ⟨rfl, hb⟩
      have hT := hide ((Tr.start w r g b a r' g' b' a' 29 29 29).later hb)
      clear hb
      obtain ⟨⟨c0, c1, c2, c3, _, _, _, _⟩, ⟨d0, d1, d2, d3, _, _, _, _⟩, _, _⟩ := unhide hT
      go_wp2_with fail
      refine (ipx_any r' g' b' a' _ _ (unhide hB')).mono ?_
      rintro e w2 ⟨rfl, hb⟩
      have hT2 := hide ((unhide hT).later hb)
      clear hb hT c0 c1 c2 c3 d0 d1 d2 d3
      have hT := hT2
      clear hT2
      obtain ⟨⟨c0, c1, c2, c3, f0, f1, f2, f3⟩, ⟨d0, d1, d2, d3, g0, g1, g2, g3⟩, ⟨k0, k1, k2, k3, l0, l1, l2, l3⟩, hB⟩ := unhide hT
      have hBl := hide hB
      clear hB
      go_wp2
      obtain ⟨rfl, rfl, rfl, rfl⟩ := unhide hz
      exact bodyPost_ret (v := ag4 0 0 0 0) (by simp [results, Try.results25, go_sem, k0, k1, k2, k3]) rfl ⟨rfl, set4_below (unhide hBl) (by omega)⟩

  · rw [if_neg (fun h => hA h.1)] at hV
    have hA' : Hid (decide (Pix (r, g, b, a)) = false) := hide (by simpa using hA)
    have hz : Hid (V0 = 0 ∧ V1 = 0 ∧ V2 = 0 ∧ V3 = 0) := hide (by cases hV; exact ⟨rfl, rfl, rfl, rfl⟩)
    clear hV hA
    go_enter Try.func25, Try.ntmps25
    go_wp2_with fail
    refine (ipx_any r g b a _ _ (unhide hA')).mono ?_
    rintro e w1 ⟨rfl, hb⟩
    have hT := hide ((Tr.start w r g b a r' g' b' a' 29 29 29).later hb)
    clear hb
    obtain ⟨⟨c0, c1, c2, c3, f0, f1, f2, f3⟩, ⟨d0, d1, d2, d3, g0, g1, g2, g3⟩, ⟨k0, k1, k2, k3, l0, l1, l2, l3⟩, hB⟩ := unhide hT
    have hBl := hide hB
    clear hB
    go_wp2
    obtain ⟨rfl, rfl, rfl, rfl⟩ := unhide hz
    exact bodyPost_ret (v := ag4 0 0 0 0) (by simp [results, Try.results25, go_sem, k0, k1, k2, k3]) rfl ⟨rfl, set4_below (unhide hBl) (by omega)⟩


end Go.Proofs.Ytmpbcmpjfcddoaa
