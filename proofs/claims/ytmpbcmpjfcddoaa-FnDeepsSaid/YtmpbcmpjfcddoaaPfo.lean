/-
  Contract of the model's pixel over another; nothing that was there is written.
-/
import Derived.Test.YtmpbcmpjfcddoaaPx2
import Derived.Test.YtmpbcmpjfcddoaaPx3
namespace Go.Proofs.Ytmpbcmpjfcddoaa
open Go.RowKit
set_option linter.unusedVariables false
set_option linter.unusedSimpArgs false

theorem part_sm {a b : Int} (ha : Num a) (hb : Num b) : Sm (part a b) := by
  have := part_bd ha hb
  unfold Sm Num at *
  omega
theorem num_sm {a : Int} (ha : Num a) : Sm a := by unfold Sm Num at *; omega
theorem scale_sm {r g b a n V0 V1 V2 V3 : Int} (hp : PxNs (r, g, b, a)) (hn : Num n) (hV : scale (r, g, b, a) n = (V0, V1, V2, V3)) : Sm V0 ∧ Sm V1 ∧ Sm V2 ∧ Sm V3 := by
  unfold scale at hV
  cases hV
  exact ⟨part_sm hp.1 hn, part_sm hp.2.1 hn, part_sm hp.2.2.1 hn, part_sm hp.2.2.2 hn⟩
theorem ns_sm {r g b a : Int} (hp : PxNs (r, g, b, a)) : Sm r ∧ Sm g ∧ Sm b ∧ Sm a := ⟨num_sm hp.1, num_sm hp.2.1, num_sm hp.2.2.1, num_sm hp.2.2.2⟩
set_option maxHeartbeats 1600000 in
theorem sover_any (r g b a r' g' b' a' V0 V1 V2 V3 : Int) (w : World) (hp : PxNs (r, g, b, a)) (hq : PxNs (r', g', b', a')) (hV : over (r, g, b, a) (r', g', b', a') = (V0, V1, V2, V3)) :
    Calls Try.prog 26 #[ag4 r g b a, ag4 r' g' b' a'] w fun e w' => e = .returned (ag4 V0 V1 V2 V3) ∧ Below w.heap.size w w' := by
  obtain ⟨U0, U1, U2, U3, hU⟩ : ∃ U0 U1 U2 U3, scale (r', g', b', a') (255 - a) = (U0, U1, U2, U3) := ⟨_, _, _, _, rfl⟩
  have hn : Num (255 - a) := num_sub hp.2.2.2
  obtain ⟨s0, s1, s2, s3⟩ := scale_sm hq hn hU
  obtain ⟨t0, t1, t2, t3⟩ := ns_sm hp
  unfold over at hV
  simp only at hV
  rw [hU] at hV
  simp only [plusP] at hV
  have hU' := hide hU
  have hV' := hide hV
  have hpq := hide (And.intro hn (And.intro hp hq))
  have ka : IntKind.i64.wrap (255 - a) = 255 - a := wrap_sm (by unfold Sm at t3; omega)
  have y0 : IntKind.i64.wrap (r + U0) = r + U0 := wrap_sm (by unfold Sm at t0 s0; omega)
  have y1 : IntKind.i64.wrap (g + U1) = g + U1 := wrap_sm (by unfold Sm at t1 s1; omega)
  have y2 : IntKind.i64.wrap (b + U2) = b + U2 := wrap_sm (by unfold Sm at t2 s2; omega)
  have y3 : IntKind.i64.wrap (a + U3) = a + U3 := wrap_sm (by unfold Sm at t3 s3; omega)
  clear hU hV hp hq hn s0 s1 s2 s3 t0 t1 t2 t3
  go_enter Try.func26, Try.ntmps26
  go_wp2_with fail
  refine (sscale_any r' g' b' a' (255 - a) U0 U1 U2 U3 _ (unhide hpq).2.2 (unhide hpq).1 (unhide hU')).mono ?_
  rintro e w1 ⟨rfl, hb⟩
  have hT := hide ((Tr.start w r g b a r' g' b' a' 29 29 29).later hb)
  clear hb
  obtain ⟨⟨c0, c1, c2, c3, f0, f1, f2, f3⟩, ⟨d0, d1, d2, d3, g0, g1, g2, g3⟩, ⟨k0, k1, k2, k3, l0, l1, l2, l3⟩, hB⟩ := unhide hT
  have hBl := hide hB
  clear hB
  have hl2 : w.heap.size + 1 + 1 < w1.heap.size := (unhide hT).h2.lt
  have hl0 : w.heap.size < w1.heap.size := by omega
  have hl1 : w.heap.size + 1 < w1.heap.size := by omega
  clear hl2
  have hl2 : w.heap.size + 1 + 1 < w1.heap.size := (unhide hT).h2.lt
  have hV2 := unhide hV'
  go_wp2
  cases hV2
  have hR := ((unhide hT).h2.set4 (r + U0) (g + U1) (b + U2) (a + U3)).below ((Below.refl _ _).alloc (Nat.le_refl _) (.cells #[.int .i64 U0, .int .i64 U1, .int .i64 U2, .int .i64 U3] 29))
  exact bodyPost_ret (v := ag4 (r + U0) (g + U1) (b + U2) (a + U3)) (by simp [results, Try.results26, go_sem, hR.c0, hR.c1, hR.c2, hR.c3]) rfl ⟨rfl, (set4_below (unhide hBl) (by omega)).alloc (by simp; omega) _⟩

end Go.Proofs.Ytmpbcmpjfcddoaa
