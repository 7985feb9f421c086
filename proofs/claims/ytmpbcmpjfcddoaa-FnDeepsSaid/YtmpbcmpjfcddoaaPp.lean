/-
  Contract of the program's part of a pixel; nothing that was there is written.
-/
import Derived.Test.YtmpbcmpjfcddoaaPx2
namespace Go.Proofs.Ytmpbcmpjfcddoaa
open Go.RowKit
set_option linter.unusedVariables false
set_option linter.unusedSimpArgs false

set_option maxHeartbeats 1600000 in
theorem ipart_any (r g b a n V0 V1 V2 V3 : Int) (w : World) (hp : PxNs (r, g, b, a)) (hn : Num n) (hV : scale (r, g, b, a) n = (V0, V1, V2, V3)) :
    Calls Try.prog 40 #[ag4 r g b a, .int .i64 n] w fun e w' => e = .returned (ag4 V0 V1 V2 V3) ∧ Below w.heap.size w w' := by
  obtain ⟨i0, i1, i2, i3⟩ := hp
  simp only at i0 i1 i2 i3
  unfold scale at hV
  injection hV with v0 hV
  injection hV with v1 hV
  injection hV with v2 v3
  simp only at v0 v1 v2 v3
  obtain ⟨M0, hM0⟩ : ∃ M, r * n = M := ⟨_, rfl⟩
  have m0 : IntKind.i64.wrap (r * n) = M0 := by have := mul_num i0 hn; rw [IntKind.wrap_i64, ← hM0]; omega
  have y0 : -10000000000000 ≤ M0 ∧ M0 ≤ 10000000000000 := by have := mul_num i0 hn; omega
  rw [show part r n = rnd M0 255 by unfold part; rw [hM0]] at v0
  clear hM0
  obtain ⟨M1, hM1⟩ : ∃ M, g * n = M := ⟨_, rfl⟩
  have m1 : IntKind.i64.wrap (g * n) = M1 := by have := mul_num i1 hn; rw [IntKind.wrap_i64, ← hM1]; omega
  have y1 : -10000000000000 ≤ M1 ∧ M1 ≤ 10000000000000 := by have := mul_num i1 hn; omega
  rw [show part g n = rnd M1 255 by unfold part; rw [hM1]] at v1
  clear hM1
  obtain ⟨M2, hM2⟩ : ∃ M, b * n = M := ⟨_, rfl⟩
  have m2 : IntKind.i64.wrap (b * n) = M2 := by have := mul_num i2 hn; rw [IntKind.wrap_i64, ← hM2]; omega
  have y2 : -10000000000000 ≤ M2 ∧ M2 ≤ 10000000000000 := by have := mul_num i2 hn; omega
  rw [show part b n = rnd M2 255 by unfold part; rw [hM2]] at v2
  clear hM2
  obtain ⟨M3, hM3⟩ : ∃ M, a * n = M := ⟨_, rfl⟩
  have m3 : IntKind.i64.wrap (a * n) = M3 := by have := mul_num i3 hn; rw [IntKind.wrap_i64, ← hM3]; omega
  have y3 : -10000000000000 ≤ M3 ∧ M3 ≤ 10000000000000 := by have := mul_num i3 hn; omega
  rw [show part a n = rnd M3 255 by unfold part; rw [hM3]] at v3
  clear hM3
  have u0 := hide v0
  have u1 := hide v1
  have u2 := hide v2
  have u3 := hide v3
  clear v0 v1 v2 v3
  go_enter Try.func40, Try.ntmps40
  go_wp2_with fail
  apply wp_region_quiet_last
  case ht =>
    repeat (first | exact snoc_nil | apply snoc_cons)
  case hm => kernel_rfl
  case hB => kernel_rfl
  case hW => kernel_rfl
  repeat (go_big_quiet_step (first 
      | (go_at_call 51; exact Calls.quiet_of_same (irnd_any _ 255 _ _ (by omega) (by omega) (by assumption) rfl))))
  refine wpQuiet_nil ?_
  intro wq hwq
  obtain ⟨nq, hwq'⟩ := hwq
  subst hwq'

  go_wp2
  exact bodyPost_ret (v := ag4 V0 V1 V2 V3) (by simp [results, Try.results40, go_sem, unhide u0, unhide u1, unhide u2, unhide u3]) rfl ⟨rfl, set4B (below_drewN (((Below.refl _ _).alloc (Nat.le_refl _) _).alloc (by simp) _) _) (by omega)⟩

end Go.Proofs.Ytmpbcmpjfcddoaa
