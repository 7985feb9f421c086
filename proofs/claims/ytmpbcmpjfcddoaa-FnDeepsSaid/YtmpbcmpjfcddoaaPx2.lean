/-
  Contracts over pixels: sums and parts of pixels, one over another; nothing that was there is written.
-/
import Derived.Test.YtmpbcmpjfcddoaaPx1
import Derived.Test.YtmpbcmpjfcddoaaQL
namespace Go.Proofs.Ytmpbcmpjfcddoaa
open Go.RowKit
set_option linter.unusedVariables false
set_option linter.unusedSimpArgs false


theorem below_drewN {N : Nat} {W w : World} (h : Below N W w) (n : Nat) : Below N W (w.drewN n) := ⟨h.os, h.tape, h.output, h.size, h.block⟩
theorem set4B {N : Nat} {w w1 : World} {k : Nat} {u v s t : Value} (h : Below N w w1) (hg : N ≤ k) : Below N w ((((w1.setCell ⟨k, 0, none⟩ u).setCell ⟨k, 1, none⟩ v).setCell ⟨k, 2, none⟩ s).setCell ⟨k, 3, none⟩ t) :=
  (((h.setCell hg _).setCell hg _).setCell hg _).setCell hg _
theorem wrap_sm {x : Int} (h : -100000000000 ≤ x ∧ x ≤ 100000000000) : IntKind.i64.wrap x = x := by rw [IntKind.wrap_i64]; omega
def Sm (x : Int) : Prop := -10000000 ≤ x ∧ x ≤ 10000000
set_option maxHeartbeats 800000 in
theorem plus_any (r g b a r' g' b' a' : Int) (w : World) (h1 : Sm r ∧ Sm g ∧ Sm b ∧ Sm a) (h2 : Sm r' ∧ Sm g' ∧ Sm b' ∧ Sm a') :
    Calls Try.prog 39 #[ag4 r g b a, ag4 r' g' b' a'] w fun e w' => e = .returned (ag4 (r + r') (g + g') (b + b') (a + a')) ∧ Below w.heap.size w w' := by
  unfold Sm at h1 h2
  obtain ⟨⟨p0, p1⟩, ⟨p2, p3⟩, ⟨p4, p5⟩, p6, p7⟩ := h1
  obtain ⟨⟨q0, q1⟩, ⟨q2, q3⟩, ⟨q4, q5⟩, q6, q7⟩ := h2
  have k0 : IntKind.i64.wrap (r + r') = r + r' := wrap_sm (by omega)
  have k1 : IntKind.i64.wrap (g + g') = g + g' := wrap_sm (by omega)
  have k2 : IntKind.i64.wrap (b + b') = b + b' := wrap_sm (by omega)
  have k3 : IntKind.i64.wrap (a + a') = a + a' := wrap_sm (by omega)
  clear p0 p1 p2 p3 p4 p5 p6 p7 q0 q1 q2 q3 q4 q5 q6 q7
  go_enter Try.func39, Try.ntmps39
  go_wp2
  exact bodyPost_ret (v := ag4 (r + r') (g + g') (b + b') (a + a')) (by simp [results, Try.results39, go_sem]) rfl ⟨rfl, ((((Below.refl _ _).alloc (Nat.le_refl _) _).alloc (by simp) _).alloc (by simp; omega) _)⟩


theorem Bx.new2 (w : World) (o : Obj) (T : TypeId) (x y z a : Int) : Bx ((w.alloc o).alloc (.cells #[.int .i64 x, .int .i64 y, .int .i64 z, .int .i64 a] T)) (w.heap.size + 1) x y z a := by
  have := Bx.new (w.alloc o) T x y z a
  rwa [sz_alloc] at this
theorem keepD {w w0 : World} {g h : Nat} {r s t u x y z a : Int} (hh : w0.cell? ⟨g, 0, none⟩ = some (.int .i64 r) ∧ w0.cell? ⟨g, 1, none⟩ = some (.int .i64 s) ∧ w0.cell? ⟨g, 2, none⟩ = some (.int .i64 t) ∧ w0.cell? ⟨g, 3, none⟩ = some (.int .i64 u)) :
    w0.drew.cell? ⟨g, 0, none⟩ = some (.int .i64 r) ∧ w0.drew.cell? ⟨g, 1, none⟩ = some (.int .i64 s) ∧ w0.drew.cell? ⟨g, 2, none⟩ = some (.int .i64 t) ∧ w0.drew.cell? ⟨g, 3, none⟩ = some (.int .i64 u) := hh


set_option maxHeartbeats 1600000 in
theorem sscale_any (r g b a n V0 V1 V2 V3 : Int) (w : World) (hp : PxNs (r, g, b, a)) (hn : Num n) (hV : scale (r, g, b, a) n = (V0, V1, V2, V3)) :
    Calls Try.prog 41 #[ag4 r g b a, .int .i64 n] w fun e w' => e = .returned (ag4 V0 V1 V2 V3) ∧ Below w.heap.size w w' := by
  obtain ⟨i0, i1, i2, i3⟩ := hp
  simp only at i0 i1 i2 i3
  unfold scale at hV
  injection hV with v0 hV
  injection hV with v1 hV
  injection hV with v2 v3
  simp only at v0 v1 v2 v3

  have u0 := hide v0
  have u1 := hide v1
  have u2 := hide v2
  have u3 := hide v3
  clear v0 v1 v2 v3
  go_enter Try.func41, Try.ntmps41
  go_wp2_with fail
  apply wp_region_quiet_last
  case ht =>
    repeat (first | exact snoc_nil | apply snoc_cons)
  case hm => kernel_rfl
  case hB => kernel_rfl
  case hW => kernel_rfl
  repeat (go_big_quiet_step (first 
      | (go_at_call 52; exact Calls.quiet_of_same (spart_any _ _ _ _ (by assumption) (by assumption) rfl))))
  refine wpQuiet_nil ?_
  intro wq hwq
  obtain ⟨nq, hwq'⟩ := hwq
  subst hwq'

  go_wp2
  exact bodyPost_ret (v := ag4 V0 V1 V2 V3) (by simp [results, Try.results41, go_sem, unhide u0, unhide u1, unhide u2, unhide u3]) rfl ⟨rfl, set4B (below_drewN (((Below.refl _ _).alloc (Nat.le_refl _) _).alloc (by simp) _) _) (by omega)⟩

end Go.Proofs.Ytmpbcmpjfcddoaa
