/-
  Contracts over pixels: copies, comparisons, what is a pixel, parts and sums; nothing that was there is written.
-/
import Derived.Test.YtmpbcmpjfcddoaaBas
namespace Go.Proofs.Ytmpbcmpjfcddoaa
open Go.RowKit
set_option linter.unusedVariables false
set_option linter.unusedSimpArgs false


set_option maxHeartbeats 800000 in
theorem tok1_any (r g b a : Int) (w : World) : Calls Try.prog 42 #[ag4 r g b a] w fun e w' => e = .returned (ag4 r g b a) ∧ Below w.heap.size w w' := by
  go_enter Try.func42, Try.ntmps42
  go_wp2
  exact bodyPost_ret (v := ag4 r g b a) (by simp [results, Try.results42, go_sem]) rfl ⟨rfl, ((((Below.refl _ _).alloc (Nat.le_refl _) _).alloc (by simp) _).alloc (by simp; omega) _)⟩


set_option maxHeartbeats 800000 in
theorem eqk_any (r g b a : Int) (w : World) : Calls Try.prog 14 #[ag4 r g b a, ag4 r g b a] w fun e w' => e = .returned (.bool true) ∧ Below w.heap.size w w' := by
  have e1 : (r != r) = false := by simp
  have e2 : (g != g) = false := by simp
  have e3 : (b != b) = false := by simp
  have e4 : (a != a) = false := by simp
  go_enter Try.func14, Try.ntmps14
  go_wp2
  go_ret
  exact ⟨rfl, (((Below.refl _ _).alloc (Nat.le_refl _) _).alloc (by simp) _)⟩


set_option maxHeartbeats 1600000 in
theorem ns_any (r g b a : Int) (v : Bool) (w : World) (hv : decide (PxNs (r, g, b, a)) = v) :
    Calls Try.prog 50 #[ag4 r g b a] w fun e w' => e = .returned (.bool v) ∧ Below w.heap.size w w' := by
  rw [ns_dec] at hv
  subst hv
  simp only
  generalize hA : decide (Num r) = A
  have hA' := hide hA
  clear hA
  generalize hB : decide (Num g) = B
  have hB' := hide hB
  clear hB
  generalize hC : decide (Num b) = C
  have hC' := hide hC
  clear hC
  generalize hD : decide (Num a) = D
  have hD' := hide hD
  clear hD
  cases A
  · go_enter Try.func50, Try.ntmps50
    go_wp2_with fail
    refine (num_any r _ _ (unhide hA')).mono ?_
    rintro e w1 ⟨rfl, hwA⟩
    have hw1 := hwA.symm
    subst hw1
    go_wp2
    go_ret
    exact ⟨ret_bool (by simp), ((Below.refl _ _).alloc (Nat.le_refl _) _)⟩
  cases B
  · go_enter Try.func50, Try.ntmps50
    go_wp2_with fail
    refine (num_any r _ _ (unhide hA')).mono ?_
    rintro e w1 ⟨rfl, hwA⟩
    have hw1 := hwA.symm
    subst hw1
    go_wp2_with fail
    refine (num_any g _ _ (unhide hB')).mono ?_
    rintro e w1 ⟨rfl, hwB⟩
    have hw1 := hwB.symm
    subst hw1
    go_wp2
    go_ret
    exact ⟨ret_bool (by simp), ((Below.refl _ _).alloc (Nat.le_refl _) _)⟩
  cases C
  · go_enter Try.func50, Try.ntmps50
    go_wp2_with fail
    refine (num_any r _ _ (unhide hA')).mono ?_
    rintro e w1 ⟨rfl, hwA⟩
    have hw1 := hwA.symm
    subst hw1
    go_wp2_with fail
    refine (num_any g _ _ (unhide hB')).mono ?_
    rintro e w1 ⟨rfl, hwB⟩
    have hw1 := hwB.symm
    subst hw1
    go_wp2_with fail
    refine (num_any b _ _ (unhide hC')).mono ?_
    rintro e w1 ⟨rfl, hwC⟩
    have hw1 := hwC.symm
    subst hw1
    go_wp2
    go_ret
    exact ⟨ret_bool (by simp), ((Below.refl _ _).alloc (Nat.le_refl _) _)⟩
  · go_enter Try.func50, Try.ntmps50
    go_wp2_with fail
    refine (num_any r _ _ (unhide hA')).mono ?_
    rintro e w1 ⟨rfl, hwA⟩
    have hw1 := hwA.symm
    subst hw1
    go_wp2_with fail
    refine (num_any g _ _ (unhide hB')).mono ?_
    rintro e w1 ⟨rfl, hwB⟩
    have hw1 := hwB.symm
    subst hw1
    go_wp2_with fail
    refine (num_any b _ _ (unhide hC')).mono ?_
    rintro e w1 ⟨rfl, hwC⟩
    have hw1 := hwC.symm
    subst hw1
    go_wp2_with fail
    refine (num_any a _ _ (unhide hD')).mono ?_
    rintro e w1 ⟨rfl, hwD⟩
    have hw1 := hwD.symm
    subst hw1
    go_wp2
    go_ret
    exact ⟨ret_bool (by simp), ((Below.refl _ _).alloc (Nat.le_refl _) _)⟩

set_option maxHeartbeats 1600000 in
theorem spx_any (r g b a : Int) (v : Bool) (w : World) (hv : decide (Pix (r, g, b, a)) = v) :
    Calls Try.prog 36 #[ag4 r g b a] w fun e w' => e = .returned (.bool v) ∧ Below w.heap.size w w' := by
  rw [spix_dec] at hv
  subst hv
  simp only
  generalize hA : decide (Num a) = A
  have hA' := hide hA
  clear hA
  generalize hB : (decide (0 ≤ r) && decide (r ≤ a)) = B
  have hB' := hide hB
  clear hB
  generalize hC : (decide (0 ≤ g) && decide (g ≤ a)) = C
  have hC' := hide hC
  clear hC
  generalize hD : (decide (0 ≤ b) && decide (b ≤ a)) = D
  have hD' := hide hD
  clear hD
  cases A
  · go_enter Try.func36, Try.ntmps36
    go_wp2_with fail
    refine (byte_any a _ _ (unhide hA')).mono ?_
    rintro e w1 ⟨rfl, hwA⟩
    have hw1 := hwA.symm
    subst hw1
    go_wp2
    go_ret
    exact ⟨ret_bool (by simp), ((Below.refl _ _).alloc (Nat.le_refl _) _)⟩
  cases B
  · go_enter Try.func36, Try.ntmps36
    go_wp2_with fail
    refine (byte_any a _ _ (unhide hA')).mono ?_
    rintro e w1 ⟨rfl, hwA⟩
    have hw1 := hwA.symm
    subst hw1
    go_wp2_with fail
    refine (in_any r 0 a _ _ (unhide hB')).mono ?_
    rintro e w1 ⟨rfl, hwB⟩
    have hw1 := hwB.symm
    subst hw1
    go_wp2
    go_ret
    exact ⟨ret_bool (by simp), ((Below.refl _ _).alloc (Nat.le_refl _) _)⟩
  cases C
  · go_enter Try.func36, Try.ntmps36
    go_wp2_with fail
    refine (byte_any a _ _ (unhide hA')).mono ?_
    rintro e w1 ⟨rfl, hwA⟩
    have hw1 := hwA.symm
    subst hw1
    go_wp2_with fail
    refine (in_any r 0 a _ _ (unhide hB')).mono ?_
    rintro e w1 ⟨rfl, hwB⟩
    have hw1 := hwB.symm
    subst hw1
    go_wp2_with fail
    refine (in_any g 0 a _ _ (unhide hC')).mono ?_
    rintro e w1 ⟨rfl, hwC⟩
    have hw1 := hwC.symm
    subst hw1
    go_wp2
    go_ret
    exact ⟨ret_bool (by simp), ((Below.refl _ _).alloc (Nat.le_refl _) _)⟩
  · go_enter Try.func36, Try.ntmps36
    go_wp2_with fail
    refine (byte_any a _ _ (unhide hA')).mono ?_
    rintro e w1 ⟨rfl, hwA⟩
    have hw1 := hwA.symm
    subst hw1
    go_wp2_with fail
    refine (in_any r 0 a _ _ (unhide hB')).mono ?_
    rintro e w1 ⟨rfl, hwB⟩
    have hw1 := hwB.symm
    subst hw1
    go_wp2_with fail
    refine (in_any g 0 a _ _ (unhide hC')).mono ?_
    rintro e w1 ⟨rfl, hwC⟩
    have hw1 := hwC.symm
    subst hw1
    go_wp2_with fail
    refine (in_any b 0 a _ _ (unhide hD')).mono ?_
    rintro e w1 ⟨rfl, hwD⟩
    have hw1 := hwD.symm
    subst hw1
    go_wp2
    go_ret
    exact ⟨ret_bool (by simp), ((Below.refl _ _).alloc (Nat.le_refl _) _)⟩

set_option maxHeartbeats 1600000 in
theorem ipx_any (r g b a : Int) (v : Bool) (w : World) (hv : decide (Pix (r, g, b, a)) = v) :
    Calls Try.prog 38 #[ag4 r g b a] w fun e w' => e = .returned (.bool v) ∧ Below w.heap.size w w' := by
  rw [pix_dec] at hv
  subst hv
  simp only
  generalize hA : decide (PxNs (r, g, b, a)) = A
  have hA' := hide hA
  clear hA
  have R : ∀ w1 : World, Below (w.alloc (.cells #[.int .i64 r, .int .i64 g, .int .i64 b, .int .i64 a] 29)).heap.size (w.alloc (.cells #[.int .i64 r, .int .i64 g, .int .i64 b, .int .i64 a] 29)) w1 → Bx w1 w.heap.size r g b a ∧ Below w.heap.size w w1 := fun w1 hb => ⟨(Bx.new w 29 r g b a).below hb, ((Below.refl _ _).alloc (Nat.le_refl _) _).trans (hb.mono (by simp))⟩
  have R' := hide R
  clear R
  cases A
  · go_enter Try.func38, Try.ntmps38
    go_wp2_with fail
    refine (ns_any r g b a _ _ (unhide hA')).mono ?_
    rintro e w1 ⟨rfl, hb⟩
    obtain ⟨⟨c0, c1, c2, c3, f0, f1, f2, f3⟩, hB⟩ := unhide R' w1 hb
    have hB' := hide hB
    clear hb hB
    go_wp2
    go_ret
    exact ⟨ret_bool (by simp), unhide hB'⟩
  by_cases h0 : r ≤ a
  rotate_left
  · have d0 : decide (r ≤ a) = false := by simpa using h0
    go_enter Try.func38, Try.ntmps38
    go_wp2_with fail
    refine (ns_any r g b a _ _ (unhide hA')).mono ?_
    rintro e w1 ⟨rfl, hb⟩
    obtain ⟨⟨c0, c1, c2, c3, f0, f1, f2, f3⟩, hB⟩ := unhide R' w1 hb
    have hB' := hide hB
    clear hb hB
    go_wp2
    go_ret
    exact ⟨ret_bool (by rw [d0]; simp), unhide hB'⟩
  have e0 : decide (r ≤ a) = true := by simpa using h0
  by_cases h1 : g ≤ a
  rotate_left
  · have d1 : decide (g ≤ a) = false := by simpa using h1
    go_enter Try.func38, Try.ntmps38
    go_wp2_with fail
    refine (ns_any r g b a _ _ (unhide hA')).mono ?_
    rintro e w1 ⟨rfl, hb⟩
    obtain ⟨⟨c0, c1, c2, c3, f0, f1, f2, f3⟩, hB⟩ := unhide R' w1 hb
    have hB' := hide hB
    clear hb hB
    go_wp2
    go_ret
    exact ⟨ret_bool (by rw [d1]; simp), unhide hB'⟩
  have e1 : decide (g ≤ a) = true := by simpa using h1
  by_cases h2 : b ≤ a
  rotate_left
  · have d2 : decide (b ≤ a) = false := by simpa using h2
    go_enter Try.func38, Try.ntmps38
    go_wp2_with fail
    refine (ns_any r g b a _ _ (unhide hA')).mono ?_
    rintro e w1 ⟨rfl, hb⟩
    obtain ⟨⟨c0, c1, c2, c3, f0, f1, f2, f3⟩, hB⟩ := unhide R' w1 hb
    have hB' := hide hB
    clear hb hB
    go_wp2
    go_ret
    exact ⟨ret_bool (by rw [d2]; simp), unhide hB'⟩
  have e2 : decide (b ≤ a) = true := by simpa using h2
  go_enter Try.func38, Try.ntmps38
  go_wp2_with fail
  refine (ns_any r g b a _ _ (unhide hA')).mono ?_
  rintro e w1 ⟨rfl, hb⟩
  obtain ⟨⟨c0, c1, c2, c3, f0, f1, f2, f3⟩, hB⟩ := unhide R' w1 hb
  have hB' := hide hB
  clear hb hB
  go_wp2
  go_ret
  exact ⟨ret_bool (by rw [e0, e1, e2]; rfl), unhide hB'⟩
end Go.Proofs.Ytmpbcmpjfcddoaa
