/-
  Plain: what the law of layers asks of pixels: each answer is a pixel, what is full hides, nothing over it changes nothing, inside and outside are the whole by one at most; no conditions.
-/
import Derived.Test.YteabmbggljpmoaaPxP
namespace Go.Proofs.Yteabmbggljpmoaa
set_option linter.unusedVariables false
set_option linter.unusedSimpArgs false

theorem rnd_mono {a b : Int} (h : a ≤ b) : rnd a 255 ≤ rnd b 255 := by
  unfold rnd; omega
theorem part_mono {a b n : Int} (h : a ≤ b) (hn : 0 ≤ n) : part a n ≤ part b n := by
  unfold part
  exact rnd_mono (Int.mul_le_mul_of_nonneg_right h hn)
theorem over_pix {p q : Kl} (hp : Pix p) (hq : Pix q) : Pix (over p q) := by
  obtain ⟨⟨p0, p1, p2, p3⟩, p4, p5, p6⟩ := hp
  obtain ⟨⟨q0, q1, q2, q3⟩, q4, q5, q6⟩ := hq
  have hn := num_sub p3
  have b0 := part_bd q0 hn
  have b1 := part_bd q1 hn
  have b2 := part_bd q2 hn
  have b3 := part_bd q3 hn
  have m0 := part_mono (n := 255 - p.2.2.2) q4 hn.1
  have m1 := part_mono (n := 255 - p.2.2.2) q5 hn.1
  have m2 := part_mono (n := 255 - p.2.2.2) q6 hn.1
  unfold over plusP scale Pix PxNs
  simp only [Num] at *
  omega
theorem scale_pix {p : Kl} {n : Int} (hp : Pix p) (hn : Num n) : Pix (scale p n) := by
  obtain ⟨⟨p0, p1, p2, p3⟩, p4, p5, p6⟩ := hp
  have b0 := part_bd p0 hn
  have b1 := part_bd p1 hn
  have b2 := part_bd p2 hn
  have b3 := part_bd p3 hn
  have m0 := part_mono (n := n) p4 hn.1
  have m1 := part_mono (n := n) p5 hn.1
  have m2 := part_mono (n := n) p6 hn.1
  unfold scale Pix PxNs
  simp only [Num] at *
  omega
theorem least_pix {p q : Kl} (hp : Pix p) (hq : Pix q) : Pix (least (plusP p q)) := by
  obtain ⟨⟨p0, p1, p2, p3⟩, p4, p5, p6⟩ := hp
  obtain ⟨⟨q0, q1, q2, q3⟩, q4, q5, q6⟩ := hq
  unfold least plusP Pix PxNs
  simp only [Num] at *
  omega
theorem part_zero (n : Int) : part 0 n = 0 := by unfold part rnd; rw [Int.zero_mul]; decide
theorem part_none (x : Int) : part x 0 = 0 := by unfold part rnd; rw [Int.mul_zero]; decide
theorem part_full (x : Int) : part x 255 = x := by unfold part; exact rnd_exact (by decide)
theorem over_full {p q : Kl} (h : p.2.2.2 = 255) : over p q = p := by
  obtain ⟨a, b, c, d⟩ := p
  simp only at h
  subst h
  unfold over plusP scale
  simp only [Int.sub_self, part_none, Int.add_zero]
theorem over_none {p : Kl} : over p Z4 = p := by
  unfold over plusP scale
  simp only [part_zero, Int.add_zero]
theorem none_over {p : Kl} : over Z4 p = p := by
  unfold over plusP scale
  simp only [Int.sub_zero, part_full, Int.zero_add]
theorem z4_pix : Pix Z4 := by decide
theorem part_both {x n : Int} : -1 ≤ part x n + part x (255 - n) - x ∧ part x n + part x (255 - n) - x ≤ 1 := by
  unfold part rnd
  have e : x * (255 - n) = 255 * x - x * n := by rw [Int.mul_sub, Int.mul_comm x 255]
  rw [e]
  generalize x * n = m
  omega

/-- all that the law asks where both are pixels -/
theorem lay_facts {p0 p1 p2 p3 q0 q1 q2 q3 o0 o1 o2 o3 i0 i1 i2 i3 u0 u1 u2 u3 d0 d1 d2 d3 : Int} (hp : Pix (p0, p1, p2, p3)) (hq : Pix (q0, q1, q2, q3))
    (ho : overOf (p0, p1, p2, p3) (q0, q1, q2, q3) = (o0, o1, o2, o3)) (hi : insideOf (p0, p1, p2, p3) (q0, q1, q2, q3) = (i0, i1, i2, i3))
    (hu : outsideOf (p0, p1, p2, p3) (q0, q1, q2, q3) = (u0, u1, u2, u3)) (hd : addedOf (p0, p1, p2, p3) (q0, q1, q2, q3) = (d0, d1, d2, d3)) :
    Pix (o0, o1, o2, o3) ∧ Pix (i0, i1, i2, i3) ∧ Pix (u0, u1, u2, u3) ∧ Pix (d0, d1, d2, d3) ∧ (p3 = 255 → (o0, o1, o2, o3) = (p0, p1, p2, p3)) ∧ overOf Z4 (p0, p1, p2, p3) = (p0, p1, p2, p3) ∧ overOf (p0, p1, p2, p3) Z4 = (p0, p1, p2, p3) ∧
    (-1 ≤ i0 + u0 - p0 ∧ i0 + u0 - p0 ≤ 1) ∧ (-1 ≤ i3 + u3 - p3 ∧ i3 + u3 - p3 ≤ 1) := by
  unfold overOf at ho
  unfold insideOf at hi
  unfold outsideOf at hu
  unfold addedOf at hd
  rw [if_pos ⟨hp, hq⟩] at ho hi hu hd
  have hqn : Num q3 := hq.1.2.2.2
  refine ⟨by rw [← ho]; exact over_pix hp hq, by rw [← hi]; exact scale_pix hp hqn, by rw [← hu]; exact scale_pix hp (num_sub hqn), by rw [← hd]; exact least_pix hp hq, fun h => by rw [← ho]; exact over_full h, ?_, ?_, ?_, ?_⟩
  · unfold overOf; rw [if_pos ⟨z4_pix, hp⟩]; exact none_over
  · unfold overOf; rw [if_pos ⟨hp, z4_pix⟩]; exact over_none
  · unfold scale at hi hu
    injection hi with h1 h2
    injection hu with k1 k2
    simp only at h1 k1
    rw [← h1, ← k1]; exact part_both
  · unfold scale at hi hu
    injection hi with h1 h2
    injection h2 with h2 h3
    injection h3 with h3 h4
    injection hu with k1 k2
    injection k2 with k2 k3
    injection k3 with k3 k4
    simp only at h4 k4
    rw [← h4, ← k4]; exact part_both
theorem lay_none {p0 p1 p2 p3 q0 q1 q2 q3 o0 o1 o2 o3 i0 i1 i2 i3 u0 u1 u2 u3 d0 d1 d2 d3 : Int} (h : ¬ (Pix (p0, p1, p2, p3) ∧ Pix (q0, q1, q2, q3)))
    (ho : overOf (p0, p1, p2, p3) (q0, q1, q2, q3) = (o0, o1, o2, o3)) (hi : insideOf (p0, p1, p2, p3) (q0, q1, q2, q3) = (i0, i1, i2, i3))
    (hu : outsideOf (p0, p1, p2, p3) (q0, q1, q2, q3) = (u0, u1, u2, u3)) (hd : addedOf (p0, p1, p2, p3) (q0, q1, q2, q3) = (d0, d1, d2, d3)) :
    (o0 = 0 ∧ o1 = 0 ∧ o2 = 0 ∧ o3 = 0) ∧ (i0 = 0 ∧ i1 = 0 ∧ i2 = 0 ∧ i3 = 0) ∧ (u0 = 0 ∧ u1 = 0 ∧ u2 = 0 ∧ u3 = 0) ∧ (d0 = 0 ∧ d1 = 0 ∧ d2 = 0 ∧ d3 = 0) := by
  unfold overOf at ho
  unfold insideOf at hi
  unfold outsideOf at hu
  unfold addedOf at hd
  rw [if_neg h] at ho hi hu hd
  cases ho
  cases hi
  cases hu
  cases hd
  exact ⟨⟨rfl, rfl, rfl, rfl⟩, ⟨rfl, rfl, rfl, rfl⟩, ⟨rfl, rfl, rfl, rfl⟩, ⟨rfl, rfl, rfl, rfl⟩⟩
end Go.Proofs.Yteabmbggljpmoaa
