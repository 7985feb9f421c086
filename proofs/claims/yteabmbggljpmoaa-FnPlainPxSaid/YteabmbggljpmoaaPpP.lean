/-
  Plain: what is made plain and premultiplied again is the pixel; no program is named.
-/
import Derived.Test.YteabmbggljpmoaaPxP
namespace Go.Proofs.Yteabmbggljpmoaa
set_option linter.unusedVariables false
set_option linter.unusedSimpArgs false

theorem part_mono {a b n : Int} (h : a ≤ b) (hn : 0 ≤ n) : part a n ≤ part b n := by
  unfold part rnd
  have := Int.mul_le_mul_of_nonneg_right h hn
  exact Int.ediv_le_ediv (by omega) (by omega)
theorem back_num {r a : Int} (h0 : 0 ≤ r) (h1 : r ≤ a) (ha : 1 ≤ a) (ha2 : a ≤ 255) : part (rnd (255 * r) a) a = r ∧ 0 ≤ rnd (255 * r) a ∧ rnd (255 * r) a ≤ 255 := by
  obtain ⟨v, hv⟩ : ∃ v, rnd (255 * r) a = v := ⟨_, rfl⟩
  rw [hv]
  have hb := rnd_bd (a := 255 * r) (b := a) (lo := 0) (hi := 255) (by omega) (by omega) (by omega)
  rw [hv] at hb
  refine ⟨?_, hb.1, hb.2⟩
  unfold rnd at hv
  have h2 : 0 < 2 * a := by omega
  have e1 := Int.mul_ediv_add_emod (2 * (255 * r) + a) (2 * a)
  have e2 := Int.emod_nonneg (2 * (255 * r) + a) (show (2 * a : Int) ≠ 0 by omega)
  have e3 := Int.emod_lt_of_pos (2 * (255 * r) + a) h2
  rw [hv] at e1
  obtain ⟨T, hT⟩ : ∃ T, v * a = T := ⟨_, rfl⟩
  have e4 : 2 * a * v = 2 * T := by rw [← hT, Int.mul_assoc, Int.mul_comm a v]
  rw [e4] at e1
  unfold part rnd
  rw [hT]
  by_cases h255 : a = 255
  · subst h255; omega
  · omega
theorem premul_plain {p : Kl} (h : Pix p) : premulOf (plainOf p) = p := by
  obtain ⟨r, g, b, a⟩ := p
  obtain ⟨⟨⟨r0, r1⟩, ⟨g0, g1⟩, ⟨b0, b1⟩, ⟨a0, a1⟩⟩, hr, hg, hb⟩ := id h
  simp only at r0 r1 g0 g1 b0 b1 a0 a1 hr hg hb
  unfold plainOf
  by_cases ha : a = 0
  · rw [if_neg (fun hh => hh.2 ha)]
    have : r = 0 ∧ g = 0 ∧ b = 0 := by omega
    obtain ⟨rfl, rfl, rfl⟩ := this
    subst ha
    decide
  · rw [if_pos ⟨h, ha⟩]
    simp only
    obtain ⟨x0, x1, x2⟩ := back_num r0 hr (by omega) a1
    obtain ⟨y0, y1, y2⟩ := back_num g0 hg (by omega) a1
    obtain ⟨z0, z1, z2⟩ := back_num b0 hb (by omega) a1
    unfold premulOf
    rw [if_pos ⟨⟨x1, x2⟩, ⟨y1, y2⟩, ⟨z1, z2⟩, ⟨a0, a1⟩⟩]
    simp only
    rw [x0, y0, z0]
theorem premul_pix (p : Kl) : Pix (premulOf p) := by
  unfold premulOf
  split
  · rename_i h
    obtain ⟨h0, h1, h2, h3⟩ := h
    obtain ⟨x0, x1, x2⟩ := part_bd h0 h3
    obtain ⟨y0, y1, y2⟩ := part_bd h1 h3
    obtain ⟨z0, z1, z2⟩ := part_bd h2 h3
    unfold Num at h0 h1 h2 h3
    unfold Pix PxNs Num
    simp only
    omega
  · decide
theorem plain_no {p : Kl} (h : ¬ Pix p) : plainOf p = Z4 := by unfold plainOf; rw [if_neg (fun hh => h hh.1)]

end Go.Proofs.Yteabmbggljpmoaa
