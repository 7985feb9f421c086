/-
  Plain facts of a cube: what it gives lies between the least and the greatest of its nodes; at the first and the last node it is that node; no program is named.
-/
import Derived.Test.YtdmcbdogpeidjaaCubP
namespace Go.Proofs.Ytdmcbdogpeidjaa
set_option linter.unusedVariables false
set_option linter.unusedSimpArgs false

/-- the sum of G so far is within the weights so far -/
def GB (lo hi : Int) (σ : Cst) : Prop := lo * (65535 - σ.2.2.1) ≤ σ.2.2.2.2.1 ∧ σ.2.2.2.2.1 ≤ hi * (65535 - σ.2.2.1)
theorem gb_step {lo hi s g l m : Int} (h : lo * (65535 - l) ≤ s ∧ s ≤ hi * (65535 - l)) (hg : lo ≤ g ∧ g ≤ hi) (hm : m ≤ l) : lo * (65535 - m) ≤ s + g * (l - m) ∧ s + g * (l - m) ≤ hi * (65535 - m) := by
  have e : 65535 - m = (65535 - l) + (l - m) := by omega
  have h1 : lo * (l - m) ≤ g * (l - m) := Int.mul_le_mul_of_nonneg_right hg.1 (by omega)
  have h2 : g * (l - m) ≤ hi * (l - m) := Int.mul_le_mul_of_nonneg_right hg.2 (by omega)
  rw [e, Int.mul_add, Int.mul_add]
  omega
theorem GB.step {n : Int} {L : List Kl} {c : Kl} {t : Nat} {σ : Cst} {lo hi : Int} (h : GB lo hi σ) (hV : CuV n c t σ) (hk : lo ≤ (nd n L σ.1).2.1 ∧ (nd n L σ.1).2.1 ≤ hi) : GB lo hi (stp n L σ) := by
  obtain ⟨⟨a0, a1, a2⟩, ⟨x0, x1, x2⟩, l, ⟨s0, s1, s2⟩⟩ := σ
  have y0 := hV.x0
  have y1 := hV.x1
  have y2 := hV.x2
  unfold GB at *
  simp only at *
  unfold stp
  simp only
  split
  · exact gb_step h hk y0
  · split
    · exact gb_step h hk y1
    · exact gb_step h hk y2
theorem nd_mem {n : Int} {L : List Kl} {c : Kl} {t : Nat} (h : CubOk n L c) (ht : t ≤ 3) : ∃ j : Nat, L[j]? = some (nd n L (cuIt n L c t).1) := by
  have hB := cuB_of h.1 h.2.2.2
  obtain ⟨p, q, r⟩ := (cuV_it h t ht).at hB
  obtain ⟨K, _, hK⟩ := nd_get (plc_bd hB.n0 hB.n1 p q r) h.2.1
  exact ⟨K, hK⟩
theorem gb_it {n : Int} {L : List Kl} {c : Kl} {lo hi : Int} (h : CubOk n L c) (hl : ∀ (j : Nat) (x : Kl), L[j]? = some x → lo ≤ x.2.1 ∧ x.2.1 ≤ hi) : ∀ t, t ≤ 3 → GB lo hi (cuIt n L c t)
  | 0, _ => by
    show GB lo hi (cuSt n c)
    unfold GB cuSt
    simp
  | t + 1, ht => by
    obtain ⟨j, hj⟩ := nd_mem (t := t) h (by omega)
    exact (gb_it h hl t (by omega)).step (cuV_it h t (by omega)) (hl j _ hj)
/-- the bounds of G -/
theorem cub_bounds {n : Int} {L : List Kl} {c : Kl} {lo hi : Int} (h : CubOk n L c) (hl : ∀ (j : Nat) (x : Kl), L[j]? = some x → lo ≤ x.2.1 ∧ x.2.1 ≤ hi) : lo ≤ (cubOf n L c).2.1 ∧ (cubOf n L c).2.1 ≤ hi := by
  rw [cub_yes h]
  have hg := gb_it h hl 3 (Nat.le_refl _)
  obtain ⟨j, hj⟩ := nd_mem (t := 3) h (Nat.le_refl _)
  have hk := hl j _ hj
  have hV := cuV_it h 3 (Nat.le_refl _)
  unfold GB at hg
  have h3 := gb_step (m := 0) hg hk hV.l0
  unfold cuRnd cuFin addw
  simp only
  refine rnd_bd (by omega) ?_ ?_
  · have := h3.1; simp only [Int.sub_zero] at this; exact this
  · have := h3.2; simp only [Int.sub_zero] at this; exact this
theorem cub_zero {n : Int} {L : List Kl} (hn : 2 ≤ n ∧ n ≤ 9) (hl : (L.length : Int) = n * n * n) (hc : CsOk L) {x : Kl} (h0 : L[0]? = some x) : cubOf n L (0, 0, 0) = x := by
  rw [cub_yes ⟨hn, hl, hc, by decide⟩]
  have hi : plI 0 (n - 1) = 0 := by unfold plI; rw [Int.zero_mul]; omega
  have hr : plR 0 (n - 1) = 0 := by unfold plR; rw [hi, Int.zero_mul, Int.zero_mul]; rfl
  have hs : cuSt n (0, 0, 0) = ((0, 0, 0), (0, 0, 0), 65535, (0, 0, 0)) := by unfold cuSt; simp only; rw [hi, hr]
  have hnd : nd n L (0, 0, 0) = x := by
    unfold nd plc
    simp only [Int.zero_mul, Int.add_zero]
    simp [List.getD, h0]
  have b0 : bst 0 0 0 = 0 := rfl
  have b1 : bst (-1) 0 0 = 1 := rfl
  have b2 : bst (-1) (-1) 0 = 2 := rfl
  obtain ⟨x0, x1, x2⟩ := x
  have e : ∀ a b : Int, a + b * (0 - 0) = a := fun a b => by omega
  show cuRnd (cuFin n L (stp n L (stp n L (stp n L (cuSt n (0, 0, 0)))))) = _
  rw [hs]
  have s1 : stp n L ((0, 0, 0), (0, 0, 0), 65535, (0, 0, 0)) = ((1, 0, 0), (-1, 0, 0), 0, (x0 * 65535, x1 * 65535, x2 * 65535)) := by
    unfold stp
    simp only
    rw [if_pos b0, hnd]
    unfold addw
    simp
  rw [s1]
  have s2 : stp n L ((1, 0, 0), (-1, 0, 0), 0, (x0 * 65535, x1 * 65535, x2 * 65535)) = ((1, 1, 0), (-1, -1, 0), 0, (x0 * 65535, x1 * 65535, x2 * 65535)) := by
    unfold stp
    simp only
    rw [if_neg (by rw [b1]; omega), if_pos b1]
    unfold addw
    simp
  rw [s2]
  have s3 : stp n L ((1, 1, 0), (-1, -1, 0), 0, (x0 * 65535, x1 * 65535, x2 * 65535)) = ((1, 1, 1), (-1, -1, -1), 0, (x0 * 65535, x1 * 65535, x2 * 65535)) := by
    unfold stp
    simp only
    rw [if_neg (by rw [b2]; omega), if_neg (by rw [b2]; omega)]
    unfold addw
    simp
  rw [s3]
  unfold cuFin addw cuRnd
  simp only [Int.mul_zero, Int.add_zero]
  rw [rnd_exact (by omega), rnd_exact (by omega), rnd_exact (by omega)]
theorem cub_full {n : Int} {L : List Kl} (hn : 2 ≤ n ∧ n ≤ 9) (hl : (L.length : Int) = n * n * n) (hc : CsOk L) {x : Kl} {K : Nat} (hK : (K : Int) = n * n * n - 1) (h0 : L[K]? = some x) : cubOf n L (65535, 65535, 65535) = x := by
  rw [cub_yes ⟨hn, hl, hc, by decide⟩]
  have hq : 65535 * (n - 1) / 65535 = n - 1 := Int.mul_ediv_cancel_left _ (by omega)
  have hi : plI 65535 (n - 1) = n - 2 := by unfold plI; rw [hq]; omega
  have hr : plR 65535 (n - 1) = 65535 := by unfold plR; rw [hi]; omega
  have hs : cuSt n (65535, 65535, 65535) = ((n - 2, n - 2, n - 2), (65535, 65535, 65535), 65535, (0, 0, 0)) := by unfold cuSt; simp only; rw [hi, hr]
  have hp : plc n (n - 2 + 1, n - 2 + 1, n - 2 + 1) = (K : Int) := by
    unfold plc
    rw [hK]
    simp only
    have : n = 2 ∨ n = 3 ∨ n = 4 ∨ n = 5 ∨ n = 6 ∨ n = 7 ∨ n = 8 ∨ n = 9 := by omega
    rcases this with rfl | rfl | rfl | rfl | rfl | rfl | rfl | rfl <;> rfl
  have hnd : nd n L (n - 2 + 1, n - 2 + 1, n - 2 + 1) = x := by
    unfold nd
    rw [hp]
    simp [List.getD, h0]
  have b0 : bst 65535 65535 65535 = 0 := rfl
  have b1 : bst (-1) 65535 65535 = 1 := rfl
  have b2 : bst (-1) (-1) 65535 = 2 := rfl
  obtain ⟨x0, x1, x2⟩ := x
  show cuRnd (cuFin n L (stp n L (stp n L (stp n L (cuSt n (65535, 65535, 65535)))))) = _
  rw [hs]
  have z : ∀ u : Kl, addw (0, 0, 0) u (65535 - 65535) = (0, 0, 0) := fun u => by unfold addw; simp
  have s1 : stp n L ((n - 2, n - 2, n - 2), (65535, 65535, 65535), 65535, (0, 0, 0)) = ((n - 2 + 1, n - 2, n - 2), (-1, 65535, 65535), 65535, (0, 0, 0)) := by
    unfold stp
    simp only
    rw [if_pos b0, z]
  rw [s1]
  have s2 : stp n L ((n - 2 + 1, n - 2, n - 2), (-1, 65535, 65535), 65535, (0, 0, 0)) = ((n - 2 + 1, n - 2 + 1, n - 2), (-1, -1, 65535), 65535, (0, 0, 0)) := by
    unfold stp
    simp only
    rw [if_neg (by rw [b1]; omega), if_pos b1, z]
  rw [s2]
  have s3 : stp n L ((n - 2 + 1, n - 2 + 1, n - 2), (-1, -1, 65535), 65535, (0, 0, 0)) = ((n - 2 + 1, n - 2 + 1, n - 2 + 1), (-1, -1, -1), 65535, (0, 0, 0)) := by
    unfold stp
    simp only
    rw [if_neg (by rw [b2]; omega), if_neg (by rw [b2]; omega), z]
  rw [s3]
  unfold cuFin addw cuRnd
  simp only [Int.zero_add]
  rw [hnd]
  simp only
  rw [rnd_exact (by omega), rnd_exact (by omega), rnd_exact (by omega)]
end Go.Proofs.Ytdmcbdogpeidjaa
