/-
  Plain facts on frames in other rates and on instants: a frame in another rate and back is no later, and the instants lie in order. No program is named here; there are no conditions.
-/
import Derived.Test.YtffibbcombjkcaaPlain
namespace Go.Proofs.Ytffibbcombjkcaa.Pl

theorem fin_some {n d : Int} {dr : Bool} {m e : Int} {ds : Bool} {f : Int} (h : 0 ≤ fin n d dr m e ds f) : rok n d dr = true ∧ rok m e ds = true ∧ isf f = true ∧ isf (fin n d dr m e ds f) = true ∧ fin n d dr m e ds f = f * d * m / (n * e) := by
  unfold fin at h ⊢
  by_cases h1 : rok n d dr = true ∧ rok m e ds = true ∧ isf f = true
  · rw [if_pos h1] at h ⊢
    by_cases h2 : isf (f * d * m / (n * e)) = true
    · rw [if_pos h2]; exact ⟨h1.1, h1.2.1, h1.2.2, h2, rfl⟩
    · rw [if_neg h2] at h; omega
  · rw [if_neg h1] at h; omega
theorem fin_mk {n d : Int} {dr : Bool} {m e : Int} {ds : Bool} {f v : Int} (h1 : rok n d dr = true) (h2 : rok m e ds = true) (h3 : isf f = true) (h4 : f * d * m / (n * e) = v) (h5 : isf v = true) : fin n d dr m e ds f = v := by
  unfold fin; rw [if_pos ⟨h1, h2, h3⟩, h4, if_pos h5]
theorem inst_mk {n d : Int} {dr : Bool} {f : Int} (h1 : rok n d dr = true) (h3 : isf f = true) : inst n d dr f 1000000 = f * d * 1000000 / n := by
  unfold inst; rw [if_pos ⟨h1, h3, by omega, by omega⟩]
theorem fin_same {n d : Int} {dr : Bool} {f : Int} (h1 : rok n d dr = true) (h3 : isf f = true) : fin n d dr n d dr f = f := by
  obtain ⟨a1, a2, a3, a4, a5⟩ := rok_bd h1
  refine fin_mk h1 h1 h3 ?_ h3
  have e : f * d * n = f * (n * d) := by ac_rfl
  have hp : 0 < n * d := Int.mul_pos (by omega) (by omega)
  rw [e, Int.mul_ediv_cancel _ (by omega)]

theorem rates {n d : Int} {dr : Bool} {m e : Int} {ds : Bool} {f : Int} (h : 0 ≤ fin n d dr m e ds f) :
    0 ≤ fin m e ds n d dr (fin n d dr m e ds f) ∧ fin m e ds n d dr (fin n d dr m e ds f) ≤ f ∧ fin n d dr n d dr f = f ∧ inst m e ds (fin n d dr m e ds f) 1000000 ≤ inst n d dr f 1000000 ∧
      (fin n d dr m e ds f ≠ 10000000 → inst n d dr f 1000000 ≤ inst m e ds (fin n d dr m e ds f + 1) 1000000) ∧ fin n d dr m e ds f ≤ 10000000 ∧ 0 ≤ f ∧ f ≤ 10000000 := by
  obtain ⟨h1, h2, h3, h4, h5⟩ := fin_some h
  obtain ⟨a1, a2, a3, a4, a5⟩ := rok_bd h1
  obtain ⟨c1, c2, c3, c4, c5⟩ := rok_bd h2
  obtain ⟨f1, f2⟩ := isf_bd h3
  obtain ⟨g1, g2⟩ := isf_bd h4
  have hD : 0 < n * e := Int.mul_pos (by omega) (by omega)
  have hE : 0 < m * d := Int.mul_pos (by omega) (by omega)
  have lo : fin n d dr m e ds f * (n * e) ≤ f * d * m := by rw [h5]; exact Int.ediv_mul_le _ (by omega)
  have hi : f * d * m < (fin n d dr m e ds f + 1) * (n * e) := by rw [h5]; exact Int.lt_ediv_add_one_mul_self _ hD
  generalize fin n d dr m e ds f = G at *
  have back0 : 0 ≤ G * e * n / (m * d) := Int.ediv_nonneg (Int.mul_nonneg (Int.mul_nonneg g1 (by omega)) (by omega)) (by omega)
  have back1 : G * e * n / (m * d) ≤ f := by
    have e1 : G * e * n = G * (n * e) := by ac_rfl
    have e2 : f * d * m = f * (m * d) := by ac_rfl
    have : G * e * n / (m * d) < f + 1 := (Int.ediv_lt_iff_lt_mul hE).2 (by rw [e1, Int.add_mul, Int.one_mul, ← e2]; omega)
    omega
  have hb : fin m e ds n d dr G = G * e * n / (m * d) := fin_mk h2 h1 h4 rfl (isf_mk ⟨back0, by omega⟩)
  refine ⟨by rw [hb]; exact back0, by rw [hb]; exact back1, fin_same h1 h3, ?_, ?_, g2, f1, f2⟩
  · rw [inst_mk h2 h4, inst_mk h1 h3]
    refine (Int.le_ediv_iff_mul_le (by omega)).2 ?_
    have x0 : G * e * 1000000 / m * m ≤ G * e * 1000000 := Int.ediv_mul_le _ (by omega)
    generalize G * e * 1000000 / m = x at *
    have s1 : x * n * m ≤ f * d * 1000000 * m := by
      have t1 : x * m * n ≤ G * e * 1000000 * n := Int.mul_le_mul_of_nonneg_right x0 (by omega)
      have t2 : G * (n * e) * 1000000 ≤ f * d * m * 1000000 := Int.mul_le_mul_of_nonneg_right lo (by omega)
      have u1 : x * n * m = x * m * n := by ac_rfl
      have u2 : G * e * 1000000 * n = G * (n * e) * 1000000 := by ac_rfl
      have u3 : f * d * 1000000 * m = f * d * m * 1000000 := by ac_rfl
      omega
    exact Int.le_of_mul_le_mul_right s1 (by omega)
  · intro hne
    have h4' : isf (G + 1) = true := isf_mk ⟨by omega, by omega⟩
    rw [inst_mk h2 h4', inst_mk h1 h3]
    refine (Int.le_ediv_iff_mul_le (by omega)).2 ?_
    have x0 : f * d * 1000000 / n * n ≤ f * d * 1000000 := Int.ediv_mul_le _ (by omega)
    generalize f * d * 1000000 / n = y at *
    have s1 : y * m * n ≤ (G + 1) * e * 1000000 * n := by
      have t1 : y * n * m ≤ f * d * 1000000 * m := Int.mul_le_mul_of_nonneg_right x0 (by omega)
      have t2 : f * d * m * 1000000 ≤ (G + 1) * (n * e) * 1000000 := Int.mul_le_mul_of_nonneg_right (by omega) (by omega)
      have u1 : y * m * n = y * n * m := by ac_rfl
      have u2 : (G + 1) * e * 1000000 * n = (G + 1) * (n * e) * 1000000 := by ac_rfl
      have u3 : f * d * 1000000 * m = f * d * m * 1000000 := by ac_rfl
      omega
    exact Int.le_of_mul_le_mul_right s1 (by omega)

end Go.Proofs.Ytffibbcombjkcaa.Pl
