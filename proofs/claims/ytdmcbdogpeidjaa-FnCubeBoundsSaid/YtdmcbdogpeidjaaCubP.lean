/-
  Plain facts of a cube: the nodes that are gone through, their weights, what comes of them; no program is named.
-/
import Derived.Test.YtdmcbdogpeidjaaColP
namespace Go.Proofs.Ytdmcbdogpeidjaa
set_option linter.unusedVariables false
set_option linter.unusedSimpArgs false

/-- which of three is the greatest, the first of those that are alike -/
def bst (x y z : Int) : Int := if x < y then (if y < z then 2 else 1) else (if x < z then 2 else 0)
theorem bst_cases (x y z : Int) : (bst x y z = 0 ∧ y ≤ x ∧ z ≤ x) ∨ (bst x y z = 1 ∧ x < y ∧ z ≤ y) ∨ (bst x y z = 2 ∧ x < z ∧ y < z) := by
  unfold bst
  split <;> split <;> omega

/-- a node's place -/
def plc (n : Int) (a : Kl) : Int := (a.1 * n + a.2.1) * n + a.2.2
def nd (n : Int) (L : List Kl) (a : Kl) : Kl := L.getD (plc n a).toNat (0, 0, 0)
def addw (s c : Kl) (w : Int) : Kl := (s.1 + c.1 * w, s.2.1 + c.2.1 * w, s.2.2 + c.2.2 * w)
/-- where one is, the rests (-1: gone), what is left, the sums -/
abbrev Cst := Kl × Kl × Int × Kl
def stp (n : Int) (L : List Kl) : Cst → Cst
  | (a, x, l, s) =>
    if bst x.1 x.2.1 x.2.2 = 0 then ((a.1 + 1, a.2.1, a.2.2), (-1, x.2.1, x.2.2), x.1, addw s (nd n L a) (l - x.1))
    else if bst x.1 x.2.1 x.2.2 = 1 then ((a.1, a.2.1 + 1, a.2.2), (x.1, -1, x.2.2), x.2.1, addw s (nd n L a) (l - x.2.1))
    else ((a.1, a.2.1, a.2.2 + 1), (x.1, x.2.1, -1), x.2.2, addw s (nd n L a) (l - x.2.2))
def cuSt (n : Int) (c : Kl) : Cst := ((plI c.1 (n - 1), plI c.2.1 (n - 1), plI c.2.2 (n - 1)), (plR c.1 (n - 1), plR c.2.1 (n - 1), plR c.2.2 (n - 1)), 65535, (0, 0, 0))
def cuIt (n : Int) (L : List Kl) (c : Kl) : Nat → Cst
  | 0 => cuSt n c
  | t + 1 => stp n L (cuIt n L c t)
def cuFin (n : Int) (L : List Kl) (σ : Cst) : Kl := addw σ.2.2.2 (nd n L σ.1) σ.2.2.1
def cuRnd (s : Kl) : Kl := (rnd s.1 65535, rnd s.2.1 65535, rnd s.2.2 65535)
def CubOk (n : Int) (L : List Kl) (c : Kl) : Prop := (2 ≤ n ∧ n ≤ 9) ∧ (L.length : Int) = n * n * n ∧ CsOk L ∧ CoOk c
instance (n : Int) (L : List Kl) (c : Kl) : Decidable (CubOk n L c) := by unfold CubOk; infer_instance
def cubOf (n : Int) (L : List Kl) (c : Kl) : Kl := if CubOk n L c then cuRnd (cuFin n L (cuIt n L c 3)) else (0, 0, 0)
theorem cub_no {n : Int} {L : List Kl} {c : Kl} (h : ¬ CubOk n L c) : cubOf n L c = (0, 0, 0) := by unfold cubOf; rw [if_neg h]
theorem cub_yes {n : Int} {L : List Kl} {c : Kl} (h : CubOk n L c) : cubOf n L c = cuRnd (cuFin n L (cuIt n L c 3)) := by unfold cubOf; rw [if_pos h]

/-- one direction: gone, or not yet -/
def Dir (i p a x : Int) : Prop := (x = -1 ∧ a = i + 1) ∨ (x = p ∧ a = i ∧ 0 ≤ p)
/-- how many are gone -/
def gn (x : Int) : Nat := if x < 0 then 1 else 0
theorem gn_nn {x : Int} (h : 0 ≤ x) : gn x = 0 := by unfold gn; rw [if_neg (by omega)]
theorem gn_le (x : Int) : gn x ≤ 1 := by unfold gn; split <;> omega
theorem gn_one {x : Int} (h : gn x = 0) : 0 ≤ x := by unfold gn at h; split at h <;> omega
theorem gn_m : gn (-1) = 1 := rfl
/-- what holds of a state on the way -/
structure CuV (n : Int) (c : Kl) (t : Nat) (σ : Cst) : Prop where
  d0 : Dir (plI c.1 (n - 1)) (plR c.1 (n - 1)) σ.1.1 σ.2.1.1
  d1 : Dir (plI c.2.1 (n - 1)) (plR c.2.1 (n - 1)) σ.1.2.1 σ.2.1.2.1
  d2 : Dir (plI c.2.2 (n - 1)) (plR c.2.2 (n - 1)) σ.1.2.2 σ.2.1.2.2
  cnt : gn σ.2.1.1 + gn σ.2.1.2.1 + gn σ.2.1.2.2 = t
  l0 : 0 ≤ σ.2.2.1
  l1 : σ.2.2.1 ≤ 65535
  x0 : σ.2.1.1 ≤ σ.2.2.1
  x1 : σ.2.1.2.1 ≤ σ.2.2.1
  x2 : σ.2.1.2.2 ≤ σ.2.2.1
  s0 : 0 ≤ σ.2.2.2.1 ∧ σ.2.2.2.1 ≤ 65535 * (65535 - σ.2.2.1)
  s1 : 0 ≤ σ.2.2.2.2.1 ∧ σ.2.2.2.2.1 ≤ 65535 * (65535 - σ.2.2.1)
  s2 : 0 ≤ σ.2.2.2.2.2 ∧ σ.2.2.2.2.2 ≤ 65535 * (65535 - σ.2.2.1)
/-- bounds of where the corners are -/
structure CuB (n : Int) (c : Kl) : Prop where
  n0 : 2 ≤ n
  n1 : n ≤ 9
  i0 : 0 ≤ plI c.1 (n - 1) ∧ plI c.1 (n - 1) ≤ n - 2 ∧ 0 ≤ plR c.1 (n - 1) ∧ plR c.1 (n - 1) ≤ 65535
  i1 : 0 ≤ plI c.2.1 (n - 1) ∧ plI c.2.1 (n - 1) ≤ n - 2 ∧ 0 ≤ plR c.2.1 (n - 1) ∧ plR c.2.1 (n - 1) ≤ 65535
  i2 : 0 ≤ plI c.2.2 (n - 1) ∧ plI c.2.2 (n - 1) ≤ n - 2 ∧ 0 ≤ plR c.2.2 (n - 1) ∧ plR c.2.2 (n - 1) ≤ 65535
theorem cuB_of {n : Int} {c : Kl} (hn : 2 ≤ n ∧ n ≤ 9) (hc : CoOk c) : CuB n c := by
  have a := pl_facts hc.1 (show 1 ≤ n - 1 by omega)
  have b := pl_facts hc.2.1 (show 1 ≤ n - 1 by omega)
  have d := pl_facts hc.2.2 (show 1 ≤ n - 1 by omega)
  exact ⟨hn.1, hn.2, by omega, by omega, by omega⟩
theorem plc_bd {n : Int} {a : Kl} (h0 : 2 ≤ n) (h9 : n ≤ 9) (ha : 0 ≤ a.1 ∧ a.1 ≤ n - 1) (hb : 0 ≤ a.2.1 ∧ a.2.1 ≤ n - 1) (hc : 0 ≤ a.2.2 ∧ a.2.2 ≤ n - 1) : 0 ≤ plc n a ∧ plc n a < n * n * n := by
  unfold plc
  obtain ⟨a0, a1⟩ := ha
  have : n = 2 ∨ n = 3 ∨ n = 4 ∨ n = 5 ∨ n = 6 ∨ n = 7 ∨ n = 8 ∨ n = 9 := by omega
  rcases this with rfl | rfl | rfl | rfl | rfl | rfl | rfl | rfl <;> omega
theorem CuV.at {n : Int} {c : Kl} {t : Nat} {σ : Cst} (h : CuV n c t σ) (hb : CuB n c) : (0 ≤ σ.1.1 ∧ σ.1.1 ≤ n - 1) ∧ (0 ≤ σ.1.2.1 ∧ σ.1.2.1 ≤ n - 1) ∧ (0 ≤ σ.1.2.2 ∧ σ.1.2.2 ≤ n - 1) := by
  have h0 := h.d0; have h1 := h.d1; have h2 := h.d2
  have b0 := hb.i0; have b1 := hb.i1; have b2 := hb.i2
  unfold Dir at h0 h1 h2
  omega
theorem nd_get {n : Int} {L : List Kl} {a : Kl} (h : 0 ≤ plc n a ∧ plc n a < n * n * n) (hL : (L.length : Int) = n * n * n) : ∃ K : Nat, plc n a = K ∧ L[K]? = some (nd n L a) := by
  refine ⟨(plc n a).toNat, by omega, ?_⟩
  unfold nd
  have : (plc n a).toNat < L.length := by omega
  simp [List.getD, List.getElem?_eq_getElem this]
theorem nd_ok {n : Int} {L : List Kl} {a : Kl} (h : 0 ≤ plc n a ∧ plc n a < n * n * n) (hL : (L.length : Int) = n * n * n) (hc : CsOk L) : CoOk (nd n L a) := by
  obtain ⟨K, _, hK⟩ := nd_get h hL
  exact hc.at hK
theorem addw_bd {s c w l m : Int} (hs : 0 ≤ s ∧ s ≤ 65535 * (65535 - l)) (hc : LvOk c) (hw : w = l - m) (h0 : 0 ≤ w) : 0 ≤ s + c * w ∧ s + c * w ≤ 65535 * (65535 - m) := by
  have h1 : 0 ≤ c * w := Int.mul_nonneg hc.1 h0
  have h2 : c * w ≤ 65535 * w := Int.mul_le_mul_of_nonneg_right hc.2 h0
  omega
theorem cuV_zero {n : Int} {c : Kl} (hb : CuB n c) : CuV n c 0 (cuSt n c) := by
  have b0 := hb.i0; have b1 := hb.i1; have b2 := hb.i2
  refine ⟨Or.inr ⟨rfl, rfl, b0.2.2.1⟩, Or.inr ⟨rfl, rfl, b1.2.2.1⟩, Or.inr ⟨rfl, rfl, b2.2.2.1⟩, ?_, by simp [cuSt], by simp [cuSt], b0.2.2.2, b1.2.2.2, b2.2.2.2, by simp [cuSt], by simp [cuSt], by simp [cuSt]⟩
  show gn (plR c.1 (n - 1)) + gn (plR c.2.1 (n - 1)) + gn (plR c.2.2 (n - 1)) = 0
  rw [gn_nn b0.2.2.1, gn_nn b1.2.2.1, gn_nn b2.2.2.1]
theorem CuV.step {n : Int} {L : List Kl} {c : Kl} {t : Nat} {σ : Cst} (h : CuV n c t σ) (ht : t < 3) (hk : CoOk (nd n L σ.1)) : CuV n c (t + 1) (stp n L σ) := by
  obtain ⟨⟨a0, a1, a2⟩, ⟨x0, x1, x2⟩, l, ⟨s0, s1, s2⟩⟩ := σ
  obtain ⟨d0, d1, d2, cnt, l0, l1, y0, y1, y2, z0, z1, z2⟩ := h
  simp only at *
  have hc := bst_cases x0 x1 x2
  obtain ⟨k0, k1, k2⟩ := hk
  have g0 := gn_le x0
  have g1 := gn_le x1
  have g2 := gn_le x2
  have hs : 0 ≤ x0 ∨ 0 ≤ x1 ∨ 0 ≤ x2 := by
    by_cases e0 : gn x0 = 0
    · exact Or.inl (gn_one e0)
    by_cases e1 : gn x1 = 0
    · exact Or.inr (Or.inl (gn_one e1))
    by_cases e2 : gn x2 = 0
    · exact Or.inr (Or.inr (gn_one e2))
    omega
  have D0 := d0
  have D1 := d1
  have D2 := d2
  unfold Dir at D0 D1 D2
  unfold stp
  simp only
  rcases hc with ⟨e, u, v⟩ | ⟨e, u, v⟩ | ⟨e, u, v⟩
  · rw [if_pos e]
    have hx : 0 ≤ x0 := by omega
    refine ⟨Or.inl ⟨rfl, by simp only; omega⟩, d1, d2, ?_, hx, by simp only; omega, by simp only; omega, by simp only; omega, by simp only; omega, addw_bd (m := x0) z0 k0 rfl (by omega), addw_bd (m := x0) z1 k1 rfl (by omega), addw_bd (m := x0) z2 k2 rfl (by omega)⟩
    rw [gn_nn hx] at cnt
    show gn (-1) + gn x1 + gn x2 = t + 1
    rw [gn_m]; omega
  · rw [if_neg (by omega), if_pos e]
    have hx : 0 ≤ x1 := by omega
    refine ⟨d0, Or.inl ⟨rfl, by simp only; omega⟩, d2, ?_, hx, by simp only; omega, by simp only; omega, by simp only; omega, by simp only; omega, addw_bd (m := x1) z0 k0 rfl (by omega), addw_bd (m := x1) z1 k1 rfl (by omega), addw_bd (m := x1) z2 k2 rfl (by omega)⟩
    rw [gn_nn hx] at cnt
    show gn x0 + gn (-1) + gn x2 = t + 1
    rw [gn_m]; omega
  · rw [if_neg (by omega), if_neg (by omega)]
    have hx : 0 ≤ x2 := by omega
    refine ⟨d0, d1, Or.inl ⟨rfl, by simp only; omega⟩, ?_, hx, by simp only; omega, by simp only; omega, by simp only; omega, by simp only; omega, addw_bd (m := x2) z0 k0 rfl (by omega), addw_bd (m := x2) z1 k1 rfl (by omega), addw_bd (m := x2) z2 k2 rfl (by omega)⟩
    rw [gn_nn hx] at cnt
    show gn x0 + gn x1 + gn (-1) = t + 1
    rw [gn_m]; omega
theorem cuV_it {n : Int} {L : List Kl} {c : Kl} (h : CubOk n L c) : ∀ t, t ≤ 3 → CuV n c t (cuIt n L c t)
  | 0, _ => cuV_zero (cuB_of h.1 h.2.2.2)
  | t + 1, ht => by
    have ih := cuV_it h t (by omega)
    have hB := cuB_of h.1 h.2.2.2
    obtain ⟨p, q, r⟩ := ih.at hB
    exact ih.step (by omega) (nd_ok (plc_bd hB.n0 hB.n1 p q r) h.2.1 h.2.2.1)
end Go.Proofs.Ytdmcbdogpeidjaa
