/-
  Numbers near a/2 + b h: sums, differences and products with a root's parts. No conditions.
-/
import Derived.Test.YtmhciigjjamjkaaRnA
namespace Go.Proofs.Ytmhciigjjamjkaa.Rn
open Go.Proofs.Ytmhciigjjamjkaa.Ie
set_option linter.unusedVariables false

theorem mulg (a b c : Int) (h1 : a ≤ b) (hc : 0 < c) : a * c ≤ b * c := Int.mul_le_mul_of_nonneg_right h1 (Int.le_of_lt hc)

/-- how great such a number is, in g0 -/
theorem ap_bound {x : Nat} {a b e v : Int} (ha1 : -600000 ≤ a) (ha2 : a ≤ 600000) (hb1 : -600000 ≤ b) (hb2 : b ≤ 600000) (he0 : 0 ≤ e) (he : e ≤ 100000)
    (h1 : -(e * E) ≤ 2 * v - (a * U + 2 * (b * H))) (h2 : 2 * v - (a * U + 2 * (b * H)) ≤ e * E) : -(900001 * U) ≤ v ∧ v ≤ 900001 * U := by
  have g := g0_pos
  rw [E_g, U_g] at h1 h2
  rw [U_g]
  unfold H at h1 h2
  have a1 := mulg _ _ _ ha1 g
  have a2 := mulg _ _ _ ha2 g
  have b1 := mulg _ _ _ hb1 g
  have b2 := mulg _ _ _ hb2 g
  have e1 := mulg _ _ _ he0 g
  have e2 := mulg _ _ _ he g
  have x1 : e * (1048576 * g0) = 1048576 * (e * g0) := by rw [Int.mul_left_comm]
  have x2 : a * (9007199254740992 * g0) = 9007199254740992 * (a * g0) := by rw [Int.mul_left_comm]
  have x3 : b * (6369051672525773 * g0) = 6369051672525773 * (b * g0) := by rw [Int.mul_left_comm]
  rw [x1, x2, x3] at h1 h2
  generalize a * g0 = ag at *
  generalize b * g0 = bg at *
  generalize e * g0 = eg at *
  constructor <;> omega

theorem ap_add {x y z : Nat} {a b e a' b' e' : Int} (hx : Ap x a b e) (hy : Ap y a' b' e') (ha1 : -600000 ≤ a + a') (ha2 : a + a' ≤ 600000) (hb1 : -600000 ≤ b + b') (hb2 : b + b' ≤ 600000) (he0 : 0 ≤ e + e') (he : e + e' ≤ 100000)
    (h : Res .add x y z) : Ap z (a + a') (b + b') (e + e' + 2) := by
  obtain ⟨v, hv, h1, h2⟩ := hx
  obtain ⟨v', hv', h3, h4⟩ := hy
  have k1 : -((e + e') * E) ≤ 2 * (v + v') - ((a + a') * U + 2 * ((b + b') * H)) := by simp only [Int.add_mul]; omega
  have k2 : 2 * (v + v') - ((a + a') * U + 2 * ((b + b') * H)) ≤ (e + e') * E := by simp only [Int.add_mul]; omega
  obtain ⟨l1, l2⟩ := ap_bound (x := 0) ha1 ha2 hb1 hb2 he0 he k1 k2
  have hu := U_pos
  obtain ⟨u, hu', m1, m2⟩ := vl_add hv hv' (by omega) (by omega) h
  refine ⟨u, hu', ?_, ?_⟩
  · simp only [Int.add_mul] at k1 k2 ⊢; omega
  · simp only [Int.add_mul] at k1 k2 ⊢; omega
theorem ap_sub {x y z : Nat} {a b e a' b' e' : Int} (hx : Ap x a b e) (hy : Ap y a' b' e') (ha1 : -600000 ≤ a - a') (ha2 : a - a' ≤ 600000) (hb1 : -600000 ≤ b - b') (hb2 : b - b' ≤ 600000) (he0 : 0 ≤ e + e') (he : e + e' ≤ 100000)
    (h : Res .sub x y z) : Ap z (a - a') (b - b') (e + e' + 2) := by
  obtain ⟨v, hv, h1, h2⟩ := hx
  obtain ⟨v', hv', h3, h4⟩ := hy
  have k1 : -((e + e') * E) ≤ 2 * (v - v') - ((a - a') * U + 2 * ((b - b') * H)) := by simp only [Int.add_mul, Int.sub_mul]; omega
  have k2 : 2 * (v - v') - ((a - a') * U + 2 * ((b - b') * H)) ≤ (e + e') * E := by simp only [Int.add_mul, Int.sub_mul]; omega
  obtain ⟨l1, l2⟩ := ap_bound (x := 0) ha1 ha2 hb1 hb2 he0 he k1 k2
  have hu := U_pos
  obtain ⟨u, hu', m1, m2⟩ := vl_sub hv hv' (by omega) (by omega) h
  refine ⟨u, hu', ?_, ?_⟩
  · simp only [Int.add_mul, Int.sub_mul] at k1 k2 ⊢; omega
  · simp only [Int.add_mul, Int.sub_mul] at k1 k2 ⊢; omega
/-- from what a product with c gives: the bound that it asks for -/
theorem mul_fits {v c : Int} (h1 : -(900001 * U) ≤ v) (h2 : v ≤ 900001 * U) (c1 : -U ≤ c) (c2 : c ≤ U) : -(1048576 * (U * U)) ≤ v * c ∧ v * c ≤ 1048576 * (U * U) := by
  have hu := U_pos
  have hUU : 0 < U * U := Int.mul_pos hu hu
  have e1 : v.natAbs ≤ (900001 * U).natAbs := by omega
  have e2 : c.natAbs ≤ U.natAbs := by omega
  have e3 := Nat.mul_le_mul e1 e2
  rw [← Int.natAbs_mul, ← Int.natAbs_mul, Int.mul_assoc] at e3
  generalize v * c = p at *
  generalize U * U = q at *
  omega
theorem H_le : 0 < H ∧ H ≤ U := by
  have g := g0_pos
  rw [U_g]; unfold H
  omega

theorem ap_mul1 {x z : Nat} {a b e : Int} (s : Bool) (hx : Ap x a b e) (ha1 : -600000 ≤ a) (ha2 : a ≤ 600000) (hb1 : -600000 ≤ b) (hb2 : b ≤ 600000) (he0 : 0 ≤ e) (he : e ≤ 100000)
    (h : Res .mul x (if s then 13830554455654793216 else 4607182418800017408) z) : Ap z (if s then -a else a) (if s then -b else b) (e + 3) := by
  obtain ⟨v, hv, h1, h2⟩ := hx
  obtain ⟨l1, l2⟩ := ap_bound (x := 0) ha1 ha2 hb1 hb2 he0 he h1 h2
  have hu := U_pos
  have hE := E_pos
  cases s
  · simp only [Bool.false_eq_true, if_false] at h ⊢
    obtain ⟨f1, f2⟩ := mul_fits l1 l2 (c := U) (by omega) (by omega)
    obtain ⟨u, hu', m1, m2⟩ := vl_mul hv one_vl f1 f2 h
    have n1 : -E ≤ u - v := le_of_mul_U (by rw [Int.neg_mul, Int.sub_mul]; exact m1)
    have n2 : u - v ≤ E := le_of_mul_U (by rw [Int.sub_mul]; exact m2)
    refine ⟨u, hu', ?_, ?_⟩
    · rw [Int.add_mul]; omega
    · rw [Int.add_mul]; omega
  · simp only [if_true] at h ⊢
    obtain ⟨f1, f2⟩ := mul_fits l1 l2 (c := -U) (by omega) (by omega)
    obtain ⟨u, hu', m1, m2⟩ := vl_mul hv negone_vl f1 f2 h
    have n1 : -E ≤ u + v := le_of_mul_U (by rw [Int.neg_mul, Int.add_mul]; rw [Int.mul_neg] at m1; omega)
    have n2 : u + v ≤ E := le_of_mul_U (by rw [Int.add_mul]; rw [Int.mul_neg] at m2; omega)
    refine ⟨u, hu', ?_, ?_⟩
    · rw [Int.add_mul, Int.neg_mul, Int.neg_mul]; omega
    · rw [Int.add_mul, Int.neg_mul, Int.neg_mul]; omega

theorem ap_mul0 {x z : Nat} {a b e : Int} (hx : Ap x a b e) (he0 : 0 ≤ e) (h : Res .mul x 0 z) : Ap z 0 0 (e + 3) := by
  obtain ⟨v, hv, h1, h2⟩ := hx
  have hu := U_pos
  have hE := E_pos
  have hUU : 0 < U * U := Int.mul_pos hu hu
  obtain ⟨u, hu', m1, m2⟩ := vl_mul hv zero_vl (by rw [Int.mul_zero]; omega) (by rw [Int.mul_zero]; omega) h
  rw [Int.mul_zero] at m1 m2
  have n1 : -E ≤ u := le_of_mul_U (by rw [Int.neg_mul]; omega)
  have n2 : u ≤ E := le_of_mul_U (by omega)
  have hp : 0 ≤ e * E := Int.mul_nonneg he0 (Int.le_of_lt hE)
  refine ⟨u, hu', ?_, ?_⟩
  · rw [Int.add_mul, Int.zero_mul, Int.zero_mul]; omega
  · rw [Int.add_mul, Int.zero_mul, Int.zero_mul]; omega

theorem ap_mulH {x z : Nat} {A b e : Int} (s : Bool) (hx : Ap x (2 * A) b e) (ha1 : -100000 ≤ A) (ha2 : A ≤ 100000) (hb1 : -100000 ≤ b) (hb2 : b ≤ 100000) (he0 : 0 ≤ e) (he : e ≤ 100000)
    (h : Res .mul x (if s then 13827916308072577997 else 4604544271217802189) z) : Ap z (if s then -b else b) (if s then -A else A) (e + 3) := by
  obtain ⟨v, hv, h1, h2⟩ := hx
  obtain ⟨l1, l2⟩ := ap_bound (x := 0) (by omega) (by omega) (by omega) (by omega) he0 he h1 h2
  have hu := U_pos
  obtain ⟨H0, H1⟩ := H_le
  have hg := g0_pos
  have hgg : 0 < g0 * g0 := Int.mul_pos hg hg
  -- all in g0 times g0
  have q3 := mulg _ _ _ h1 hg
  have q4 := mulg _ _ _ h2 hg
  have b1 := mulg _ _ _ hb1 hgg
  have b2 := mulg _ _ _ hb2 hgg
  have e1 := mulg _ _ _ he0 hgg
  have x1 : e * (1048576 * g0) * g0 = 1048576 * (e * (g0 * g0)) := by simp only [Int.mul_assoc, Int.mul_left_comm]
  have x2 : 2 * A * (9007199254740992 * g0) * g0 = 2 * (9007199254740992 * (A * (g0 * g0))) := by simp only [Int.mul_assoc, Int.mul_left_comm]
  have x3 : b * (6369051672525773 * g0) * g0 = 6369051672525773 * (b * (g0 * g0)) := by simp only [Int.mul_assoc, Int.mul_left_comm]
  rw [E_g, U_g] at q3 q4
  unfold H at q3 q4
  rw [Int.neg_mul, Int.sub_mul, Int.add_mul, Int.mul_assoc 2 v, Int.mul_assoc 2 (b * _), x1, x2, x3] at q3
  rw [Int.sub_mul, Int.add_mul, Int.mul_assoc 2 v, Int.mul_assoc 2 (b * _), x1, x2, x3] at q4
  have fin : ∀ u : Int, -(1048576 * (e * (g0 * g0) + 3 * (g0 * g0))) ≤ 2 * (u * g0) - (9007199254740992 * (b * (g0 * g0)) + 2 * (6369051672525773 * (A * (g0 * g0)))) → 2 * (u * g0) - (9007199254740992 * (b * (g0 * g0)) + 2 * (6369051672525773 * (A * (g0 * g0)))) ≤ 1048576 * (e * (g0 * g0) + 3 * (g0 * g0)) →
      -((e + 3) * E) ≤ 2 * u - (b * U + 2 * (A * H)) ∧ 2 * u - (b * U + 2 * (A * H)) ≤ (e + 3) * E := by
    intro u k1 k2
    have y1 : (e + 3) * (1048576 * g0) * g0 = 1048576 * (e * (g0 * g0) + 3 * (g0 * g0)) := by
      rw [Int.add_mul, Int.add_mul]; simp only [Int.mul_assoc, Int.mul_left_comm, Int.mul_add]
    have y2 : b * (9007199254740992 * g0) * g0 = 9007199254740992 * (b * (g0 * g0)) := by simp only [Int.mul_assoc, Int.mul_left_comm]
    have y3 : A * (6369051672525773 * g0) * g0 = 6369051672525773 * (A * (g0 * g0)) := by simp only [Int.mul_assoc, Int.mul_left_comm]
    rw [E_g, U_g]
    unfold H
    constructor
    · refine Int.le_of_mul_le_mul_right (a := g0) ?_ hg
      rw [Int.neg_mul, y1, Int.sub_mul, Int.add_mul, Int.mul_assoc 2 u, Int.mul_assoc 2 (A * _), y2, y3]
      exact k1
    · refine Int.le_of_mul_le_mul_right (a := g0) ?_ hg
      rw [y1, Int.sub_mul, Int.add_mul, Int.mul_assoc 2 u, Int.mul_assoc 2 (A * _), y2, y3]
      exact k2
  have w1 : E * U = 9444732965739290427392 * (g0 * g0) := by rw [E_g, U_g, Int.mul_assoc, Int.mul_left_comm g0, ← Int.mul_assoc]; rfl
  have w2 : ∀ u : Int, u * U = 9007199254740992 * (u * g0) := fun u => by rw [U_g, Int.mul_left_comm]
  have w3 : v * H = 6369051672525773 * (v * g0) := by unfold H; rw [Int.mul_left_comm]
  cases s
  · simp only [Bool.false_eq_true, if_false] at h ⊢
    obtain ⟨f1, f2⟩ := mul_fits l1 l2 (c := H) (by omega) (by omega)
    obtain ⟨u, hu', m1, m2⟩ := vl_mul hv H_vl f1 f2 h
    rw [w1, w2, w3] at m1 m2
    obtain ⟨k1, k2⟩ := coreH (u * g0) (v * g0) (A * (g0 * g0)) (b * (g0 * g0)) (e * (g0 * g0)) (g0 * g0) hgg (by omega) (by omega) (by omega) m1 m2 q3 q4
    obtain ⟨r1, r2⟩ := fin u k1 k2
    exact ⟨u, hu', r1, r2⟩
  · simp only [if_true] at h ⊢
    obtain ⟨f1, f2⟩ := mul_fits l1 l2 (c := -H) (by omega) (by omega)
    obtain ⟨u, hu', m1, m2⟩ := vl_mul hv negH_vl f1 f2 h
    rw [Int.mul_neg, w1, w2, w3] at m1 m2
    obtain ⟨k1, k2⟩ := coreH (-(u * g0)) (v * g0) (A * (g0 * g0)) (b * (g0 * g0)) (e * (g0 * g0)) (g0 * g0) hgg (by omega) (by omega) (by omega) (by omega) (by omega) q3 q4
    obtain ⟨r1, r2⟩ := fin (-u) (by rw [Int.neg_mul]; exact k1) (by rw [Int.neg_mul]; exact k2)
    refine ⟨u, hu', ?_, ?_⟩
    · rw [Int.neg_mul, Int.neg_mul]; omega
    · rw [Int.neg_mul, Int.neg_mul]; omega

/-- the product with a root's part -/
theorem ap_mulc {x c z : Nat} {A b e p q : Int} (hx : Ap x (2 * A) b e) (hc : Rc c p q) (ha1 : -100000 ≤ A) (ha2 : A ≤ 100000) (hb1 : -100000 ≤ b) (hb2 : b ≤ 100000) (he0 : 0 ≤ e) (he : e ≤ 100000)
    (h : Res .mul x c z) : Ap z (2 * (A * p) + b * q) (A * q + b * p) (e + 3) := by
  rcases hc with ⟨rfl, rfl, rfl⟩ | ⟨rfl, rfl, rfl⟩ | ⟨rfl, rfl, rfl⟩ | ⟨rfl, rfl, rfl⟩ | ⟨rfl, rfl, rfl⟩
  · have := ap_mul0 hx he0 h
    simpa using this
  · have := ap_mul1 false hx (by omega) (by omega) (by omega) (by omega) he0 he h
    simpa using this
  · have := ap_mul1 true hx (by omega) (by omega) (by omega) (by omega) he0 he h
    simpa [Int.mul_neg] using this
  · have := ap_mulH false hx ha1 ha2 hb1 hb2 he0 he h
    simpa using this
  · have := ap_mulH true hx ha1 ha2 hb1 hb2 he0 he h
    simpa [Int.mul_neg] using this
end Go.Proofs.Ytmhciigjjamjkaa.Rn
