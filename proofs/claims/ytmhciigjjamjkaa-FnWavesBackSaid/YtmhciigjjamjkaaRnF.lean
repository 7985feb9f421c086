/-
  Waves and back: what comes back is off by less than a millionth, and the first wave is the sum. No conditions.
-/
import Derived.Test.YtmhciigjjamjkaaRnE
namespace Go.Proofs.Ytmhciigjjamjkaa.Rn
open Go.Proofs.Ytmhciigjjamjkaa.Ie
set_option linter.unusedVariables false
set_option linter.unusedSimpArgs false

theorem isI_sub {x y : Nat} {a b : Int} (hx : IsI x a) (hy : IsI y b) (h1 : -9007199254740992 < a - b) (h2 : a - b < 9007199254740992) : ∃ r, Go.floatBits .sub .f64 x y = some r ∧ IsI r (a - b) := by
  obtain ⟨s, m, q, hF, hv⟩ := hx
  obtain ⟨t, n, p, hG, hu⟩ := hy
  have hu' : Ieee.signed (!t) n p = (-b) * 2 ^ 1074 := by
    rw [Int.neg_mul, ← hu, signed_eq, signed_eq]
    cases t <;> simp
  have hg : (Ieee.double.read y).opposite = .number (!t) n (-1074 + (p : Int)) := by rw [hG.rd]; rfl
  show ∃ r, ((Ieee.double.read x).sum (Ieee.double.read y).opposite).map Ieee.double.write = some r ∧ _
  rw [hF.rd, hg]
  obtain ⟨B, hB⟩ : ∃ B : Nat, min q p = B := ⟨_, rfl⟩
  obtain ⟨tot, htot⟩ : ∃ tot, Ieee.signed s m (q - B) + Ieee.signed (!t) n (p - B) = tot := ⟨_, rfl⟩
  have hsum : (Ieee.Datum.number s m (-1074 + (q : Int))).sum (.number (!t) n (-1074 + (p : Int))) = some (.number (if tot = 0 then s && !t else decide (tot < 0)) tot.natAbs (-1074 + (B : Int))) := by
    unfold Ieee.Datum.sum
    dsimp only
    have hb : min (-1074 + (q : Int)) (-1074 + (p : Int)) = -1074 + (B : Int) := by omega
    have e1 : (-1074 + (q : Int) - (-1074 + (B : Int))).toNat = q - B := by omega
    have e2 : (-1074 + (p : Int) - (-1074 + (B : Int))).toNat = p - B := by omega
    rw [hb, e1, e2, htot]
  rw [hsum]
  refine ⟨_, rfl, write_int ?_ h1 h2⟩
  refine ⟨_, _, _, rfl, by omega, ?_⟩
  have e : (-1074 + (B : Int) + 2148).toNat = B + 1074 := by omega
  rw [e, signed_abs tot _ (by by_cases h : tot = 0; exact .inl h; right; rw [if_neg h])]
  have k1 : Ieee.signed s m q = Ieee.signed s m (q - B) * 2 ^ B := by rw [← signed_shl]; congr 1; omega
  have k2 : Ieee.signed (!t) n p = Ieee.signed (!t) n (p - B) * 2 ^ B := by rw [← signed_shl]; congr 1; omega
  rw [Int.pow_add, ← Int.mul_assoc, ← htot, Int.add_mul, ← k1, ← k2, hv, hu', ← Int.add_mul, ← Int.sub_eq_add_neg, Int.mul_assoc, ← Int.pow_add]
theorem res_sub {x y p : Nat} {a b : Int} (hx : IsI x a) (hy : IsI y b) (h1 : -9007199254740992 < a - b) (h2 : a - b < 9007199254740992) (h : Res .sub x y p) : IsI p (a - b) := by
  obtain ⟨r, e, hi⟩ := isI_sub hx hy h1 h2
  rcases h with h | ⟨h, _⟩
  · rw [e] at h; injection h with h; rw [← h]; exact hi
  · rw [e] at h; cases h
theorem isI_zero : IsI 0 0 := by
  have h := fin_word false (m := 0) (q := 0) (by decide) (by decide) (.inl rfl)
  have e : Ieee.double.word false (0 * 4503599627370496 + 0) = 0 := by decide
  rw [e] at h
  exact ⟨false, 0, 0, h, by rw [signed_zero, Int.zero_mul]⟩
theorem isI_one : IsI 4607182418800017408 1 := of_int (n := 1) (by decide) (by decide)
theorem res_mul {x y p : Nat} {a b : Int} (hx : IsI x a) (hy : IsI y b) (h1 : -9007199254740992 < a * b) (h2 : a * b < 9007199254740992) (h : Res .mul x y p) : IsI p (a * b) := by
  obtain ⟨r, hr, hi⟩ := hx.mul hy h1 h2
  have e : floatBits .mul .f64 x y = some r := hr
  rcases h with h | ⟨h, _⟩
  · rw [e] at h; injection h with h; rw [← h]; exact hi
  · rw [e] at h; cases h
theorem res_add {x y p : Nat} {a b : Int} (hx : IsI x a) (hy : IsI y b) (h1 : -9007199254740992 < a + b) (h2 : a + b < 9007199254740992) (h : Res .add x y p) : IsI p (a + b) := by
  obtain ⟨r, hr, hi⟩ := hx.add hy h1 h2
  have e : floatBits .add .f64 x y = some r := hr
  rcases h with h | ⟨h, _⟩
  · rw [e] at h; injection h with h; rw [← h]; exact hi
  · rw [e] at h; cases h
theorem IsI.vl {x : Nat} {n : Int} (h : IsI x n) : Vl x (n * U) := by
  obtain ⟨s, m, q, hF, hv⟩ := h
  exact ⟨s, m, q, hF.rd, hv⟩
theorem IsI.ap {x : Nat} {n : Int} (h : IsI x n) : Ap x (2 * n) 0 0 := by
  refine ⟨_, IsI.vl h, ?_, ?_⟩
  · simp [Int.mul_assoc]
  · simp [Int.mul_assoc]

def sx (X : Nat → Int) : Nat → Int
  | 0 => 0
  | k + 1 => sx X k + X k
/-- whole numbers from -1000 to 1000 -/
def Wh (l : List (Nat × Nat)) (X Y : Nat → Int) : Prop := ∀ j v, l[j]? = some v → IsI v.1 (X j) ∧ IsI v.2 (Y j) ∧ (-1000 ≤ X j ∧ X j ≤ 1000) ∧ (-1000 ≤ Y j ∧ Y j ≤ 1000)

theorem pk0 {l : List (Nat × Nat)} {X Y : Nat → Int} {f : Nat → Nat} (hX : Wh l X Y) (hf : ∀ k, f k = 0) :
    ∀ (k : Nat) (s : Nat × Nat), k ≤ 8 → Pk l f k s → IsI s.1 (sx X k) ∧ IsI s.2 (sx Y k) ∧ (-(1000 * (k : Int)) ≤ sx X k ∧ sx X k ≤ 1000 * (k : Int)) ∧ (-(1000 * (k : Int)) ≤ sx Y k ∧ sx Y k ≤ 1000 * (k : Int)) := by
  intro k
  induction k with
  | zero =>
    intro s _ h
    have hs : s = (0, 0) := h
    subst hs
    have e0 : ∀ X, sx X 0 = 0 := fun _ => rfl
    rw [e0, e0]
    exact ⟨isI_zero, isI_zero, ⟨by decide, by decide⟩, ⟨by decide, by decide⟩⟩
  | succ k ih =>
    intro s hk h
    obtain ⟨s0, x, p, h1, h2, h3, h4, h5⟩ := h
    obtain ⟨i1, i2, ⟨i3, i4⟩, ⟨i5, i6⟩⟩ := ih s0 (by omega) h1
    obtain ⟨x1, x2, ⟨x3, x4⟩, ⟨x5, x6⟩⟩ := hX k x h2
    rw [hf k] at h3
    obtain ⟨u1, u2, u3, u4, m1, m2, m3, m4, m5, m6⟩ := h3
    have a1 := res_mul x1 isI_one (by omega) (by omega) m1
    have a2 := res_mul x2 isI_zero (by omega) (by omega) m2
    have a3 := res_mul x1 isI_zero (by omega) (by omega) m3
    have a4 := res_mul x2 isI_one (by omega) (by omega) m4
    have b1 := res_sub a1 a2 (by omega) (by omega) m5
    have b2 := res_add a3 a4 (by omega) (by omega) m6
    have c1 := res_add i1 b1 (by omega) (by omega) h4
    have c2 := res_add i2 b2 (by omega) (by omega) h5
    have e1 : sx X k + (X k * 1 - Y k * 0) = sx X (k + 1) := by show _ = sx X k + X k; omega
    have e2 : sx Y k + (X k * 0 + Y k * 1) = sx Y (k + 1) := by show _ = sx Y k + Y k; omega
    rw [e1] at c1
    rw [e2] at c2
    refine ⟨c1, c2, ?_, ?_⟩
    · have : sx X (k + 1) = sx X k + X k := rfl
      omega
    · have : sx Y (k + 1) = sx Y k + Y k := rfl
      omega

/-- less than a millionth -/
def Sml (z : Nat) : Prop := Ieee.double.order z 4517329193108106637 = some .lt ∧ Ieee.double.order z 13740701229962882445 = some .gt
theorem mil_eq : ((4722366482869645 : Nat) : Int) * 2 ^ 1002 = 4722366482869645 * 2 ^ 1002 := rfl
theorem mil_vl : Vl 4517329193108106637 (4722366482869645 * 2 ^ 1002) := ⟨false, 4722366482869645, 1002, by decide +kernel, by
  rw [signed_eq]; simp only [Bool.false_eq_true, if_false, Int.one_mul, Int.natCast_mul, natpow]; rfl⟩
theorem nmil_vl : Vl 13740701229962882445 (-(4722366482869645 * 2 ^ 1002)) := ⟨true, 4722366482869645, 1002, by decide +kernel, by
  rw [signed_eq]; simp only [if_true, Int.natCast_mul, natpow, Int.neg_mul, Int.one_mul]; rfl⟩
theorem E_mil : E = 549755813888 * 2 ^ 1002 := by
  have h : (2 : Int) ^ 39 = 549755813888 := by decide
  have e := Int.pow_add 2 39 1002
  rw [h] at e
  exact e
theorem sml_of {z : Nat} {u : Int} (h : Vl z u) (h1 : -(100 * E) ≤ u) (h2 : u ≤ 100 * E) : Sml z := by
  have hp : (0 : Int) < 2 ^ 1002 := Int.pow_pos (by decide)
  rw [E_mil] at h1 h2
  refine ⟨?_, ?_⟩
  · rw [vl_order h mil_vl]
    generalize (2 : Int) ^ 1002 = g at *
    have : u < 4722366482869645 * g := by omega
    simp [compare, compareOfLessAndEq, this]
  · rw [vl_order h nmil_vl]
    generalize (2 : Int) ^ 1002 = g at *
    have h1' : ¬ u < -(4722366482869645 * g) := by omega
    have h2' : ¬ u = -(4722366482869645 * g) := by omega
    simp [compare, compareOfLessAndEq, h1', h2']
theorem vl_sub2 {x y : Nat} {a b : Int} (hx : Vl x a) (hy : Vl y b) (h1 : -(1048576 * U) ≤ a - b) (h2 : a - b ≤ 1048576 * U) : ∃ z v, Go.floatBits .sub .f64 x y = some z ∧ Vl z v ∧ -E ≤ v - (a - b) ∧ v - (a - b) ≤ E := by
  obtain ⟨z', v, e, hv, e1, e2⟩ := sum_err (vl_iff.1 hx) (vl_iff.1 hy).opp (by omega) (by omega)
  exact ⟨z', v, e, hv, by omega, by omega⟩
/-- one part that came back -/
theorem part_back {n : Nat} {s v x : Nat} {X b : Int} (hn : okN n) (hX1 : -1000 ≤ X) (hX2 : X ≤ 1000) (hs : Ap s (2 * (n * X)) 0 (n * (2 * (n * (2 * 0 + 10)) + 10))) (hq : Res .quo s (floatOfInt .f64 n) v) (hx : IsI x X) : ∃ z, Go.floatBits .sub .f64 v x = some z ∧ Sml z := by
  obtain ⟨a, ha, a1, a2⟩ := hs
  have hU := U_pos
  have hE := E_pos
  have hUE := U_E
  have hu1 := mulg _ _ _ hX1 hU
  have hu2 := mulg _ _ _ hX2 hU
  rcases hn with rfl | rfl | rfl | rfl
  · have e1 : 2 * (((1 : Nat) : Int) * X) * U = 2 * (X * U) := by rw [Int.mul_assoc]; simp
    rw [e1] at a1 a2
    simp only [Int.zero_mul] at a1 a2
    have hx' := IsI.vl hx
    generalize X * U = XU at *
    obtain ⟨w, hw, w1, w2⟩ := quo_n (.inl rfl) ha (by omega) (by omega) hq
    obtain ⟨z, u, hz, hu, u1, u2⟩ := vl_sub2 hw hx' (by omega) (by omega)
    exact ⟨z, hz, sml_of hu (by omega) (by omega)⟩
  · have e1 : 2 * (((2 : Nat) : Int) * X) * U = 4 * (X * U) := by rw [← Int.mul_assoc]; simp [Int.mul_assoc]
    rw [e1] at a1 a2
    simp only [Int.zero_mul] at a1 a2
    have hx' := IsI.vl hx
    generalize X * U = XU at *
    obtain ⟨w, hw, w1, w2⟩ := quo_n (.inr (.inl rfl)) ha (by omega) (by omega) hq
    obtain ⟨z, u, hz, hu, u1, u2⟩ := vl_sub2 hw hx' (by omega) (by omega)
    exact ⟨z, hz, sml_of hu (by omega) (by omega)⟩
  · have e1 : 2 * (((4 : Nat) : Int) * X) * U = 8 * (X * U) := by rw [← Int.mul_assoc]; simp [Int.mul_assoc]
    rw [e1] at a1 a2
    simp only [Int.zero_mul] at a1 a2
    have hx' := IsI.vl hx
    generalize X * U = XU at *
    obtain ⟨w, hw, w1, w2⟩ := quo_n (.inr (.inr (.inl rfl))) ha (by omega) (by omega) hq
    obtain ⟨z, u, hz, hu, u1, u2⟩ := vl_sub2 hw hx' (by omega) (by omega)
    exact ⟨z, hz, sml_of hu (by omega) (by omega)⟩
  · have e1 : 2 * (((8 : Nat) : Int) * X) * U = 16 * (X * U) := by rw [← Int.mul_assoc]; simp [Int.mul_assoc]
    rw [e1] at a1 a2
    simp only [Int.zero_mul] at a1 a2
    have hx' := IsI.vl hx
    generalize X * U = XU at *
    obtain ⟨w, hw, w1, w2⟩ := quo_n (.inr (.inr (.inr rfl))) ha (by omega) (by omega) hq
    obtain ⟨z, u, hz, hu, u1, u2⟩ := vl_sub2 hw hx' (by omega) (by omega)
    exact ⟨z, hz, sml_of hu (by omega) (by omega)⟩

theorem waves_back {l W B : List (Nat × Nat)} {X Y : Nat → Int} (hn : okN l.length) (hX : Wh l X Y) (hW : WvV false l W) (hB : WvV true W B) :
    W.length = l.length ∧ B.length = l.length ∧ (∀ v, W[0]? = some v → IsI v.1 (sx X l.length) ∧ IsI v.2 (sx Y l.length)) ∧
    ∀ (i : Nat) (v x : Nat × Nat), B[i]? = some v → l[i]? = some x → (∃ z, Go.floatBits .sub .f64 v.1 x.1 = some z ∧ Sml z) ∧ (∃ z, Go.floatBits .sub .f64 v.2 x.2 = some z ∧ Sml z) := by
  have hn8 : l.length ≤ 8 := by unfold okN at hn; omega
  obtain ⟨_, hW1, hW2⟩ | ⟨h, _⟩ := hW
  rotate_left
  · exact absurd hn h
  obtain ⟨hn', hB1, hB2⟩ | ⟨h, _⟩ := hB
  rotate_left
  · rw [hW1] at h; exact absurd hn h
  rw [hW1] at hB1
  refine ⟨hW1, hB1, ?_, ?_⟩
  · intro v hv
    obtain ⟨s, h1, h2⟩ := hW2 0 v hv
    simp at h2
    subst h2
    obtain ⟨k1, k2, _, _⟩ := pk0 hX (fun k => by simp [fS]) l.length v hn8 h1
    exact ⟨k1, k2⟩
  · intro i v x hv hx
    have hi : i < l.length := by
      have := (List.getElem?_eq_some_iff.1 hv).1; omega
    -- the waves are near
    have near : ∀ j u, W[j]? = some u → Nr ((l.length : Int) * (2 * 1000)) ((l.length : Int) * (2 * 0 + 10)) u (sm1 X Y (fS false l.length j) l.length) := by
      intro j u hu
      obtain ⟨s, h1, h2⟩ := hW2 j u hu
      simp at h2
      subst h2
      have := pk_near (l := l) (f := fS false l.length j) (X := fun j => (X j, 0, Y j, 0)) (M := 1000) (e := 0) (by decide) (by decide) (by decide) (by decide) (fun j v hv => by
        obtain ⟨x1, x2, x3, x4⟩ := hX j v hv
        exact ⟨IsI.ap x1, IsI.ap x2, x3, ⟨by show (-1000 : Int) ≤ 0; decide, by show (0 : Int) ≤ 1000; decide⟩, x4, ⟨by show (-1000 : Int) ≤ 0; decide, by show (0 : Int) ≤ 1000; decide⟩⟩) l.length u hn8 h1
      rw [sm_sm1] at this
      generalize sm1 X Y (fS false l.length j) l.length = q at *
      generalize (l.length : Int) * (2 * 1000) = M at *
      generalize (l.length : Int) * (2 * 0 + 10) = e at *
      obtain ⟨h1, h2, ⟨a1, a2⟩, b, ⟨c1, c2⟩, d⟩ := this
      dsimp only at *
      exact ⟨h1, h2, ⟨by omega, by omega⟩, b, ⟨by omega, by omega⟩, d⟩
    obtain ⟨s, h1, h2⟩ := hB2 i v hv
    rw [hW1] at h1 h2
    simp at h2
    have far := pk_near (l := W) (f := fS true l.length i) (M := (l.length : Int) * (2 * 1000)) (e := (l.length : Int) * (2 * 0 + 10)) (by omega) (by omega) (by omega) (by omega) near l.length s hn8 h1
    rw [backN X Y hn i hi] at far
    obtain ⟨f1, f2, _⟩ := far
    dsimp only at f1 f2
    obtain ⟨x1, x2, x3, x4⟩ := hX i x hx
    exact ⟨part_back (b := 0) hn x3.1 x3.2 f1 h2.1 x1, part_back (b := 0) hn x4.1 x4.2 f2 h2.2 x2⟩
end Go.Proofs.Ytmhciigjjamjkaa.Rn
