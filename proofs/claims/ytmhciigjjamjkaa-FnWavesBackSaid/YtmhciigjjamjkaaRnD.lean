/-
  Waves and back, in whole numbers and in numbers near them: what comes back is near what was. No conditions.
-/
import Derived.Test.YtmhciigjjamjkaaRnC
namespace Go.Proofs.Ytmhciigjjamjkaa.Rn
open Go.Proofs.Ytmhciigjjamjkaa.Ie
set_option linter.unusedVariables false
set_option linter.unusedSimpArgs false

/-- p + q h and p' + q' h -/
abbrev Q4 := Int × Int × Int × Int
/-- the roots -/
def rp : Nat → Q4
  | 0 => (1, 0, 0, 0)
  | 1 => (0, 1, 0, -1)
  | 2 => (0, 0, -1, 0)
  | 3 => (0, -1, 0, -1)
  | 4 => (-1, 0, 0, 0)
  | 5 => (0, -1, 0, 1)
  | 6 => (0, 0, 1, 0)
  | _ => (0, 1, 0, 1)
theorem rp_rc (i : Nat) : Rc (rt i).1 (rp i).1 (rp i).2.1 ∧ Rc (rt i).2 (rp i).2.2.1 (rp i).2.2.2 := by
  unfold Rc
  match i with
  | 0 | 1 | 2 | 3 | 4 | 5 | 6 => simp [rt, rp]
  | n + 7 => simp [rt, rp]
/-- the product, its whole parts doubled -/
def mlt (x r : Q4) : Q4 := (2 * (x.1 * r.1) + x.2.1 * r.2.1 - (2 * (x.2.2.1 * r.2.2.1) + x.2.2.2 * r.2.2.2), x.1 * r.2.1 + x.2.1 * r.1 - (x.2.2.1 * r.2.2.2 + x.2.2.2 * r.2.2.1),
  2 * (x.1 * r.2.2.1) + x.2.1 * r.2.2.2 + (2 * (x.2.2.1 * r.1) + x.2.2.2 * r.2.1), x.1 * r.2.2.2 + x.2.1 * r.2.2.1 + (x.2.2.1 * r.2.1 + x.2.2.2 * r.1))
def ad4 (x y : Q4) : Q4 := (x.1 + y.1, x.2.1 + y.2.1, x.2.2.1 + y.2.2.1, x.2.2.2 + y.2.2.2)
/-- the sum of the first k products -/
def sm (x : Nat → Q4) (f : Nat → Nat) : Nat → Q4
  | 0 => (0, 0, 0, 0)
  | k + 1 => ad4 (sm x f k) (mlt (x k) (rp (f k)))

theorem rc_bd {c : Nat} {A B p q M : Int} (h : Rc c p q) (a1 : -M ≤ A) (a2 : A ≤ M) (b1 : -M ≤ B) (b2 : B ≤ M) : -(2 * M) ≤ 2 * (A * p) + B * q ∧ 2 * (A * p) + B * q ≤ 2 * M ∧ -M ≤ A * q + B * p ∧ A * q + B * p ≤ M := by
  rcases h with ⟨_, rfl, rfl⟩ | ⟨_, rfl, rfl⟩ | ⟨_, rfl, rfl⟩ | ⟨_, rfl, rfl⟩ | ⟨_, rfl, rfl⟩ <;> simp [Int.mul_neg] <;> omega

/-- a complex number near x, its parts not above M -/
def Nr (M e : Int) (v : Nat × Nat) (x : Q4) : Prop :=
  Ap v.1 (2 * x.1) x.2.1 e ∧ Ap v.2 (2 * x.2.2.1) x.2.2.2 e ∧ (-M ≤ x.1 ∧ x.1 ≤ M) ∧ (-M ≤ x.2.1 ∧ x.2.1 ≤ M) ∧ (-M ≤ x.2.2.1 ∧ x.2.2.1 ≤ M) ∧ (-M ≤ x.2.2.2 ∧ x.2.2.2 ≤ M)
/-- a complex number near x, the whole parts doubled -/
def Nd (M e : Int) (v : Nat × Nat) (x : Q4) : Prop :=
  Ap v.1 x.1 x.2.1 e ∧ Ap v.2 x.2.2.1 x.2.2.2 e ∧ (-(2 * M) ≤ x.1 ∧ x.1 ≤ 2 * M) ∧ (-M ≤ x.2.1 ∧ x.2.1 ≤ M) ∧ (-(2 * M) ≤ x.2.2.1 ∧ x.2.2.1 ≤ 2 * M) ∧ (-M ≤ x.2.2.2 ∧ x.2.2.2 ≤ M)

theorem nr_mul {M e : Int} {v p : Nat × Nat} {x : Q4} (i : Nat) (h : Nr M e v x) (hM : M ≤ 16000) (he0 : 0 ≤ e) (he : e ≤ 10000) (hp : CPr v.1 v.2 (rt i).1 (rt i).2 p.1 p.2) : Nd (2 * M) (2 * e + 8) p (mlt x (rp i)) := by
  obtain ⟨r1, r2⟩ := rp_rc i
  obtain ⟨h1, h2, ⟨a1, a2⟩, ⟨b1, b2⟩, ⟨c1, c2⟩, ⟨d1, d2⟩⟩ := h
  obtain ⟨x1, x2, x3, x4⟩ := x
  generalize rp i = r at *
  generalize rt i = c at *
  obtain ⟨p1, p2, p3, p4⟩ := r
  dsimp only at *
  obtain ⟨u1, u2, u3, u4, m1, m2, m3, m4, m5, m6⟩ := hp
  have k1 := ap_mulc h1 r1 (by omega) (by omega) (by omega) (by omega) he0 (by omega) m1
  have k2 := ap_mulc h2 r2 (by omega) (by omega) (by omega) (by omega) he0 (by omega) m2
  have k3 := ap_mulc h1 r2 (by omega) (by omega) (by omega) (by omega) he0 (by omega) m3
  have k4 := ap_mulc h2 r1 (by omega) (by omega) (by omega) (by omega) he0 (by omega) m4
  obtain ⟨q1, q2, q3, q4⟩ := rc_bd r1 a1 a2 b1 b2
  obtain ⟨s1, s2, s3, s4⟩ := rc_bd r2 c1 c2 d1 d2
  obtain ⟨t1, t2, t3, t4⟩ := rc_bd r2 a1 a2 b1 b2
  obtain ⟨w1, w2, w3, w4⟩ := rc_bd r1 c1 c2 d1 d2
  have e1 := ap_sub k1 k2 (by omega) (by omega) (by omega) (by omega) (by omega) (by omega) m5
  have e2 := ap_add k3 k4 (by omega) (by omega) (by omega) (by omega) (by omega) (by omega) m6
  have ee : e + 3 + (e + 3) + 2 = 2 * e + 8 := by omega
  rw [ee] at e1 e2
  unfold Nd mlt
  dsimp only
  exact ⟨e1, e2, ⟨by omega, by omega⟩, ⟨by omega, by omega⟩, ⟨by omega, by omega⟩, ⟨by omega, by omega⟩⟩
theorem nd_add {M N e e' : Int} {u v s : Nat × Nat} {x y : Q4} (h : Nd M e u x) (h' : Nd N e' v y) (hM : 2 * (M + N) ≤ 600000) (he0 : 0 ≤ e + e') (he : e + e' ≤ 50000) (h1 : Res .add u.1 v.1 s.1) (h2 : Res .add u.2 v.2 s.2) : Nd (M + N) (e + e' + 2) s (ad4 x y) := by
  obtain ⟨k1, k2, ⟨a1, a2⟩, ⟨b1, b2⟩, ⟨c1, c2⟩, ⟨d1, d2⟩⟩ := h
  obtain ⟨l1, l2, ⟨a3, a4⟩, ⟨b3, b4⟩, ⟨c3, c4⟩, ⟨d3, d4⟩⟩ := h'
  obtain ⟨x1, x2, x3, x4⟩ := x
  obtain ⟨y1, y2, y3, y4⟩ := y
  dsimp only at *
  have e1 := ap_add k1 l1 (by omega) (by omega) (by omega) (by omega) (by omega) (by omega) h1
  have e2 := ap_add k2 l2 (by omega) (by omega) (by omega) (by omega) (by omega) (by omega) h2
  unfold Nd ad4
  dsimp only
  exact ⟨e1, e2, ⟨by omega, by omega⟩, ⟨by omega, by omega⟩, ⟨by omega, by omega⟩, ⟨by omega, by omega⟩⟩
theorem ap_zero : Ap 0 0 0 0 := ⟨0, zero_vl, by simp, by simp⟩
theorem pk_near {l : List (Nat × Nat)} {f : Nat → Nat} {X : Nat → Q4} {M e : Int} (hM0 : 0 ≤ M) (hM : M ≤ 16000) (he0 : 0 ≤ e) (he : e ≤ 1000) (hX : ∀ j v, l[j]? = some v → Nr M e v (X j)) :
    ∀ (k : Nat) (s : Nat × Nat), k ≤ 8 → Pk l f k s → Nd (k * (2 * M)) (k * (2 * e + 10)) s (sm X f k) := by
  intro k
  induction k with
  | zero =>
    intro s _ h
    have hs : s = (0, 0) := h
    subst hs
    simp only [Int.natCast_zero, Int.zero_mul]
    have e0 : sm X f 0 = (0, 0, 0, 0) := rfl
    rw [e0]
    exact ⟨ap_zero, ap_zero, ⟨by decide, by decide⟩, ⟨by decide, by decide⟩, ⟨by decide, by decide⟩, ⟨by decide, by decide⟩⟩
  | succ k ih =>
    intro s hk h
    obtain ⟨s0, x, p, h1, h2, h3, h4, h5⟩ := h
    have i1 := ih s0 (by omega) h1
    have i2 := nr_mul (f k) (hX k x h2) hM he0 (by omega) h3
    have n1 : (k : Int) * (2 * M) ≤ 8 * (2 * M) := Int.mul_le_mul_of_nonneg_right (by omega) (by omega)
    have n0 : 0 ≤ (k : Int) * (2 * M) := Int.mul_nonneg (by omega) (by omega)
    have m1 : (k : Int) * (2 * e + 10) ≤ 8 * (2 * e + 10) := Int.mul_le_mul_of_nonneg_right (by omega) (by omega)
    have m0 : 0 ≤ (k : Int) * (2 * e + 10) := Int.mul_nonneg (by omega) (by omega)
    have n7 : (k : Int) * (2 * M) ≤ 7 * (2 * M) := Int.mul_le_mul_of_nonneg_right (by omega) (by omega)
    have := nd_add i1 i2 (by omega) (by omega) (by omega) h4 h5
    have q1 : (k : Int) * (2 * M) + 2 * M = ((k + 1 : Nat) : Int) * (2 * M) := by rw [Int.natCast_add, Int.add_mul]; simp
    have q2 : (k : Int) * (2 * e + 10) + (2 * e + 8) + 2 = ((k + 1 : Nat) : Int) * (2 * e + 10) := by rw [Int.natCast_add, Int.add_mul]; simp; omega
    rw [q1, q2] at this
    exact this
/-- the first waves of whole numbers -/
def sm1 (X Y : Nat → Int) (f : Nat → Nat) : Nat → Q4
  | 0 => (0, 0, 0, 0)
  | k + 1 => ((sm1 X Y f k).1 + (X k * (rp (f k)).1 - Y k * (rp (f k)).2.2.1), (sm1 X Y f k).2.1 + (X k * (rp (f k)).2.1 - Y k * (rp (f k)).2.2.2),
    (sm1 X Y f k).2.2.1 + (X k * (rp (f k)).2.2.1 + Y k * (rp (f k)).1), (sm1 X Y f k).2.2.2 + (X k * (rp (f k)).2.2.2 + Y k * (rp (f k)).2.1))
theorem sm_sm1 (X Y : Nat → Int) (f : Nat → Nat) (k : Nat) : sm (fun j => (X j, 0, Y j, 0)) f k = (2 * (sm1 X Y f k).1, (sm1 X Y f k).2.1, 2 * (sm1 X Y f k).2.2.1, (sm1 X Y f k).2.2.2) := by
  induction k with
  | zero => rfl
  | succ k ih =>
    unfold sm sm1
    rw [ih]
    unfold ad4 mlt
    dsimp only
    simp only [Int.zero_mul, Int.add_zero, Prod.mk.injEq]
    refine ⟨by omega, trivial, by omega, trivial⟩
end Go.Proofs.Ytmhciigjjamjkaa.Rn
