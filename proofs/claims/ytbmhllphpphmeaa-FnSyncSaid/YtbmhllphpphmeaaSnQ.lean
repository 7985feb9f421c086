/-
  Sounds of small whole numbers with one peak, in the numbers of 64 bits: how far they agree, and the lag that is found. No program is named here; no conditions.
-/
import Derived.Test.YtbmhllphpphmeaaSyP
import Derived.Test.YtbmhllphpphmeaaIeP
import Derived.Test.YtbmhllphpphmeaaSnP
namespace Go.Proofs.Ytbmhllphpphmeaa
open Go.RowKit
set_option linter.unusedVariables false

def Ints (l : List Nat) (A : List Int) : Prop := l.length = A.length ∧ ∀ i, i < l.length → Ie.IsI (l.getD i 0) (A.getD i 0)
theorem isI_zero : Ie.IsI 0 0 := by
  have h := Ie.fin_word false (m := 0) (q := 0) (by decide) (by decide) (.inl rfl)
  have e : Ieee.double.word false (0 * 4503599627370496 + 0) = 0 := by decide
  rw [e] at h
  exact ⟨false, 0, 0, h, by rw [Ie.signed_zero, Int.zero_mul]⟩
theorem res_mul {x y p : Nat} {a b : Int} (hx : Ie.IsI x a) (hy : Ie.IsI y b) (h1 : -9007199254740992 < a * b) (h2 : a * b < 9007199254740992) (h : Res .mul x y p) : Ie.IsI p (a * b) := by
  obtain ⟨r, hr, hi⟩ := hx.mul hy h1 h2
  have e : floatBits .mul .f64 x y = some r := hr
  rcases h with h | ⟨h, _⟩
  · rw [e] at h; injection h with h; rw [← h]; exact hi
  · rw [e] at h; cases h
theorem res_add {x y p : Nat} {a b : Int} (hx : Ie.IsI x a) (hy : Ie.IsI y b) (h1 : -9007199254740992 < a + b) (h2 : a + b < 9007199254740992) (h : Res .add x y p) : Ie.IsI p (a + b) := by
  obtain ⟨r, hr, hi⟩ := hx.add hy h1 h2
  have e : floatBits .add .f64 x y = some r := hr
  rcases h with h | ⟨h, _⟩
  · rw [e] at h; injection h with h; rw [← h]; exact hi
  · rw [e] at h; cases h

theorem agc_int {l m : List Nat} {A B : List Int} {P Q : Nat} (hl : Ints l A) (hm : Ints m B) (hA : Sn.Peak A P) (hB : Sn.Peak B Q) (hn : l.length ≤ 100) (lag : Int) : ∀ (k v : Nat), k ≤ l.length → AgC l m lag k v → Ie.IsI v (Sn.cor A B lag k) := by
  intro k
  induction k with
  | zero =>
    intro v _ h
    have : v = 0 := h
    subst this
    exact isI_zero
  | succ k ih =>
    intro v hk h
    unfold AgC at h
    have hc := Sn.cor_abs hA hB lag k
    have ht := Sn.term_abs hA hB lag k
    unfold Sn.cor
    by_cases hr : 0 ≤ (k : Int) + lag ∧ (k : Int) + lag < m.length
    · rw [if_pos hr] at h
      obtain ⟨s, p, h1, h2, h3⟩ := h
      have i1 := ih s (by omega) h1
      have hr2 : 0 ≤ (k : Int) + lag ∧ (k : Int) + lag < B.length := by rw [← hm.1]; exact hr
      have et : Sn.term A B lag k = A.getD k 0 * B.getD ((k : Int) + lag).toNat 0 := by unfold Sn.term; rw [if_pos hr2]
      rw [et] at ht
      have i2 := res_mul (hl.2 k (by omega)) (hm.2 ((k : Int) + lag).toNat (by omega)) (by omega) (by omega) h2
      rw [et]
      exact res_add i1 i2 (by omega) (by omega) h3
    · rw [if_neg hr] at h
      have hr2 : ¬ (0 ≤ (k : Int) + lag ∧ (k : Int) + lag < B.length) := by rw [← hm.1]; exact hr
      have et : Sn.term A B lag k = 0 := by unfold Sn.term; rw [if_neg hr2]
      rw [et, Int.add_zero]
      exact ih v (by omega) h
theorem agv_int {l m : List Nat} {A B : List Int} {P Q : Nat} (hl : Ints l A) (hm : Ints m B) (hA : Sn.Peak A P) (hB : Sn.Peak B Q) (hn : l.length ≤ 100) (hn2 : m.length ≤ 100) {lag : Int} (g0 : -4096 ≤ lag) (g1 : lag ≤ 4096) {v : Nat} (h : AgV l m lag v) : Ie.IsI v (Sn.cor A B lag A.length) := by
  rcases h with ⟨_, h⟩ | ⟨h, _⟩
  · have := agc_int hl hm hA hB hn lag l.length v (Nat.le_refl _) h
    rw [hl.1] at this
    exact this
  · exact absurd ⟨by omega, by omega, g0, g1⟩ h

theorem order_int {x y : Nat} {a b : Int} (hx : Ie.IsI x a) (hy : Ie.IsI y b) : Ieee.double.order x y = some (compare a b) := by
  obtain ⟨s, m, q, hF, hv⟩ := hx
  obtain ⟨t, n, p, hG, hu⟩ := hy
  unfold Ieee.Format.order
  rw [hF.rd, hG.rd]
  unfold Ieee.Datum.order
  dsimp only
  obtain ⟨B, hB⟩ : ∃ B : Nat, min q p = B := ⟨_, rfl⟩
  have hb : min (-1074 + (q : Int)) (-1074 + (p : Int)) = -1074 + (B : Int) := by omega
  have e1 : (-1074 + (q : Int) - (-1074 + (B : Int))).toNat = q - B := by omega
  have e2 : (-1074 + (p : Int) - (-1074 + (B : Int))).toNat = p - B := by omega
  rw [hb, e1, e2]
  have k1 : Ieee.signed s m (q - B) * 2 ^ B = a * 2 ^ 1074 := by rw [← Ie.signed_shl, ← hv]; congr 1; omega
  have k2 : Ieee.signed t n (p - B) * 2 ^ B = b * 2 ^ 1074 := by rw [← Ie.signed_shl, ← hu]; congr 1; omega
  generalize Ieee.signed s m (q - B) = X at *
  generalize Ieee.signed t n (p - B) = Y at *
  have p1 := Ie.pow_pos' B
  have p2 := Ie.pow_pos' 1074
  have hlt : X < Y ↔ a < b := by
    rw [← Int.mul_lt_mul_right p1, k1, k2, Int.mul_lt_mul_right p2]
  have heq : X = Y ↔ a = b := by
    constructor
    · intro h; subst h
      exact Int.eq_of_mul_eq_mul_right (by omega) (k1.symm.trans k2)
    · intro h; subst h
      exact Int.eq_of_mul_eq_mul_right (by omega) (k1.trans k2.symm)
  congr 1
  simp only [compare, compareOfLessAndEq, hlt, heq]
theorem cmp_self (b : Int) : compare b b = Ordering.eq := by simp [compare, compareOfLessAndEq]
theorem gr_int {x t : Nat} {a b : Int} (hx : Ie.IsI x a) (ht : Ie.IsI t b) : gr x t = decide (b < a) := by
  unfold gr
  have o1 : FloatKind.f64.format.order x t = some (compare a b) := order_int hx ht
  have o2 : FloatKind.f64.format.order t t = some (compare b b) := order_int ht ht
  rw [o1, o2, cmp_self]
  have : compare a b = if a < b then Ordering.lt else if a = b then Ordering.eq else Ordering.gt := rfl
  rw [this]
  by_cases h1 : a < b
  · rw [if_pos h1]
    have : ¬ b < a := by omega
    simp [this]
  · rw [if_neg h1]
    by_cases h2 : a = b
    · rw [if_pos h2]
      have : ¬ b < a := by omega
      simp [this]
    · rw [if_neg h2]
      have : b < a := by omega
      simp [this]

theorem syc_int {l m : List Nat} {A B : List Int} {P Q : Nat} (hl : Ints l A) (hm : Ints m B) (hA : Sn.Peak A P) (hB : Sn.Peak B Q) (hn : l.length ≤ 100) (hn2 : m.length ≤ 100) : ∀ (i : Nat) (b : Int) (t : Nat), i ≤ 40 → SyC l m i b t →
    -40 ≤ b ∧ b ≤ 40 ∧ Ie.IsI t (Sn.cor A B b A.length) ∧ Sn.cor A B 0 A.length ≤ Sn.cor A B b A.length ∧ ∀ j, j < i → Sn.cor A B (lagAt j) A.length ≤ Sn.cor A B b A.length := by
  intro i
  induction i with
  | zero =>
    intro b t _ h
    obtain ⟨rfl, h⟩ := h
    exact ⟨by omega, by omega, agv_int hl hm hA hB hn hn2 (by omega) (by omega) h, Int.le_refl _, fun j hj => by omega⟩
  | succ i ih =>
    intro b t hi h
    obtain ⟨b0, t0, x, h1, h2, h3⟩ := h
    obtain ⟨i1, i2, i3, i4, i5⟩ := ih b0 t0 (by omega) h1
    have hla : -40 ≤ lagAt i ∧ lagAt i ≤ 40 := by unfold lagAt; split <;> omega
    have hx := agv_int hl hm hA hB hn hn2 (by omega) (by omega) h2
    rw [gr_int hx i3] at h3
    rcases h3 with ⟨g, rfl, rfl⟩ | ⟨g, rfl, rfl⟩
    · have g := of_decide_eq_true g
      refine ⟨hla.1, hla.2, hx, by omega, fun j hj => ?_⟩
      by_cases e : j = i
      · subst e; exact Int.le_refl _
      · have := i5 j (by omega); omega
    · have g := of_decide_eq_false g
      refine ⟨i1, i2, i3, i4, fun j hj => ?_⟩
      by_cases e : j = i
      · subst e; omega
      · exact i5 j (by omega)
/-- the lag that is found is the one at which the peaks meet -/
theorem sync_int {l m : List Nat} {A B : List Int} {P Q : Nat} (hl : Ints l A) (hm : Ints m B) (hA : Sn.Peak A P) (hB : Sn.Peak B Q) (hn : l.length ≤ 100) (hn2 : m.length ≤ 100) (d0 : -20 ≤ (Q : Int) - P) (d1 : (Q : Int) - P ≤ 20) {r : Int} (h : SyV l m 20 r) : r = (Q : Int) - P := by
  rcases h with ⟨_, t, h⟩ | ⟨h, _⟩
  · obtain ⟨_, _, _, h4, h5⟩ := syc_int hl hm hA hB hn hn2 40 r t (Nat.le_refl _) h
    by_cases e : r = (Q : Int) - P
    · exact e
    · exfalso
      have hb := Sn.cor_best hA hB (by rw [← hl.1]; exact hn) e
      have : Sn.cor A B ((Q : Int) - P) A.length ≤ Sn.cor A B r A.length := by
        rcases Int.lt_trichotomy ((Q : Int) - P) 0 with hd | hd | hd
        · obtain ⟨k, hk⟩ : ∃ k : Nat, (Q : Int) - P = -((k : Int) + 1) := ⟨((P : Int) - Q - 1).toNat, by omega⟩
          have := h5 (2 * k + 1) (by omega)
          rw [lagAt_odd, ← hk] at this
          exact this
        · rw [hd]; exact h4
        · obtain ⟨k, hk⟩ : ∃ k : Nat, (Q : Int) - P = (k : Int) + 1 := ⟨((Q : Int) - P - 1).toNat, by omega⟩
          have := h5 (2 * k) (by omega)
          rw [lagAt_even, ← hk] at this
          exact this
      omega
  · exact absurd ⟨by omega, by omega, by omega, by omega⟩ h

end Go.Proofs.Ytbmhllphpphmeaa
