/-
  How far one sound lies behind another, as a chain of steps; like chains end alike; no conditions.
-/
import Derived.Test.YtbmhllphpphmeaaAg2
namespace Go.Proofs.Ytbmhllphpphmeaa
open Go.RowKit
set_option linter.unusedVariables false
set_option linter.unusedSimpArgs false

/-- x is greater than t, anything but a NaN being greater than a NaN -/
def gr (x t : Nat) : Bool := (FloatKind.f64.format.order x t == some .gt) || ((FloatKind.f64.format.order x x == some .eq) && (FloatKind.f64.format.order t t != some .eq))
theorem gr_sm {x x' t t' : Nat} (hx : Sm x x') (ht : Sm t t') : gr x t = gr x' t' := by
  unfold gr
  rw [order_sm hx ht, order_sm hx hx, order_sm ht ht]
/-- the lags in the order in which they are tried, behind 0 -/
def lagAt (i : Nat) : Int := if i % 2 = 0 then ((i / 2 + 1 : Nat) : Int) else -((i / 2 + 1 : Nat) : Int)
theorem lagAt_even (k : Nat) : lagAt (2 * k) = (k : Int) + 1 := by
  unfold lagAt
  rw [if_pos (by omega)]
  omega
theorem lagAt_odd (k : Nat) : lagAt (2 * k + 1) = -((k : Int) + 1) := by
  unfold lagAt
  rw [if_neg (by omega)]
  omega
/-- the best lag and its agreement behind so many steps -/
def SyC (l m : List Nat) : Nat → Int → Nat → Prop
  | 0, b, t => b = 0 ∧ AgV l m 0 t
  | i + 1, b, t => ∃ b0 t0 x, SyC l m i b0 t0 ∧ AgV l m (lagAt i) x ∧ ((gr x t0 = true ∧ b = lagAt i ∧ t = x) ∨ (gr x t0 = false ∧ b = b0 ∧ t = t0))
theorem SyC.det {l m : List Nat} : ∀ {i : Nat} {b b' : Int} {t t' : Nat}, SyC l m i b t → SyC l m i b' t' → b = b' ∧ Sm t t'
  | 0, b, b', t, t', h, h' => ⟨h.1.trans h'.1.symm, h.2.sm h'.2⟩
  | i + 1, b, b', t, t', h, h' => by
    obtain ⟨b0, t0, x, h1, h2, h3⟩ := h
    obtain ⟨c0, s0, y, k1, k2, k3⟩ := h'
    obtain ⟨e1, e2⟩ := SyC.det h1 k1
    have e3 := h2.sm k2
    have e4 := gr_sm e3 e2
    rcases h3 with ⟨g1, rfl, rfl⟩ | ⟨g1, rfl, rfl⟩ <;> rcases k3 with ⟨g2, rfl, rfl⟩ | ⟨g2, rfl, rfl⟩
    · exact ⟨rfl, e3⟩
    · rw [g1, g2] at e4; cases e4
    · rw [g1, g2] at e4; cases e4
    · exact ⟨e1, e2⟩
theorem SyC.bound {l m : List Nat} : ∀ {i : Nat} {b : Int} {t : Nat}, SyC l m i b t → -(i : Int) ≤ b ∧ b ≤ i
  | 0, b, t, h => by have := h.1; omega
  | i + 1, b, t, h => by
    obtain ⟨b0, t0, x, h1, h2, h3⟩ := h
    have hb := SyC.bound h1
    rcases h3 with ⟨g1, rfl, rfl⟩ | ⟨g1, rfl, rfl⟩
    · unfold lagAt; split <;> omega
    · omega

def SyOk (a b : List Nat) (most : Int) : Prop := a.length ≤ 4096 ∧ b.length ≤ 4096 ∧ 0 ≤ most ∧ most ≤ 64
def SyV (a b : List Nat) (most : Int) (r : Int) : Prop := (SyOk a b most ∧ ∃ t, SyC a b (2 * most.toNat) r t) ∨ (¬ SyOk a b most ∧ r = 0)
theorem SyV.det {a b : List Nat} {most r r' : Int} (h : SyV a b most r) (h' : SyV a b most r') : r = r' := by
  rcases h with ⟨h1, t, h2⟩ | ⟨h1, h2⟩ <;> rcases h' with ⟨k1, t', k2⟩ | ⟨k1, k2⟩
  · exact (h2.det k2).1
  · exact absurd h1 k1
  · exact absurd k1 h1
  · rw [h2, k2]

/-- the three ways that a step may go, as the orders say -/
theorem gr_ways (x t : Nat) : (FloatKind.f64.format.order x t = some .gt ∧ gr x t = true) ∨
    ((FloatKind.f64.format.order x t == some .gt) = false ∧ FloatKind.f64.format.order x x = some .eq ∧ FloatKind.f64.format.order t t = some .eq ∧ gr x t = false) ∨
    ((FloatKind.f64.format.order x t == some .gt) = false ∧ FloatKind.f64.format.order x x = some .eq ∧ FloatKind.f64.format.order t t = none ∧ gr x t = true) ∨
    ((FloatKind.f64.format.order x t == some .gt) = false ∧ FloatKind.f64.format.order x x = none ∧ FloatKind.f64.format.order t t = some .eq ∧ gr x t = false) ∨
    ((FloatKind.f64.format.order x t == some .gt) = false ∧ FloatKind.f64.format.order x x = none ∧ FloatKind.f64.format.order t t = none ∧ gr x t = false) := by
  by_cases h : FloatKind.f64.format.order x t = some .gt
  · exact .inl ⟨h, by simp [gr, h]⟩
  · have h' : (FloatKind.f64.format.order x t == some .gt) = false := by simpa using h
    by_cases nx : NaN x <;> by_cases nt : NaN t
    · have a := order_nan_left (y := x) nx
      have b := order_nan_left (y := t) nt
      exact .inr (.inr (.inr (.inr ⟨h', a, b, by simp [gr, h', a]⟩)))
    · have a := order_nan_left (y := x) nx
      have b := order_self nt
      exact .inr (.inr (.inr (.inl ⟨h', a, b, by simp [gr, h', a]⟩)))
    · have a := order_self nx
      have b := order_nan_left (y := t) nt
      exact .inr (.inr (.inl ⟨h', a, b, by simp [gr, h', a, b]⟩))
    · have a := order_self nx
      have b := order_self nt
      exact .inr (.inl ⟨h', a, b, by simp [gr, h', a, b]⟩)

end Go.Proofs.Ytbmhllphpphmeaa
