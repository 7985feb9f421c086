/-
  How two sounds agree, as a chain of operations; like chains give like numbers; no conditions.
-/
import Derived.Test.YtbmhllphpphmeaaFCopy
namespace Go.Proofs.Ytbmhllphpphmeaa
open Go.RowKit
set_option linter.unusedVariables false

/-- v is the sum over the first numbers of a, as many as told, and what stands against them in b -/
def AgC (a b : List Nat) (lag : Int) : Nat → Nat → Prop
  | 0, v => v = 0
  | k + 1, v => if 0 ≤ (k : Int) + lag ∧ (k : Int) + lag < b.length then ∃ s p, AgC a b lag k s ∧ Res .mul (a.getD k 0) (b.getD ((k : Int) + lag).toNat 0) p ∧ Res .add s p v else AgC a b lag k v
theorem AgC.zero (a b : List Nat) (lag : Int) : AgC a b lag 0 0 := rfl
theorem AgC.yes {a b : List Nat} {lag : Int} {k s p v : Nat} (h : AgC a b lag k s) (h0 : 0 ≤ (k : Int) + lag) (h1 : (k : Int) + lag < b.length) (hp : Res .mul (a.getD k 0) (b.getD ((k : Int) + lag).toNat 0) p) (hv : Res .add s p v) : AgC a b lag (k + 1) v := by
  unfold AgC
  rw [if_pos ⟨h0, h1⟩]
  exact ⟨s, p, h, hp, hv⟩
theorem AgC.no {a b : List Nat} {lag : Int} {k v : Nat} (h : AgC a b lag k v) (h0 : ¬ (0 ≤ (k : Int) + lag ∧ (k : Int) + lag < b.length)) : AgC a b lag (k + 1) v := by
  unfold AgC
  rw [if_neg h0]
  exact h
theorem AgC.sm {a b : List Nat} {lag : Int} : ∀ {k v v' : Nat}, AgC a b lag k v → AgC a b lag k v' → Sm v v'
  | 0, v, v', h, h' => by
    have h1 : v = 0 := h
    have h2 : v' = 0 := h'
    rw [h1, h2]; exact Sm.rfl
  | k + 1, v, v', h, h' => by
    unfold AgC at h h'
    by_cases hc : 0 ≤ (k : Int) + lag ∧ (k : Int) + lag < b.length
    · rw [if_pos hc] at h h'
      obtain ⟨s, p, h1, h2, h3⟩ := h
      obtain ⟨s', p', k1, k2, k3⟩ := h'
      exact h3.sm k3 (AgC.sm h1 k1) (h2.sm k2 Sm.rfl Sm.rfl)
    · rw [if_neg hc] at h h'
      exact AgC.sm h h'
theorem AgC.low {a b : List Nat} {lag : Int} : ∀ {k : Nat}, (k : Int) ≤ -lag → AgC a b lag k 0
  | 0, _ => AgC.zero _ _ _
  | k + 1, h => AgC.no (AgC.low (by omega)) (by omega)
theorem AgC.high {a b : List Nat} {lag : Int} {k v : Nat} (h : AgC a b lag k v) (hk : (b.length : Int) - lag ≤ k) : ∀ d, AgC a b lag (k + d) v
  | 0 => h
  | d + 1 => AgC.no (k := k + d) (AgC.high h hk d) (by omega)

/-- sounds and a lag for which the sum is asked -/
def AgOk (a b : List Nat) (lag : Int) : Prop := a.length ≤ 4096 ∧ b.length ≤ 4096 ∧ -4096 ≤ lag ∧ lag ≤ 4096
/-- v is how far they agree -/
def AgV (a b : List Nat) (lag : Int) (v : Nat) : Prop := (AgOk a b lag ∧ AgC a b lag a.length v) ∨ (¬ AgOk a b lag ∧ v = 0)
theorem AgV.sm {a b : List Nat} {lag : Int} {v v' : Nat} (h : AgV a b lag v) (h' : AgV a b lag v') : Sm v v' := by
  rcases h with ⟨h1, h2⟩ | ⟨h1, h2⟩ <;> rcases h' with ⟨k1, k2⟩ | ⟨k1, k2⟩
  · exact h2.sm k2
  · exact absurd h1 k1
  · exact absurd k1 h1
  · rw [h2, k2]; exact Sm.rfl
theorem AgC.fin {a b : List Nat} {lag : Int} {k v : Nat} (h : AgC a b lag k v) (hk : k ≤ a.length) (h1 : ¬ ((k : Int) < a.length ∧ (k : Int) < b.length - lag)) : AgC a b lag a.length v := by
  by_cases h2 : (k : Int) < a.length
  · have := AgC.high h (by omega) (a.length - k)
    have e : k + (a.length - k) = a.length := by omega
    rw [e] at this; exact this
  · have e : k = a.length := by omega
    rw [← e]; exact h

end Go.Proofs.Ytbmhllphpphmeaa
