/-
  Who stands where in the crowd. It names no program; no conditions.
-/
import Derived.Test.YtdemcjppokhonaaBrI
set_option linter.unusedVariables false
set_option linter.unusedSimpArgs false
namespace Go.Proofs.Ytdemcjppokhonaa
open Go Go.Conc
open Go.ConcN (sumTo upd sumTo_upd upd_ne upd_same)
variable {P : Program} {c : Nat} {z : Value}

structure Co (P : Program) (k : Nat) (gs : Array Goroutine) (a b : Goroutine) (q : Nat → Nat) : Prop where
  a0 : gs[0]? = some a
  bk : gs[k]? = some b
  k0 : 0 < k
  lv : ∀ i g, 0 < i → i ≠ k → gs[i]? = some g → QuitsIn P (q i) g

/-- It runs, or is parked at the open channel. -/
def Firm (c : Nat) (w : World) (o : Goroutine) : Prop := o.status = .running ∨ ∃ g kc sh, o = parked g #[kc] sh ∧ kc.chan = .chan (some c) ∧ ∃ s r tm, w.heap[c]? = some (.chan 0 #[] false s r tm)
theorem firm_woken {x x' o : Goroutine} {w : World} (h : Firm c w o) : woken P x x' w o = o := by
  rcases h with h | ⟨g, kc, sh, rfl, hk, s, r, tm, hc⟩
  · exact woken_run h
  · unfold woken
    split
    · exact again_parked_open hk hc
    · rfl

theorem Co.move0 {k : Nat} {gs : Array Goroutine} {a b a' : Goroutine} {q : Nat → Nat} {w : World} (h : Co P k gs a b q) (hb : Firm c w b) : Co P k ((gs.map (woken P a a' w)).setIfInBounds 0 a') a' b q := by
  have hlt : 0 < gs.size := (Array.getElem?_eq_some_iff.1 h.a0).1
  have hk := h.k0
  refine ⟨by simp [hlt], ?_, hk, fun i g hi hne hg => ?_⟩
  · rw [Array.getElem?_setIfInBounds_ne (by omega), Array.getElem?_map, h.bk]
    simp [firm_woken hb]
  · rw [Array.getElem?_setIfInBounds_ne (by omega), Array.getElem?_map] at hg
    obtain ⟨y, hy, rfl⟩ := Option.map_eq_some_iff.1 hg
    have := h.lv i y hi hne hy
    rw [woken_quits this]
    exact this
theorem Co.moveK {k : Nat} {gs : Array Goroutine} {a b b' : Goroutine} {q : Nat → Nat} {w : World} (h : Co P k gs a b q) (ha : Firm c w a) : Co P k ((gs.map (woken P b b' w)).setIfInBounds k b') a b' q := by
  have hlt : k < gs.size := (Array.getElem?_eq_some_iff.1 h.bk).1
  have hk := h.k0
  refine ⟨?_, by simp [hlt], hk, fun i g hi hne hg => ?_⟩
  · rw [Array.getElem?_setIfInBounds_ne (by omega), Array.getElem?_map, h.a0]
    simp [firm_woken ha]
  · rw [Array.getElem?_setIfInBounds_ne (by omega), Array.getElem?_map] at hg
    obtain ⟨y, hy, rfl⟩ := Option.map_eq_some_iff.1 hg
    have := h.lv i y hi hne hy
    rw [woken_quits this]
    exact this
theorem Co.moveL {k i n : Nat} {gs : Array Goroutine} {a b x g' : Goroutine} {q : Nat → Nat} {w : World} (h : Co P k gs a b q) (ha : Firm c w a) (hb : Firm c w b) (hi : 0 < i) (hik : i ≠ k) (hx : gs[i]? = some x) (hq : QuitsIn P n g') :
    Co P k ((gs.map (woken P x g' w)).setIfInBounds i g') a b (upd q i n) := by
  have hlt : i < gs.size := (Array.getElem?_eq_some_iff.1 hx).1
  have hk := h.k0
  refine ⟨?_, ?_, hk, fun j g hj hne hg => ?_⟩
  · rw [Array.getElem?_setIfInBounds_ne (by omega), Array.getElem?_map, h.a0]
    simp [firm_woken ha]
  · rw [Array.getElem?_setIfInBounds_ne hik, Array.getElem?_map, h.bk]
    simp [firm_woken hb]
  · by_cases hji : i = j
    · subst hji
      rw [Array.getElem?_setIfInBounds_self_of_lt (by simpa using hlt)] at hg
      obtain rfl := Option.some.inj hg
      rw [upd_same]
      exact hq
    · rw [Array.getElem?_setIfInBounds_ne hji, Array.getElem?_map] at hg
      obtain ⟨y, hy, rfl⟩ := Option.map_eq_some_iff.1 hg
      have := h.lv j y hj hne hy
      rw [woken_quits this, upd_ne q n (Ne.symm hji)]
      exact this
theorem Co.set0 {k : Nat} {gs : Array Goroutine} {a b a' : Goroutine} {q : Nat → Nat} (h : Co P k gs a b q) : Co P k (gs.setIfInBounds 0 a') a' b q := by
  have hlt : 0 < gs.size := (Array.getElem?_eq_some_iff.1 h.a0).1
  have hk := h.k0
  refine ⟨by simp [hlt], by rw [Array.getElem?_setIfInBounds_ne (by omega)]; exact h.bk, hk, fun i g hi hne hg => ?_⟩
  rw [Array.getElem?_setIfInBounds_ne (by omega)] at hg
  exact h.lv i g hi hne hg
theorem Co.setK {k : Nat} {gs : Array Goroutine} {a b b' : Goroutine} {q : Nat → Nat} (h : Co P k gs a b q) : Co P k (gs.setIfInBounds k b') a b' q := by
  have hlt : k < gs.size := (Array.getElem?_eq_some_iff.1 h.bk).1
  have hk := h.k0
  refine ⟨by rw [Array.getElem?_setIfInBounds_ne (by omega)]; exact h.a0, by simp [hlt], hk, fun i g hi hne hg => ?_⟩
  rw [Array.getElem?_setIfInBounds_ne (by omega)] at hg
  exact h.lv i g hi hne hg

/-- Nobody offers at the channel but, it may be, the child. -/
theorem Co.partners0 {k : Nat} {gs : Array Goroutine} {a b : Goroutine} {q : Nat → Nat} (h : Co P k gs a b q) (send : Bool) : partners (gs.setIfInBounds 0 ph) c send = (offersAt b c send).map fun x => (k, x) := by
  have hk := h.k0
  refine partners_one (j := k) (g := b) (by rw [Array.getElem?_setIfInBounds_ne (by omega)]; exact h.bk) fun j x hj hx => ?_
  rcases getElem?_stand gs 0 j x hx with ⟨_, rfl⟩ | ⟨hne, hx'⟩
  · exact offersAt_ph _ _
  · refine offersAt_of_not_blocked (fun hb => ?_) _ _
    rcases (h.lv j x (by omega) hj hx').status with h | h <;> rw [h] at hb <;> cases hb
theorem Co.partnersK {k : Nat} {gs : Array Goroutine} {a b : Goroutine} {q : Nat → Nat} (h : Co P k gs a b q) (send : Bool) : partners (gs.setIfInBounds k ph) c send = (offersAt a c send).map fun x => (0, x) := by
  have hk := h.k0
  refine partners_one (j := 0) (g := a) (by rw [Array.getElem?_setIfInBounds_ne (by omega)]; exact h.a0) fun j x hj hx => ?_
  rcases getElem?_stand gs k j x hx with ⟨_, rfl⟩ | ⟨hne, hx'⟩
  · exact offersAt_ph _ _
  · refine offersAt_of_not_blocked (fun hb => ?_) _ _
    rcases (h.lv j x (by omega) hne hx').status with h | h <;> rw [h] at hb <;> cases hb
end Go.Proofs.Ytdemcjppokhonaa
