/-
  Plain facts on the states of a reading of titles: what is left to read at each, and how one goes on to the next; a scope in which the run jumps among several labels. No program is named here; there are no conditions.
-/
import Derived.Test.YtcpllfjhhlbmiaaDoorRdC
import Derived.ScopeJumps
import Derived.WalkMore
namespace Go.Proofs.YtcpllfjhhlbmiaaDoor
open Go.RowKit
set_option linter.unusedVariables false
set_option linter.unusedSimpArgs false

abbrev k0 : Kl := (0, 0, ⟨#[]⟩)
def ts3 (n : Nat) (a b : Nat) (B : Option (List UInt8 × List UInt8)) : Int × Kl × List UInt8 := match B with
  | none => (5, k0, [])
  | some (ws, r3) => if txOk (trm ws) = true then if n = 200 then (6, k0, []) else (0, ((a : Int), (b : Int), ⟨(trm ws).toArray⟩), r3) else (5, k0, [])
def ts1 (n : Nat) (e : Int) (r1 : List UInt8) : Int × Kl × List UInt8 := match cutN r1 with
  | none => (3, k0, [])
  | some (y, r2) => match tms y with
    | none => (3, k0, [])
    | some (a, b) => if e ≤ (a : Int) ∧ (a : Int) < b then ts3 n a b (blkF (r2.length + 1) [] r2) else (4, k0, [])
theorem tstep_eq (n : Nat) (e : Int) (r : List UInt8) : tstep n e r = match cutN r with
    | none => (2, k0, [])
    | some (x, r1) => if x = Pl.dec (n + 1) then ts1 n e r1 else (2, k0, []) := by
  unfold tstep ts1 ts3; rfl
/-- how the reading goes on behind a title -/
def fin (f : Nat) (acc : List Kl) (p : Int × Kl × List UInt8) : List Kl × Int := if p.1 = 0 then rdF f (acc ++ [p.2.1]) p.2.1.2.1 p.2.2 else (acc, p.1)
def L0 (R : List Kl × Int) (acc : List Kl) (e : Int) (r : List UInt8) : Prop := ∃ f, r.length < f ∧ rdF f acc e r = R
def L1 (R : List Kl × Int) (acc : List Kl) (e : Int) (r : List UInt8) : Prop := ∃ f, r.length < f ∧ fin f acc (ts1 acc.length e r) = R
def L2 (R : List Kl × Int) (acc : List Kl) (a b : Nat) (ws r : List UInt8) : Prop := ∃ f fb, r.length < f ∧ r.length < fb ∧ fin f acc (ts3 acc.length a b (blkF fb ws r)) = R
def L3 (R : List Kl × Int) (acc : List Kl) (a b : Nat) (ws r : List UInt8) : Prop := ∃ f, r.length < f ∧ fin f acc (ts3 acc.length a b (some (ws, r))) = R
variable {R : List Kl × Int} {acc : List Kl} {e : Int} {a b : Nat} {ws r x r' : List UInt8}
theorem l0_nil (h : L0 R acc e []) : R = (acc, 0) := by
  obtain ⟨f, hf, h⟩ := h
  obtain ⟨f, rfl⟩ : ∃ g, f = g + 1 := ⟨f - 1, by simp at hf; omega⟩
  rw [rdF, if_pos rfl] at h; exact h.symm
theorem l0_step (h : L0 R acc e r) (hr : r ≠ []) : ∃ f, r.length ≤ f ∧ fin f acc (tstep acc.length e r) = R := by
  obtain ⟨f, hf, h⟩ := h
  obtain ⟨f, rfl⟩ : ∃ g, f = g + 1 := ⟨f - 1, by omega⟩
  rw [rdF, if_neg hr] at h
  exact ⟨f, by omega, h⟩
theorem l0_none (h : L0 R acc e r) (hr : r ≠ []) (hc : cutN r = none) : R = (acc, 2) := by
  obtain ⟨f, _, h⟩ := l0_step h hr
  rw [tstep_eq, hc] at h; exact h.symm
theorem l0_bad (h : L0 R acc e r) (hr : r ≠ []) (hc : cutN r = some (x, r')) (hx : x ≠ Pl.dec (acc.length + 1)) : R = (acc, 2) := by
  obtain ⟨f, _, h⟩ := l0_step h hr
  rw [tstep_eq, hc] at h
  simp only [if_neg hx] at h
  exact h.symm
theorem l0_ok (h : L0 R acc e r) (hr : r ≠ []) (hc : cutN r = some (x, r')) (hx : x = Pl.dec (acc.length + 1)) : L1 R acc e r' := by
  obtain ⟨f, hf, h⟩ := l0_step h hr
  have := cutN_len hc
  rw [tstep_eq, hc] at h
  simp only [if_pos hx] at h
  exact ⟨f, by omega, h⟩
theorem l1_none (h : L1 R acc e r) (hc : cutN r = none) : R = (acc, 3) := by
  obtain ⟨f, _, h⟩ := h
  unfold ts1 at h
  rw [hc] at h; exact h.symm
theorem l1_bad (h : L1 R acc e r) (hc : cutN r = some (x, r')) (ht : tms x = none) : R = (acc, 3) := by
  obtain ⟨f, _, h⟩ := h
  unfold ts1 at h
  rw [hc] at h
  simp only [ht] at h
  exact h.symm
theorem l1_turn (h : L1 R acc e r) (hc : cutN r = some (x, r')) (ht : tms x = some (a, b)) (hn : ¬(e ≤ (a : Int) ∧ (a : Int) < b)) : R = (acc, 4) := by
  obtain ⟨f, _, h⟩ := h
  unfold ts1 at h
  rw [hc] at h
  simp only [ht, if_neg hn] at h
  exact h.symm
theorem l1_ok (h : L1 R acc e r) (hc : cutN r = some (x, r')) (ht : tms x = some (a, b)) (hn : e ≤ (a : Int) ∧ (a : Int) < b) : L2 R acc a b [] r' := by
  obtain ⟨f, hf, h⟩ := h
  have := cutN_len hc
  unfold ts1 at h
  rw [hc] at h
  simp only [ht, if_pos hn] at h
  exact ⟨f, _, by omega, Nat.lt_succ_self _, h⟩
theorem l2_none (h : L2 R acc a b ws r) (hc : cutN r = none) : R = (acc, 5) := by
  obtain ⟨f, fb, _, h2, h⟩ := h
  obtain ⟨fb, rfl⟩ : ∃ g, fb = g + 1 := ⟨fb - 1, by omega⟩
  rw [blkF, hc] at h
  exact h.symm
theorem l2_empty (h : L2 R acc a b ws r) (hc : cutN r = some ([], r')) : L3 R acc a b ws r' := by
  obtain ⟨f, fb, h1, h2, h⟩ := h
  have := cutN_len hc
  obtain ⟨fb, rfl⟩ : ∃ g, fb = g + 1 := ⟨fb - 1, by omega⟩
  rw [blkF, hc] at h
  simp only [if_pos] at h
  exact ⟨f, by omega, h⟩
theorem l2_more (h : L2 R acc a b ws r) (hc : cutN r = some (x, r')) (hx : x ≠ []) : L2 R acc a b (ws ++ x ++ [10]) r' := by
  obtain ⟨f, fb, h1, h2, h⟩ := h
  have := cutN_len hc
  obtain ⟨fb, rfl⟩ : ∃ g, fb = g + 1 := ⟨fb - 1, by omega⟩
  rw [blkF, hc] at h
  simp only [if_neg hx] at h
  exact ⟨f, fb, by omega, by omega, h⟩
theorem l3_text (h : L3 R acc a b ws r) (ht : txOk (trm ws) = false) : R = (acc, 5) := by
  obtain ⟨f, _, h⟩ := h
  unfold ts3 at h
  simp only [ht, Bool.false_eq_true, if_false] at h
  exact h.symm
theorem l3_many (h : L3 R acc a b ws r) (ht : txOk (trm ws) = true) (hn : acc.length = 200) : R = (acc, 6) := by
  obtain ⟨f, _, h⟩ := h
  unfold ts3 at h
  simp only [ht, if_true, if_pos hn] at h
  exact h.symm
theorem l3_ok (h : L3 R acc a b ws r) (ht : txOk (trm ws) = true) (hn : acc.length ≠ 200) : L0 R (acc ++ [((a : Int), (b : Int), ⟨(trm ws).toArray⟩)]) b r := by
  obtain ⟨f, hf, h⟩ := h
  unfold ts3 at h
  simp only [ht, if_true, if_neg hn] at h
  exact ⟨f, hf, h⟩
theorem l0_begin (L : List UInt8) : L0 (rdF (L.length + 1) [] 0 L) [] 0 L := ⟨_, Nat.lt_succ_self _, rfl⟩

/-- As Q; by a goto to label l: J l at a measure below n. -/
def jmp (J : Nat → Nat → Act → World → Prop) (n : Nat) (Q : Exit → Act → World → Prop) : Exit → Act → World → Prop
  | .goto l, a, w => ∃ n', n' < n ∧ J l n' a w
  | e, a, w => Q e a w
section
variable {P : Program} {Q : Exit → Act → World → Prop} {J : Nat → Nat → Act → World → Prop}
theorem jmp_ret {n : Nat} {a : Act} {w : World} : jmp J n Q .ret a w = Q .ret a w := rfl
theorem jmp_goto {n l : Nat} {a : Act} {w : World} : jmp J n Q (.goto l) a w = ∃ n', n' < n ∧ J l n' a w := rfl
theorem wp_scope_all {c : Code} {a : Act} {w : World} (J : Nat → Nat → Act → World → Prop) (n0 : Nat)
    (pass : ∀ l n a w, J l n a w → ∃ rest, findLabel c l = some rest ∧ rest.wp P (jmp J n Q) a w)
    (first : c.wp P (jmp J n0 Q) a w) : (Code.scope c).wp P Q a w := by
  intro b k cs
  have key : ∀ n l a w, J l n a w → ∃ rest, gotoIn l (.inScope c :: k) = some (.code rest :: .inScope c :: k) ∧ ∃ e a' w', Q e a' w' ∧ Arrives P (lone (b.at a (.code rest :: .inScope c :: k)) cs w) b k cs e a' w' := by
    intro n
    induction n using Nat.strongRecOn with
    | _ n ih =>
      intro l a w hJ
      obtain ⟨rest, hf, hp⟩ := pass l n a w hJ
      refine ⟨rest, by simp [gotoIn, hf], ?_⟩
      obtain ⟨e, a₁, w₁, hq, harr⟩ := hp b (.inScope c :: k) cs
      cases e with
      | normal => exact ⟨.normal, a₁, w₁, hq, Steps.trans harr (.one step_inScope)⟩
      | exit id => exact ⟨.exit id, a₁, w₁, hq, fun k' hk => harr k' (by simp [exitTo, hk])⟩
      | goto l' =>
        obtain ⟨n', hn', hJ'⟩ := hq
        obtain ⟨rest', hg', e₂, a₂, w₂, hq₂, harr₂⟩ := ih n' hn' l' a₁ w₁ hJ'
        exact ⟨e₂, a₂, w₂, hq₂, .of_steps (harr _ hg') harr₂⟩
      | ret => exact ⟨_, a₁, w₁, hq, harr⟩
      | panic ch => exact ⟨_, a₁, w₁, hq, harr⟩
      | outgrown => exact ⟨_, a₁, w₁, hq, harr⟩
  obtain ⟨e, a₁, w₁, hq, harr⟩ := first b (.inScope c :: k) cs
  cases e with
  | normal => exact ⟨.normal, a₁, w₁, hq, .head step_scope (Steps.trans harr (.one step_inScope))⟩
  | exit id => exact ⟨.exit id, a₁, w₁, hq, fun k' hk => .head step_scope (harr k' (by simp [exitTo, hk]))⟩
  | goto l' =>
    obtain ⟨n', _, hJ'⟩ := hq
    obtain ⟨rest', hg', e₂, a₂, w₂, hq₂, harr₂⟩ := key n' l' a₁ w₁ hJ'
    exact ⟨e₂, a₂, w₂, hq₂, .of_steps (.head step_scope (harr _ hg')) harr₂⟩
  | ret => exact ⟨_, a₁, w₁, hq, .of_steps (.one step_scope) harr⟩
  | panic ch => exact ⟨_, a₁, w₁, hq, .of_steps (.one step_scope) harr⟩
  | outgrown => exact ⟨_, a₁, w₁, hq, .of_steps (.one step_scope) harr⟩
end
/-- the code behind a label of a scope -/
def behind (c : Code) (l : Nat) : Code := (findLabel c l).getD .skip
theorem behind_of {c rest : Code} {l : Nat} (h : findLabel c l = some rest) : behind c l = rest := by unfold behind; rw [h]; rfl

end Go.Proofs.YtcpllfjhhlbmiaaDoor
