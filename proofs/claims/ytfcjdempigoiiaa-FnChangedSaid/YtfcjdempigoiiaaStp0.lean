/-
  Plain facts on changes: what is one, the frames that a list keeps, drops and adds, its steps.
-/
import Derived.Test.YtfcjdempigoiiaaCopyC
namespace Go.Proofs.Ytfcjdempigoiiaa
open Go.RowKit
set_option linter.unusedVariables false
set_option linter.unusedSimpArgs false

/-- a change as told -/
def HOk (c : Ch) : Prop := ((c.1 = 1 ∨ c.1 = 2) ∧ c.2.1 = 0 ∧ c.2.2.1 = 0 ∧ 1 ≤ c.2.2.2 ∧ c.2.2.2 ≤ 10000000) ∨ (c.1 = 3 ∧ COk c.2)
instance (c : Ch) : Decidable (HOk c) := by unfold HOk; exact inferInstance
def LOk (l : List Ch) : Prop := l.length ≤ 300 ∧ ∀ c ∈ l, HOk c
instance (l : List Ch) : Decidable (LOk l) := by unfold LOk; exact inferInstance
theorem HOk.len {c : Ch} (h : HOk c) : 1 ≤ c.2.2.2 ∧ c.2.2.2 ≤ 10000000 := by
  rcases h with h | ⟨_, h⟩
  · omega
  · exact ⟨h.1, h.2.1⟩
def oldC (c : Ch) : Int := if c.1 = 3 then 0 else c.2.2.2
def newC (c : Ch) : Int := if c.1 = 2 then 0 else c.2.2.2
def oldL : List Ch → Int
  | [] => 0
  | c :: l => oldC c + oldL l
def newL : List Ch → Int
  | [] => 0
  | c :: l => newC c + newL l
theorem oldL_append (l m : List Ch) : oldL (l ++ m) = oldL l + oldL m := by
  induction l with
  | nil => simp [oldL]
  | cons c l ih => simp only [List.cons_append, oldL]; omega
theorem newL_append (l m : List Ch) : newL (l ++ m) = newL l + newL m := by
  induction l with
  | nil => simp [newL]
  | cons c l ih => simp only [List.cons_append, newL]; omega
theorem oldL_snoc {l : List Ch} {k : Nat} {c : Ch} (h : l[k]? = some c) : oldL (l.take (k + 1)) = oldL (l.take k) + oldC c := by
  rw [take_snocC h, oldL_append]; simp [oldL]
theorem newL_snoc {l : List Ch} {k : Nat} {c : Ch} (h : l[k]? = some c) : newL (l.take (k + 1)) = newL (l.take k) + newC c := by
  rw [take_snocC h, newL_append]; simp [newL]
theorem sums_bd {l : List Ch} (h : ∀ c ∈ l, HOk c) : 0 ≤ oldL l ∧ oldL l ≤ l.length * 10000000 ∧ 0 ≤ newL l ∧ newL l ≤ l.length * 10000000 := by
  induction l with
  | nil => simp [oldL, newL]
  | cons c l ih =>
    have h1 := (h c List.mem_cons_self).len
    have h2 := ih (fun x hx => h x (List.mem_cons_of_mem _ hx))
    simp only [oldL, newL, List.length_cons]
    unfold oldC newC
    split <;> split <;> omega
theorem sums_take {l : List Ch} (h : LOk l) (k : Nat) : 0 ≤ oldL (l.take k) ∧ oldL (l.take k) ≤ 3000000000 ∧ 0 ≤ newL (l.take k) ∧ newL (l.take k) ≤ 3000000000 := by
  have h1 := sums_bd (l := l.take k) (fun c hc => h.2 c (List.mem_of_mem_take hc))
  have h2 : (l.take k).length ≤ 300 := by rw [List.length_take]; have := h.1; omega
  omega

/-- step k of the list -/
def stv (l : List Ch) (k : Nat) : Value :=
  .agg #[iv (l.getD k (0, 0, 0, 0)).1, iv (l.getD k (0, 0, 0, 0)).2.1, iv (l.getD k (0, 0, 0, 0)).2.2.1, iv (l.getD k (0, 0, 0, 0)).2.2.2, iv (oldL (l.take k)), iv (newL (l.take k))]
theorem stv_eq {l : List Ch} {k : Nat} {x1 x2 x3 x4 : Int} (h : l[k]? = some (x1, x2, x3, x4)) : stv l k = .agg #[.int .i64 x1, .int .i64 x2, .int .i64 x3, .int .i64 x4, .int .i64 (oldL (l.take k)), .int .i64 (newL (l.take k))] := by
  unfold stv; simp [List.getD, h]

theorem fin_take {n k : Nat} (hk : k < n) : (List.finRange n).take (k + 1) = (List.finRange n).take k ++ [⟨k, hk⟩] := by
  rw [List.take_add_one]
  have : (List.finRange n)[k]? = some ⟨k, hk⟩ := by
    rw [List.getElem?_eq_getElem (by simpa using hk)]; simp
  rw [this]; rfl


end Go.Proofs.Ytfcjdempigoiiaa
