/-
  No function gets a variable ready that is none of the globals. It names no program; no conditions.
-/
import Derived.Test.YtdemcjppokhonaaBrD
set_option linter.unusedVariables false
set_option linter.unusedSimpArgs false
namespace Go.Proofs.Ytdemcjppokhonaa
open Go Go.Conc
variable {P : Program} {F : FuncId → Bool}

/-- No function gets a variable ready that is none of the globals. -/
def lateOk (P : Program) : Bool := P.funcs.toList.all fun f => match f.body with
  | none => true
  | some c => (readies c).all fun g => decide (g < P.globals.size)

theorem late_of (h : lateOk P = true) : ∀ g, P.globals.size ≤ g → P.stepOf g = none := by
  intro g hg
  unfold Program.stepOf
  rw [Array.findIdx?_eq_none_iff]
  intro f hf
  have := List.all_eq_true.1 h f (Array.mem_toList_iff.2 hf)
  cases hb : f.body with
  | none => rfl
  | some c =>
    rw [hb] at this
    simp only [List.all_eq_true, decide_eq_true_eq] at this
    simp only [Option.map_some, Option.any_some]
    cases hc : (readies c).contains g with
    | false => rfl
    | true =>
      have := this g (by simpa using hc)
      omega
end Go.Proofs.Ytdemcjppokhonaa
