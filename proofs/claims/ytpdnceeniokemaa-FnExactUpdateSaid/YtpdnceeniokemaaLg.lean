/-
  A lone contract is one good run: nobody else is there. It names no program; no conditions.
-/
import Derived.Test.YtpdnceeniokemaaProg
import Derived.Conc.Holds
import Derived.Conc.LeavingOf
import Derived.Conc.LoneCalls
import Derived.Eval
set_option linter.unusedVariables false
set_option linter.unusedSimpArgs false
namespace Go.Proofs.Ytpdnceeniokemaa
open Go Go.Conc
theorem good_of_calls {P : Program} {f : FuncId} {args : Array Value} {w : World} {R : Value → World → Prop} (h : Calls P f args w fun | .returned v, w' => R v w' | _, _ => False) (hi : P.inits.idxOf? f = none) :
    ∃ N last o w' t', runNT P (N + 1) (solo (G (Frame.enter P f args .normal) []) w) #[] = (.ended o w', t') ∧ runN P N (solo (G (Frame.enter P f args .normal) []) w) = .next last ∧ step P last = .ended o w' ∧ Go.Conc.Good P R last o w' t' := by
  obtain ⟨n, v, w', fr, h1, h2, hR⟩ := Calls.done_lone h hi
  have e1 : runNT P n (lone (Frame.enter P f args .normal) [] w) #[] = (.next (lone fr [] w'), (runNT P n (lone (Frame.enter P f args .normal) [] w) #[]).2) := Prod.ext (by rw [runNT_fst, h1]) rfl
  have ht := runNT_lone P n _ _ _ _ e1 (by simp [lone]) (Trace.allBy_empty 0)
  have e2 := runNT_succ P n _ _ _ _ e1
  have hall : Trace.allBy (runNT P (n + 1) (lone (Frame.enter P f args .normal) [] w) #[]).2 0 := by
    rw [e2]
    exact Trace.allBy_append ht (Trace.allBy_of_forall (stepT_lone P (lone fr [] w') true (by simp [lone]) rfl))
  have e3 : runNT P (n + 1) (lone (Frame.enter P f args .normal) [] w) #[] = (.ended (.done v) w', (runNT P (n + 1) (lone (Frame.enter P f args .normal) [] w) #[]).2) := Prod.ext (by rw [runNT_fst, h2]) rfl
  have hst : step P (lone fr [] w') = .ended (.done v) w' := by
    rw [runN_add, h1] at h2
    simp only [runN] at h2
    cases hs : step P (lone fr [] w') with
    | next m => rw [hs] at h2; cases h2
    | ended o w2 => rw [hs] at h2; exact h2
  refine ⟨n, lone fr [] w', .done v, w', _, e3, h1, hst, v, rfl, hR, fun said => not_race_of_allBy hall, ?_, ⟨?_, rfl⟩, ?_⟩
  · intro i g hg hne hc
    obtain ⟨x, hx, _⟩ := hc
    have := hall i x hx
    rw [hg] at this
    injection this with this
    exact absurd this hne
  · intro g hg
    simp [lone] at hg
  · intro i g hg hne
    have : i < 1 := by simpa [lone] using (Array.getElem?_eq_some_iff.1 hg).1
    omega
end Go.Proofs.Ytpdnceeniokemaa
