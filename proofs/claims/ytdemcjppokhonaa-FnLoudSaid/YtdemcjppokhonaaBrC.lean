/-
  A contract of the lone machine is one whatever is answered. It names no program; no conditions.
-/
import Derived.Test.YtdemcjppokhonaaBrB
set_option linter.unusedVariables false
set_option linter.unusedSimpArgs false
namespace Go.Proofs.Ytdemcjppokhonaa
open Go Go.Conc
variable {P : Program} {F : FuncId → Bool}

/-- The frame of f leaves with a value of which R holds. -/
def QR (P : Program) (f : FuncId) (R : Value → World → Prop) (fr : Frame) (w : World) : Prop := fr.fn = f ∧ ∃ v, fr.leaving P w (.returned v) ∧ R v w

theorem leaving_rt {fr : Frame} {w : World} {v : Value} (h : fr.leaving P w (.returned v)) (T : Nat → Question → Nat) (d : Nat) : fr.leaving P (rt T d w) (.returned v) := by
  obtain ⟨h1, h2, h3, fn, h4, h5⟩ := h
  refine ⟨h1, h2, h3, fn, h4, ?_⟩
  rw [← Sem.runT_fst P _ _ #[]] at h5 ⊢
  have := run_rt P (ns_results (P := P) fn fr.tmps) w #[] T d (fun k hk => by
    rw [h5] at hk
    simp only [wof] at hk
    omega)
  rw [this]
  simp only [h5, mapW]
  rw [Nat.sub_self, Nat.add_zero]

/-- ████ THE BRIDGE: a contract of the lone machine, on every tape, is one whatever is answered, step by step. ████ -/
theorem wins_of_calls (hF : SetOk P F) {f : FuncId} {args : Array Value} {w : World} (hf : F f = true) (hg : GC P w) {R : Value → World → Prop} (hR : ∀ v w T d, R v w → R v (rt T d w))
    (hC : ∀ T d, Calls P f args (rt T d w) fun e w' => ∃ v, e = .returned v ∧ R v w') : Wins P F (QR P f R) (Frame.enter P f args .normal) [] w := by
  refine wins_of_lone (fun fr w T d ⟨h1, v, h2, h3⟩ => ⟨h1, v, leaving_rt h2 T d, hR _ _ _ _ h3⟩) fun T d => ?_
  obtain ⟨e, w', fin, ⟨v, rfl, hr⟩, ⟨n, hn⟩, h1, h2⟩ := hC T d [c0 P]
  exact reach_of_run hF h2.1 ⟨h1, v, h2, hr⟩ n _ [] _ (ok_enter hF hf args).1 (fun f hf => by cases hf) hg hn
end Go.Proofs.Ytdemcjppokhonaa
