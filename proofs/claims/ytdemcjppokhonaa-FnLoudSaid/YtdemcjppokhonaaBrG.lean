/-
  A call by a lone contract beside goroutines that only leave. It names no program; no conditions.
-/
import Derived.Test.YtdemcjppokhonaaBrF
set_option linter.unusedVariables false
set_option linter.unusedSimpArgs false
namespace Go.Proofs.Ytdemcjppokhonaa
open Go Go.Conc
variable {P : Program} {F : FuncId → Bool} {Q : Goroutine → World → Prop} {D : World → World → Array Event → Prop}

/-- A walk in company under the rely 'the count of draws alone', beside leavers. -/
theorem BTo.goes (hD : ∀ w w' es, D w w' es → ∀ e ∈ es, EvZ e) : ∀ (n : Nat) (g : Goroutine) (w : World), Goes P true AtRel D (BTo P Q) n g w → BTo P Q g w := by
  intro n
  induction n with
  | zero => exact fun g w h => h w (atRel_refl w)
  | succ n ih =>
    intro g w h
    rcases h with h | ⟨hs, h⟩
    · exact h w (atRel_refl w)
    · refine BTo.step hs fun d => ?_
      obtain ⟨g', w', es, hgo, hd, hg⟩ := goes_elim (h (w.at d) ⟨d, rfl⟩)
      exact ⟨g', w', es, hgo, hD _ _ _ hd, ih g' w' hg⟩

/-- A frame hands its value back. -/
theorem BTo.leave {fr c : Frame} {cs : List Frame} {w : World} {v : Value} (h : fr.leaving P w (.returned v)) (hn : ∀ d, BTo P Q (G (c.finish v) cs) (w.at d)) : BTo P Q (G fr (c :: cs)) w := by
  refine BTo.step rfl fun d => ?_
  obtain ⟨hm, hd, hk, fn, hf, hr⟩ := leaving_rt h w.tape d
  rw [← Sem.runT_fst P _ _ #[]] at hr
  cases hx : (results fn fr.tmps).runT P (rt w.tape d w) #[] with
  | mk r es =>
    rw [hx] at hr
    simp only at hr
    subst hr
    refine ⟨_, _, seen P fr.fn es, ?_, fun e he => ?_, hn d⟩
    show stepG P true (G fr (c :: cs)) (rt w.tape d w) = _
    simp only [G, stepG, unwind, doReturn, hm, hd, hk, hf, hx, GStep.after, Array.append_empty]
    rfl
    have := run_evs P (ns_results (P := P) fn fr.tmps) (rt w.tape d w) #[] (by simp)
    rw [hx] at this
    exact this e (mem_seen he)

/-- ████ A CALL BY A LONE CONTRACT, BESIDE LEAVERS. ████ -/
theorem BTo.call (hF : SetOk P F) {f : FuncId} {args : Array Value} {w : World} (hf : F f = true) (hg : GC P w) {R : Value → World → Prop} (hR : ∀ v w T d, R v w → R v (rt T d w))
    (hC : ∀ T d, Calls P f args (rt T d w) fun e w' => ∃ v, e = .returned v ∧ R v w') {c : Frame} {cs : List Frame}
    (hn : ∀ v w', R v w' → BTo P Q (G (c.finish v) cs) w') : BTo P Q (G (Frame.enter P f args .normal) (c :: cs)) w := by
  refine BTo.trans ((beside_of_calls hF hf hg hR hC (c :: cs)).mono ?_)
  rintro g' w' ⟨fr, rfl, _, v, hl, hr⟩
  exact BTo.leave hl fun d => hn v _ (hR _ _ w'.tape d hr)
end Go.Proofs.Ytdemcjppokhonaa
