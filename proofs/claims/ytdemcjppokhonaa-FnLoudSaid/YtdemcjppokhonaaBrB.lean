/-
  From the run of a lone machine to the steps of its frames. It names no program; no conditions.
-/
import Derived.Test.YtdemcjppokhonaaBrA
set_option linter.unusedVariables false
set_option linter.unusedSimpArgs false
namespace Go.Proofs.Ytdemcjppokhonaa
open Go Go.Conc
variable {P : Program} {F : FuncId → Bool} {Q : Frame → World → Prop}

/-- A caller behind which the run ends at once, whether it is returned to or a panic comes to it. -/
def nobody : String := "fmt's door"
theorem nobody_starts : nobody.startsWith "fmt's door" = true := by
  first | rfl | simp [nobody] | (rw [String.startsWith_string_iff]; simp [nobody])
theorem nobody_row : Extern.next nobody = none := by
  unfold Extern.next
  rw [show Extern.allNextRows.lookup nobody = none from by rfl]
  rfl
def c0 (P : Program) : Frame := { fn := P.funcs.size, tmps := #[], todo := [.call { target := .nil, args := #[] } false nobody #[]], defers := [], mode := .run, kind := .normal }

theorem c0_ret (v : Value) (w : World) : ∃ o w', step P (lone ((c0 P).finish v) [] w) = .ended o w' := by
  refine ⟨.stuck ("no extern row " ++ nobody) (((c0 P).finish v).pos P), w, step_lone_ended ?_⟩
  simp [stepG, stepG.exec, c0, Frame.finish, nobody_row, GStep.bare]
theorem c0_raise (ch : List PanicEntry) (w : World) : ∃ o w', step P (lone ((c0 P).raise ch) [] w) = .ended o w' := by
  have hc : Frame.catches P { c0 P with mode := .panicking ch } = true := by simp [Frame.catches, c0, nobody_starts]
  have hs : ∃ o, stepG P true { frame := (c0 P).raise ch, callers := [], status := .running, dying := none } w = .ended o w := by
    have e : (c0 P).raise ch = { c0 P with mode := .panicking ch } := rfl
    rw [e]
    simp only [stepG, unwind]
    rw [show (c0 P).defers = [] from rfl]
    exact ⟨_, if_pos hc⟩
  obtain ⟨o, hs⟩ := hs
  exact ⟨o, w, step_lone_ended (by rw [hs]; rfl)⟩

theorem runN_ended {n : Nat} {m m' : Machine} {o : Outcome} {w : World} (h : step P m = .ended o w) : runN P (n + 1) m ≠ .next m' := by
  simp [runN, h]

theorem lone_inj {fr fr' : Frame} {cs cs' : List Frame} {w w' : World} (h : lone fr cs w = lone fr' cs' w') : fr = fr' ∧ cs = cs' ∧ w = w' := by
  simp only [lone, Machine.mk.injEq, Array.mk.injEq, List.cons.injEq, Goroutine.mk.injEq, and_true, true_and] at h
  obtain ⟨h1, h2⟩ := h
  simp_all

theorem reach_of_run (hF : SetOk P F) {fin : Frame} {wf : World} (hm : fin.mode = .returning) (hq : Q fin wf) :
    ∀ (n : Nat) (fr : Frame) (up : List Frame) (w : World), OkF P F fr → (∀ f ∈ up, OkF P F f ∧ f.mode = .run) → GC P w → runN P n (lone fr (up ++ [c0 P]) w) = .next (lone fin [c0 P] wf) → ∃ m, ReachN P F Q m fr up w := by
  intro n
  induction n with
  | zero =>
    intro fr up w h hu hg hr
    simp only [runN, Stepped.next.injEq] at hr
    obtain ⟨rfl, h2, rfl⟩ := lone_inj hr
    have : up = [] := by
      cases up with
      | nil => rfl
      | cons x up => simp at h2
    exact ⟨0, this, hm, hq⟩
  | succ n ih =>
    intro fr up w h hu hg hr
    by_cases ho : On fr up
    · rcases step_ok hF h hu hg ho with ⟨fr', up', w', es, mv⟩ | hh
      · have hs := mv.same [c0 P] w.tape w.drawn (fun _ _ => rfl)
        have hg' := mv.grows
        rw [rt_self, show w.drawn + (w'.drawn - w.drawn) = w'.drawn by omega, ← mv.tape, rt_self] at hs
        have hst : step P (lone fr (up ++ [c0 P]) w) = .next (lone fr' (up' ++ [c0 P]) w') := step_lone_go (by
          have : stepG P true { frame := fr, callers := up ++ [c0 P], status := .running, dying := none } w = _ := hs
          rw [this]; rfl)
        rw [runN, hst] at hr
        obtain ⟨m, hmm⟩ := ih fr' up' w' mv.ok mv.ups mv.gc hr
        exact ⟨m + 1, .inr ⟨ho, fr', up', w', es, mv, hmm⟩⟩
      · obtain ⟨o, w', es, he⟩ := hh [c0 P]
        refine absurd hr (runN_ended (o := o) (w := w') (step_lone_ended ?_))
        have : stepG P true { frame := fr, callers := up ++ [c0 P], status := .running, dying := none } w = _ := he
        rw [this]; rfl
    · have hup : up = [] := Classical.byContradiction fun x => ho (.inl x)
      have hrun : fr.mode ≠ .run := fun x => ho (.inr x)
      subst hup
      simp only [List.nil_append] at hr
      obtain ⟨f, hf⟩ := h.fn
      have tail : ∀ (x : Frame) (w1 : World), (∃ o w', step P (lone x [] w1) = .ended o w') → runN P n (lone x [] w1) ≠ .next (lone fin [c0 P] wf) := by
        intro x w1 ⟨o, w', hx⟩ hn
        cases n with
        | zero =>
          simp only [runN, Stepped.next.injEq] at hn
          have := (lone_inj hn).2.1
          cases this
        | succ n => exact runN_ended hx hn
      have fin' : ∀ (x : Frame) (w1 : World) (es : Array Event), (∃ o w', step P (lone x [] w1) = .ended o w') → stepG P true { frame := fr, callers := [c0 P], status := .running, dying := none } w = .go { frame := x, callers := [], status := .running, dying := none } w1 es → False := by
        intro x w1 es hx hs
        have hst : step P (lone fr [c0 P] w) = .next (lone x [] w1) := step_lone_go (by rw [hs]; rfl)
        rw [runN, hst] at hr
        exact tail x w1 hx hr
      have fin2 : ∀ o w1 es, stepG P true { frame := fr, callers := [c0 P], status := .running, dying := none } w = .ended o w1 es → False := by
        intro o w1 es hs
        exact runN_ended (step_lone_ended (by rw [hs]; rfl)) hr
      obtain ⟨fn, tmps, todo, defers, mode, kind, roundOf⟩ := fr
      obtain ⟨h1, h2, h3, h4, h5⟩ := h
      simp only at h1 h2 h3 hf
      subst h1 h2 h3
      cases mode with
      | run => exact absurd rfl hrun
      | panicking ch => exact (fin' _ _ #[] (c0_raise ch w) (by simp [stepG, unwind, Frame.catches, hf])).elim
      | returning =>
        cases hx : (results f tmps).runT P w #[] with
        | mk r es =>
          cases r with
          | ok v w' => exact (fin' _ _ _ (c0_ret v w') (by simp only [stepG, unwind, hf, hx, doReturn, GStep.after]; rfl)).elim
          | halt x w' =>
            exfalso
            cases x <;> exact fin2 _ _ _ (by simp only [stepG, unwind, hf, hx, GStep.after]; rfl)
end Go.Proofs.Ytdemcjppokhonaa
