/-
  A row of cells stays one, whatever step a goroutine makes. It names no program; no conditions.
  A row of cells stays one, whatever step a goroutine makes: the whole. It names no program; no conditions.
  Which step ends the run well: the return of the lowest frame, and no other. It names no program; no conditions.
  Where the lowest frame's return ends the run, with callers below it is the caller that goes on. It names no program; no conditions.
-/
import Derived.Test.YtghglpcfpokmhaaZCy
set_option linter.unusedVariables false
set_option linter.unusedSimpArgs false
namespace Go.Proofs.Ytghglpcfpokmhaa.Ct
open Go Go.Conc

def wst : GStep → World
  | .go _ w _ | .comm _ _ _ _ w _ | .spawn _ _ w _ | .count _ w _ | .timer _ _ w _ | .alone _ _ w _ | .newcoro _ _ _ w _ | .coroswitch _ _ _ w _ | .collect _ w _ | .watch _ w _ | .ended _ w _ => w
theorem wst_after (es : Array Event) (s : GStep) : wst (s.after es) = wst s := by cases s <;> rfl
section
variable {P : Program} {b : Nat}
theorem run_cells' {α : Type} (s : Sem α) {w : World} (h : CellsAt w b) : CellsAt (wof (s.run P w)) b := by
  have := run_cells (p := P) s w #[] h
  rw [Sem.runT_eq] at this
  exact this
theorem cells_run {α : Type} {s : Sem α} {w w' : World} {r : Result α} (h : CellsAt w b) (e : s.run P w = r) (hw : wof r = w') : CellsAt w' b := by
  subst e; subst hw; exact run_cells' s h

theorem cells_runT {α : Type} {s : Sem α} {w w' : World} {r : Result α} {es : Array Event} (h : CellsAt w b) (e : s.runT P w #[] = (r, es)) (hw : wof r = w') : CellsAt w' b := by
  have := run_cells (p := P) s w #[] h
  rw [e] at this
  subst hw; exact this
theorem ite_cells {c : Prop} [Decidable c] {x y : GStep} (hx : CellsAt (wst x) b) (hy : CellsAt (wst y) b) : CellsAt (wst (if c then x else y)) b := by
  split
  · exact hx
  · exact hy
theorem dieOf_cells {fr : Frame} {l : List ByteArray} {m : String} {x : Bool} {w : World} (h : CellsAt w b) : CellsAt (wst (dieOf fr l m x w)) b := h
theorem endFatal_cells {fr : Frame} {cs : List Frame} {dy : Option Dying} {m : String} {w : World} (h : CellsAt w b) : CellsAt (wst (endFatal P fr cs dy m w)) b := by
  unfold endFatal
  simp only
  split
  · rename_i e; exact cells_run h e rfl
  · rename_i e; exact cells_run h e rfl
  · rename_i e; exact cells_run h e rfl
theorem endPrinting_cells {fr : Frame} {v : Value} {w : World} (h : CellsAt w b) : CellsAt (wst (endPrinting P fr v w)) b := by
  unfold endPrinting
  simp only
  split <;> exact h
theorem early_cells {fr : Frame} {cs : List Frame} {dy : Option Dying} {g : Nat} {w : World} (h : CellsAt w b) : CellsAt (wst (early P fr cs dy g w)) b := by
  have ny : ∀ {w : World}, CellsAt w b → ∀ c t, w.heap[g]? = some (.pending c t) → CellsAt { w with heap := w.heap.setIfInBounds g (.cells c t) } b := by
    intro w h c t hp
    have hne : g ≠ b := by
      rintro rfl
      obtain ⟨c', t', f', hx⟩ := h
      rw [hx] at hp
      cases hp
    obtain ⟨c', t', f', hx⟩ := h
    exact ⟨c', t', f', by simp [hne, hx]⟩
  have nt : ∀ {w : World} (o : Outcome), CellsAt w b → CellsAt (wst (match w.heap[g]? with
      | some (.pending c elem) => .go { frame := fr, callers := cs, status := .running, dying := dy } { w with heap := w.heap.setIfInBounds g (.cells c elem) }
      | _ => .ended o w)) b := by
    intro w o h
    split
    · rename_i e; exact ny h _ _ e
    · exact h
  unfold early
  simp only
  split
  · exact nt _ h
  · split
    · exact h
    · split
      · exact nt _ h
      · split
        · exact nt _ h
        · split
          · exact h
          · exact h
          · exact h
          · exact nt _ h
          · split
            · exact h
            · split
              · exact nt _ h
              · split
                · rename_i e; exact nt _ (cells_run h e rfl)
                · rename_i e; exact cells_run h e rfl
                · rename_i e; exact cells_run h e rfl
theorem endWith_cells {w : World} {fd : Nat} {text : ByteArray} {o : Outcome} (h : CellsAt w b) : CellsAt (wst (endWith w fd text o)) b := by
  have hs : CellsAt (w.sys (.write fd text)).2 b := by
    unfold CellsAt
    rw [sys_heap]
    exact h
  unfold endWith
  simp only
  split
  · rename_i e
    rw [e] at hs
    split <;> exact hs
  · rename_i e
    rw [e] at hs
    exact hs
  · rename_i e
    rw [e] at hs
    exact hs
theorem writeOn_cells {fr : Frame} {d : Dying} {f : Fatal} {w : World} (h : CellsAt w b) : CellsAt (wst (writeOn P fr d f w)) b := by
  unfold writeOn
  simp only
  split
  · exact h
  · split
    all_goals
      rename_i e
      exact cells_runT h e rfl
theorem die_cells {fr : Frame} {d : Dying} {w : World} (h : CellsAt w b) : CellsAt (wst (die P fr d w)) b := by
  unfold die
  split
  · exact writeOn_cells h
  · split
    · split
      · exact h
      · exact endWith_cells h
    · split
      · exact h
      · split
        · rename_i e; exact cells_run h e rfl
        · rename_i e; exact cells_run h e rfl
      · rename_i t recv name _
        have := run_cells (p := P) (invoke (.fn (.method name) #[]) #[.iface t recv]) w #[] h
        cases hr : (invoke (.fn (.method name) #[]) #[.iface t recv]).runT P w #[] with
        | mk r es =>
          rw [hr] at this
          simp only [wst_after]
          cases r with
          | ok a w' =>
            cases a with
            | value v => cases v <;> first | exact this | exact h
            | _ => first | exact this | exact h
          | halt x w' =>
            cases x with
            | panic v => exact endPrinting_cells this
            | _ => first | exact this | exact h
      · exact h
theorem doReturn_cells {main : Bool} {fr : Frame} {cs : List Frame} {dy : Option Dying} {v : Value} {w : World} (h : CellsAt w b) : CellsAt (wst (doReturn P main fr cs dy v w)) b := by
  unfold doReturn
  split
  · split <;> exact h
  · split
    · exact h
    · exact h
    · split
      · exact h
      · split <;> exact h
theorem callDeferred_cells {fr : Frame} {cs : List Frame} {dy : Option Dying} {d : Deferred} {w : World} (h : CellsAt w b) : CellsAt (wst (callDeferred P fr cs dy d w)) b := by
  unfold callDeferred
  refine ite_cells h ?_
  have := run_cells (p := P) (invoke d.target d.args) w #[] h
  cases hr : (invoke d.target d.args).runT P w #[] with
  | mk r es =>
    rw [hr] at this
    simp only [wst_after]
    cases r with
    | ok a w' =>
      cases a with
      | recover => simp only; split <;> exact this
      | alone x y => cases x <;> exact this
      | coroswitch x y => cases y <;> exact this
      | _ => exact this
    | halt x w' =>
      cases x with
      | fatal m => exact endFatal_cells this
      | _ => exact this
theorem unwind_cells {main : Bool} {fr : Frame} {cs : List Frame} {dy : Option Dying} {w : World} (h : CellsAt w b) : CellsAt (wst (unwind P main fr cs dy w)) b := by
  unfold unwind
  split
  · rename_i block _ _ _
    have := run_cells (p := P) (Instr.takeDeferred block) w #[] h
    simp only [wst_after]
    split
    · rename_i e; rw [e] at this; exact this
    · rename_i e; rw [e] at this; exact this
  · exact callDeferred_cells h
  · split
    · exact h
    · split
      · exact h
      · split
        · exact h
        · split
          · split
            · exact h
            · split
              · rename_i e; exact cells_run h e rfl
              · rename_i e; exact cells_run h e rfl
              · rename_i e; exact cells_run h e rfl
          · split
            · exact endPrinting_cells h
            · exact h
    · split
      · exact doReturn_cells h
      · rename_i fn _
        have := run_cells (p := P) (results fn fr.tmps) w #[] h
        simp only [wst_after]
        split
        · rename_i e; rw [e] at this; exact doReturn_cells this
        · rename_i e; rw [e] at this; exact this
        · rename_i e; rw [e] at this; exact this

theorem apply_cells {fr : Frame} {cs : List Frame} {dy : Option Dying} {s : Sem Next} {w : World} (h : CellsAt w b) : CellsAt (wst (stepG.apply P true fr cs dy s w)) b := by
  have := run_cells (p := P) s w #[] h
  unfold stepG.apply
  simp only [↓reduceIte]
  cases hr : s.runT P w #[] with
  | mk r es =>
    rw [hr] at this
    simp only [wst_after]
    cases r with
    | ok a w' =>
      cases a with
      | recover => simp only; split <;> exact this
      | callThen a b c d => simp only; split <;> exact this
      | row a b => simp only; split <;> exact this
      | stack a b => simp only; split <;> exact this
      | spawn d => exact ite_cells this this
      | _ => exact this
    | halt x w' =>
      cases x with
      | fatal m => exact endFatal_cells this
      | unsupported u =>
        cases u with
        | initOrder g => exact early_cells this
        | _ => exact this
      | _ => exact this
theorem leave_cells {main : Bool} {fr : Frame} {cs : List Frame} {dy : Option Dying} {w : World} (h : CellsAt w b) (l : Nat) (jump : Option Code) (o : Outcome) :
    CellsAt (wst (match (Instr.endRound l jump).runT P w #[] with
      | (r, es) => GStep.after (seen P fr.fn es) <| match r with
        | .ok v w => doReturn P main fr cs dy v w
        | .halt _ w => .ended o w)) b := by
  have := run_cells (p := P) (Instr.endRound l jump) w #[] h
  cases hr : (Instr.endRound l jump).runT P w #[] with
  | mk r es =>
    rw [hr] at this
    simp only [wst_after]
    cases r with
    | ok v w' => exact doReturn_cells this
    | halt x w' => exact this
end
end Go.Proofs.Ytghglpcfpokmhaa.Ct

set_option linter.unusedVariables false
set_option linter.unusedSimpArgs false
namespace Go.Proofs.Ytghglpcfpokmhaa.Ct
open Go Go.Conc
section
variable {P : Program} {b : Nat}
theorem oper_cells {fr : Frame} {cs : List Frame} {dy : Option Dying} {w : World} (h : CellsAt w b) : CellsAt (wst (stepG.oper P true fr cs dy w)) b := by
  unfold stepG.oper
  split
  · exact h
  · split
    · exact apply_cells h
    · exact apply_cells h
theorem exec_cells {main : Bool} {fr : Frame} {cs : List Frame} {dy : Option Dying} {w : World} (h : CellsAt w b) : CellsAt (wst (stepG.exec P main true fr cs dy w)) b := by
  unfold stepG.exec
  simp only
  split
  · split <;> first
      | exact ite_cells h h
      | exact h
      | exact leave_cells h _ _ _
  · split <;> first
      | exact ite_cells h h
      | exact h
      | exact leave_cells h _ _ _
  · exact h
  · exact h
  · exact h
  · exact h
  · exact h
  · split <;> exact h
  · exact h
  · exact h
  · exact h
  · exact h
  · rename_i id k _
    cases exitTo id k with
    | none =>
      simp only [Option.elim]
      split <;> first
      | exact ite_cells h h
      | exact h
      | exact leave_cells h _ _ _
    | some k' => exact h
  · rename_i l k _
    cases gotoIn l k with
    | none =>
      simp only [Option.elim]
      split <;> first
      | exact ite_cells h h
      | exact h
      | exact leave_cells h _ _ _
    | some k' => exact h
  · rename_i f params assign body k _
    have := run_cells (p := P) (Instr.enterLoop fr.fn fr.tmps params assign body fr.roundOf) w #[] h
    cases hr : (Instr.enterLoop fr.fn fr.tmps params assign body fr.roundOf).runT P w #[] with
    | mk r es =>
      rw [hr] at this
      simp only [wst_after]
      cases r with
      | ok v w' => exact apply_cells this
      | halt x w' => exact this
  · exact h
  · exact apply_cells h
  · rename_i l k _
    have := run_cells (p := P) (Instr.endLoop l) w #[] h
    cases hr : (Instr.endLoop l).runT P w #[] with
    | mk r es =>
      rw [hr] at this
      simp only [wst_after]
      cases r with
      | ok v w' => exact this
      | halt x w' => cases x <;> exact this
  · exact h
  · exact apply_cells h
  · rename_i row args k _
    cases Extern.next row with
    | none => exact h
    | some e => exact apply_cells h
  · refine ite_cells h ?_
    split
    · rename_i e; exact cells_run h e rfl
    · rename_i e; exact cells_run h e rfl
  · exact h
  · exact ite_cells (oper_cells h) h
/-- A ROW OF CELLS STAYS ONE -/
theorem stepG_cells {main : Bool} {g : Goroutine} {w : World} (h : CellsAt w b) : CellsAt (wst (stepG P main g w)) b := by
  unfold stepG
  simp only
  split
  · exact die_cells h
  · exact exec_cells h
  · exact unwind_cells h
end
end Go.Proofs.Ytghglpcfpokmhaa.Ct

set_option linter.unusedVariables false
set_option linter.unusedSimpArgs false
namespace Go.Proofs.Ytghglpcfpokmhaa.Ct
open Go Go.Conc
/-- it does not end well -/
def ND : GStep → Prop
  | .ended (.done _) _ _ => False
  | _ => True
theorem nd_after (es : Array Event) (s : GStep) : ND (s.after es) ↔ ND s := by
  cases s with
  | ended o w es' => cases o <;> simp [GStep.after, ND]
  | _ => simp [GStep.after, ND]
theorem nd_ite {c : Prop} [Decidable c] {x y : GStep} (hx : ND x) (hy : ND y) : ND (if c then x else y) := by
  split
  · exact hx
  · exact hy
section
variable {P : Program} {F : FuncId → Prop}
theorem endFatal_nd {fr : Frame} {cs : List Frame} {dy : Option Dying} {m : String} {w : World} : ND (endFatal P fr cs dy m w) := by
  unfold endFatal
  simp only
  split <;> trivial
theorem early_nd {fr : Frame} {cs : List Frame} {dy : Option Dying} {g : Nat} {w : World} : ND (early P fr cs dy g w) := by
  have nt : ∀ (w : World) (x : String), ND (match w.heap[g]? with
      | some (.pending c elem) => .go { frame := fr, callers := cs, status := .running, dying := dy } { w with heap := w.heap.setIfInBounds g (.cells c elem) }
      | _ => .ended (.stuck x (fr.pos P)) w) := by
    intro w x
    split <;> trivial
  unfold early
  simp only
  repeat' first | trivial | exact nt _ _ | split
theorem apply_nd {fr : Frame} {cs : List Frame} {dy : Option Dying} {s : Sem Next} {w : World} : ND (stepG.apply P true fr cs dy s w) := by
  unfold stepG.apply
  simp only [↓reduceIte]
  cases hr : s.runT P w #[] with
  | mk r es =>
    simp only [nd_after]
    cases r with
    | ok a w' =>
      cases a with
      | recover => simp only; split <;> trivial
      | callThen a b c d => simp only; split <;> trivial
      | row a b => simp only; split <;> trivial
      | stack a b => simp only; split <;> trivial
      | spawn d => exact nd_ite trivial trivial
      | _ => trivial
    | halt x w' =>
      cases x with
      | fatal m => exact endFatal_nd
      | unsupported u =>
        cases u with
        | initOrder g => exact early_nd
        | _ => trivial
      | _ => trivial
theorem callDeferred_nd {fr : Frame} {cs : List Frame} {dy : Option Dying} {d : Deferred} {w : World} : ND (callDeferred P fr cs dy d w) := by
  unfold callDeferred
  refine nd_ite trivial ?_
  cases hr : (invoke d.target d.args).runT P w #[] with
  | mk r es =>
    simp only [nd_after]
    cases r with
    | ok a w' =>
      cases a with
      | recover => simp only; split <;> trivial
      | alone x y => cases x <;> trivial
      | coroswitch x y => cases y <;> trivial
      | _ => trivial
    | halt x w' =>
      cases x with
      | fatal m => exact endFatal_nd
      | _ => trivial
theorem oper_nd {fr : Frame} {cs : List Frame} {dy : Option Dying} {w : World} : ND (stepG.oper P true fr cs dy w) := by
  unfold stepG.oper
  split
  · trivial
  · split <;> exact apply_nd
theorem exec_nd {main : Bool} {fr : Frame} {cs : List Frame} {dy : Option Dying} {w : World} (hr : fr.roundOf = none) (ht : ∀ x ∈ fr.todo, okIt P F x) : ND (stepG.exec P main true fr cs dy w) := by
  unfold stepG.exec
  simp only [hr]
  split
  all_goals first
    | trivial
    | exact apply_nd
    | exact nd_ite trivial trivial
    | skip
  all_goals first
    | (split <;> trivial)
    | (refine nd_ite trivial ?_; split <;> trivial)
    | exact nd_ite oper_nd trivial
    | (rename_i id k _; cases exitTo id k <;> first | trivial | exact nd_ite trivial trivial)
    | (rename_i id k _; cases gotoIn id k <;> first | trivial | exact nd_ite trivial trivial)
    | (rename_i e; rw [e] at ht; exact (ht _ (List.mem_cons_self ..)).elim)
    | (rename_i row args k _; cases Extern.next row <;> first | trivial | exact apply_nd)
    | skip
end
end Go.Proofs.Ytghglpcfpokmhaa.Ct

set_option linter.unusedVariables false
set_option linter.unusedSimpArgs false
namespace Go.Proofs.Ytghglpcfpokmhaa.Ct
open Go Go.Conc
theorem ret_real {P : Program} {F : FuncId → Prop} (hF : SetOk P F) {fr : Frame} {up : List Frame} {w w' : World} {v : Value} {es : Array Event} (h : OkF P F fr) (e : stepG P true (G fr up) w = .ended (.done v) w' es) :
    up = [] ∧ ∀ c rest, stepG P true (G fr (c :: rest)) w = .go (G (c.finish v) rest) w' es := by
  have nd : ¬ ND (stepG P true (G fr up) w) := by rw [e]; exact id
  obtain ⟨fn, tmps, todo, defers, mode, kind, roundOf⟩ := fr
  obtain ⟨h1, h2, h3, h4, h5⟩ := h
  simp only at h1 h2 h3 h4 h5
  subst h1 h2
  obtain ⟨fn', c', hfn, _, _⟩ := hF.code fn h3
  have dcase : ∀ d ds, defers = d :: ds → mode ≠ .run → ND (stepG P true (G ⟨fn, tmps, todo, defers, mode, .normal, none⟩ up) w) := by
    intro d ds hd hm
    subst hd
    have hd := h4 d (List.mem_cons_self ..)
    have : stepG P true (G ⟨fn, tmps, todo, d :: ds, mode, .normal, none⟩ up) w = callDeferred P ⟨fn, tmps, todo, ds, mode, .normal, none⟩ up none d w := by
      obtain ⟨t, a⟩ := d
      cases mode with
      | run => exact absurd rfl hm
      | _ => cases t <;> first | rfl | exact absurd rfl (hd.1 _)
    rw [this]
    exact callDeferred_nd
  cases mode with
  | run => exact absurd (exec_nd (F := F) (P := P) (main := true) (fr := ⟨fn, tmps, todo, defers, .run, .normal, none⟩) (cs := up) (dy := none) (w := w) rfl h5) nd
  | returning =>
    cases defers with
    | cons d ds => exact absurd (dcase d ds rfl (by simp)) nd
    | nil =>
      cases hr : (results fn' tmps).runT P w #[] with
      | mk r es₁ =>
        cases r with
        | ok v₁ w₁ =>
          cases up with
          | nil =>
            simp only [G, stepG, unwind, hfn, hr, doReturn, hF.inits fn h3, Bool.not_true, Bool.false_eq_true, ↓reduceIte, GStep.after] at e
            cases e
            exact ⟨rfl, fun c rest => by simp only [G, stepG, unwind, hfn, hr, doReturn, GStep.after]⟩
          | cons c up =>
            simp only [G, stepG, unwind, hfn, hr, doReturn, GStep.after] at e
            cases e
        | halt x w₁ =>
          exfalso
          cases x <;> (simp only [G, stepG, unwind, hfn, hr, GStep.after] at e; cases e)
  | panicking ch =>
    cases defers with
    | cons d ds => exact absurd (dcase d ds rfl (by simp)) nd
    | nil =>
      exfalso
      apply nd
      cases up with
      | cons c up => simp [G, stepG, unwind, Frame.catches, hfn, ND]
      | nil =>
        simp only [G, stepG, unwind, Frame.catches, hfn, Bool.false_eq_true, ↓reduceIte]
        refine nd_ite trivial ?_
        split <;> trivial
end Go.Proofs.Ytghglpcfpokmhaa.Ct
