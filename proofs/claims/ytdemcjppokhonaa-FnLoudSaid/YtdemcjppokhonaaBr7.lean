/-
  Sets of functions of ordinary code, and the steps of their frames. It names no program; no conditions.
-/
import Derived.Test.YtdemcjppokhonaaBr6
set_option linter.unusedVariables false
set_option linter.unusedSimpArgs false
namespace Go.Proofs.Ytdemcjppokhonaa
open Go Go.Conc
variable {P : Program} {F : FuncId → Bool}

def okC (F : FuncId → Bool) : Code → Bool
  | .skip | .label _ | .exit _ | .goto _ | .ret => true
  | .region _ ops _ => ops.toList.all fun o => okOp F o.op
  | .seq a b => okC F a && okC F b
  | .cond _ a b => okC F a && okC F b
  | .block _ b => okC F b
  | .loop b => okC F b
  | .scope b => okC F b
  | .rangeFunc .. | .refuse _ => false
def okIt (F : FuncId → Bool) : Item → Bool
  | .code c => okC F c
  | .inBlock _ => true
  | .inLoop b => okC F b
  | .inScope b => okC F b
  | .inRegion ops _ => ops.toList.all fun o => okOp F o.op
  | _ => false

/-- The functions of the set have Go bodies of ordinary code. -/
structure SetOk (P : Program) (F : FuncId → Bool) : Prop where
  bodied : Bodied P F
  code : ∀ f fn c, F f = true → P.funcs[f]? = some fn → fn.body = some c → okC F c = true
  late : ∀ g, P.globals.size ≤ g → P.stepOf g = none
  ahead : P.follows .staticDataAhead = true

structure OkF (P : Program) (F : FuncId → Bool) (fr : Frame) : Prop where
  defers : fr.defers = []
  kind : fr.kind = .normal
  round : fr.roundOf = none
  fn : ∃ fn, P.funcs[fr.fn]? = some fn
  todo : fr.todo.all (okIt F) = true

def GC (P : Program) (w : World) : Prop := ∀ g, g < P.globals.size → CellsAt w g

theorem rt_self (w : World) : rt w.tape w.drawn w = w := rfl

/-- ONE STEP OF AN ORDINARY FRAME, ON WHATEVER TAPE, WHOEVER STANDS BELOW. -/
structure Moves (P : Program) (F : FuncId → Bool) (fr : Frame) (up : List Frame) (w : World) (fr' : Frame) (up' : List Frame) (w' : World) (es : Array Event) : Prop where
  ok : OkF P F fr'
  ups : ∀ f ∈ up', OkF P F f ∧ f.mode = .run
  gc : GC P w'
  grows : w.drawn ≤ w'.drawn
  tape : w'.tape = w.tape
  evs : ∀ e ∈ es, EvZ e
  same : ∀ (cs : List Frame) (T : Nat → Question → Nat) (d : Nat), (∀ k, w.drawn + k < w'.drawn → T (d + k) = w.tape (w.drawn + k)) →
    stepG P true (G fr (up ++ cs)) (rt T d w) = .go (G fr' (up' ++ cs)) (rt T (d + (w'.drawn - w.drawn)) w') es

def Halts (P : Program) (fr : Frame) (up : List Frame) (w : World) : Prop := ∀ (cs : List Frame), ∃ o w' es, stepG P true (G fr (up ++ cs)) w = .ended o w' es

/-- A move of control. -/
theorem moves_to {fr fr' : Frame} {up : List Frame} {w : World} (h : OkF P F fr') (hu : ∀ f ∈ up, OkF P F f ∧ f.mode = .run) (hg : GC P w) (hs : ∀ cs v, stepG P true (G fr cs) v = .go (G fr' cs) v #[]) : Moves P F fr up w fr' up w #[] :=
  ⟨h, hu, hg, Nat.le_refl _, rfl, by simp, fun cs T d _ => by rw [hs, Nat.sub_self, Nat.add_zero]⟩

theorem all_exitTo {id : Nat} : ∀ {k k' : List Item}, k.all (okIt F) = true → exitTo id k = some k' → k'.all (okIt F) = true := by
  intro k
  induction k with
  | nil => intro k' _ h; simp [exitTo] at h
  | cons x k ih =>
    intro k' ha h
    have ha' : k.all (okIt F) = true := by simp only [List.all_cons, Bool.and_eq_true] at ha; exact ha.2
    cases x <;> simp only [exitTo] at h <;> first
      | exact ih ha' h
      | (split at h
         · cases h; exact ha'
         · exact ih ha' h)

theorem ok_findLabel : ∀ (c : Code) (l : Nat) (r : Code), okC F c = true → findLabel c l = some r → okC F r = true := by
  intro c
  induction c with
  | seq a b iha ihb =>
    intro l r hc h
    simp only [okC, Bool.and_eq_true] at hc
    simp only [findLabel] at h
    split at h
    · rename_i rest hr
      cases h
      simp only [okC, Bool.and_eq_true]
      exact ⟨iha _ _ hc.1 hr, hc.2⟩
    · exact ihb _ _ hc.2 h
  | label l' =>
    intro l r hc h
    simp only [findLabel] at h
    split at h
    · cases h; rfl
    · cases h
  | _ => intro l r hc h; simp [findLabel] at h
theorem all_gotoIn {l : Nat} : ∀ {k k' : List Item}, k.all (okIt F) = true → gotoIn l k = some k' → k'.all (okIt F) = true := by
  intro k
  induction k with
  | nil => intro k' _ h; simp [gotoIn] at h
  | cons x k ih =>
    intro k' ha h
    have ha0 := ha
    simp only [List.all_cons, Bool.and_eq_true] at ha
    cases x <;> simp only [gotoIn] at h <;> first
      | exact ih ha.2 h
      | (split at h
         · rename_i rest hr
           cases h
           simp only [List.all_cons, Bool.and_eq_true]
           exact ⟨ok_findLabel _ _ _ ha.1 hr, ha⟩
         · exact ih ha.2 h)

theorem ok_finish {fr : Frame} (h : OkF P F fr) (v : Value) : OkF P F (fr.finish v) ∧ (fr.finish v).mode = fr.mode := by
  obtain ⟨fn, tmps, todo, defers, mode, kind, roundOf⟩ := fr
  obtain ⟨h1, h2, h3, h4, h5⟩ := h
  cases todo with
  | nil => exact ⟨⟨h1, h2, h3, h4, h5⟩, rfl⟩
  | cons x k =>
    simp only [List.all_cons, Bool.and_eq_true] at h5
    cases x with
    | inRegion ops l =>
      cases l with
      | nil => exact ⟨⟨h1, h2, h3, h4, by simpa [Frame.finish] using h5⟩, rfl⟩
      | cons i rest => exact ⟨⟨h1, h2, h3, h4, by simpa [Frame.finish, okIt] using h5⟩, rfl⟩
    | inRangeFunc l => cases h5.1
    | beginRound => cases h5.1
    | call _ _ _ _ => cases h5.1
    | extern _ _ => cases h5.1
    | _ => exact ⟨⟨h1, h2, h3, h4, by simpa [Frame.finish] using h5⟩, rfl⟩

theorem ok_enter (hF : SetOk P F) {f : FuncId} (h : F f = true) (args : Array Value) : OkF P F (Frame.enter P f args .normal) ∧ (Frame.enter P f args .normal).mode = .run := by
  obtain ⟨fn, c, h1, h2, h3⟩ := hF.bodied f h
  refine ⟨⟨rfl, rfl, rfl, ⟨fn, h1⟩, ?_⟩, rfl⟩
  simp [Frame.enter, h1, h3, okIt, hF.code f fn c h h1 h3]
end Go.Proofs.Ytdemcjppokhonaa
