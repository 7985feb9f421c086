/-
  A goroutine whose frames are of ordinary code makes the same step whoever stands below: what is below is cut off or laid on. Defers of plain calls are allowed, go statements too. It names no program; no conditions.
  A goroutine whose frames are of ordinary code makes the same step whoever stands below: every step of it. It names no program; no conditions.
-/
import Derived.Conc.Strewn
set_option linter.unusedVariables false
set_option linter.unusedSimpArgs false
namespace Go.Proofs.Ytghglpcfpokmhaa.Ct
open Go Go.Conc

/-- whatever the run comes to, if it comes to anything, is as Q says; it never asks for a variable's start -/
def Lv (p : Program) {α : Type} (Q : α → Prop) : Sem α → Prop
  | .pure a => Q a
  | .load _ _ k => ∀ v, Lv p Q (k v)
  | .store _ _ _ k => Lv p Q k
  | .new _ k => ∀ r, Lv p Q (k r)
  | .shape _ k => ∀ s, Lv p Q (k s)
  | .freeze _ _ k => Lv p Q k
  | .frozen _ k => ∀ b, Lv p Q (k b)
  | .getObj _ k => ∀ o, Lv p Q (k o)
  | .setObj _ _ k => Lv p Q k
  | .choose _ k => ∀ n, Lv p Q (k n)
  | .sys _ k => ∀ r, Lv p Q (k r)
  | .program k => Lv p Q (k p)
  | .mark _ k => Lv p Q k
  | .halt h => ∀ g, h ≠ .unsupported (.initOrder g)

section
variable {p : Program} {α β : Type}
theorem Lv.bind {Q : β → Prop} {s : Sem α} {f : α → Sem β} (hs : Lv p (fun a => Lv p Q (f a)) s) : Lv p Q (s.bind f) := by
  induction s with
  | pure a => exact hs
  | load m a k ih => exact fun v => ih v (hs v)
  | store m a v k ih => exact ih hs
  | new o k ih => exact fun v => ih v (hs v)
  | shape r k ih => exact fun v => ih v (hs v)
  | freeze a n k ih => exact ih hs
  | frozen a k ih => exact fun v => ih v (hs v)
  | getObj r k ih => exact fun v => ih v (hs v)
  | setObj r o k ih => exact ih hs
  | choose q k ih => exact fun v => ih v (hs v)
  | sys c k ih => exact fun v => ih v (hs v)
  | program k ih => exact ih p hs
  | mark m k ih => exact ih hs
  | halt h => exact hs
theorem Lv.mono {Q R : α → Prop} (hq : ∀ a, Q a → R a) {s : Sem α} (hs : Lv p Q s) : Lv p R s := by
  induction s with
  | pure a => exact hq a hs
  | load m a k ih => exact fun v => ih v (hs v)
  | store m a v k ih => exact ih hs
  | new o k ih => exact fun v => ih v (hs v)
  | shape r k ih => exact fun v => ih v (hs v)
  | freeze a n k ih => exact ih hs
  | frozen a k ih => exact fun v => ih v (hs v)
  | getObj r k ih => exact fun v => ih v (hs v)
  | setObj r o k ih => exact ih hs
  | choose q k ih => exact fun v => ih v (hs v)
  | sys c k ih => exact fun v => ih v (hs v)
  | program k ih => exact ih p hs
  | mark m k ih => exact ih hs
  | halt h => exact hs

def Q1 (Q : α → Prop) : Result α → Prop
  | .ok a _ => Q a
  | .halt _ _ => True

theorem store_runT (m : Mode) (a : Addr) {v : Value} (k : Sem α) (w : World) (es : Array Event) (h1 : ∀ c, v ≠ .agg c) (h2 : ∀ c, v ≠ .tuple c) : (Sem.store m a v k).runT p w es = (match w.cell? a with
    | some _ => if w.frozen? a then (.halt (.unsupported (.unsafePointer "a write to bytes that a string shares")) w, es) else k.runT p (w.setCell a v) (es.push ⟨.cell a, true, m == .atomic⟩)
    | none => match w.farStore p a v (m == .atomic) with
      | .ok (w, touched) => k.runT p w (es ++ touched.toArray.map (⟨.cell ·, true, m == .atomic⟩))
      | .error h => (.halt h w, es)) := by
  cases v <;> first | rfl | exact absurd rfl (h1 _) | exact absurd rfl (h2 _)

theorem run_lv {Q : α → Prop} {s : Sem α} (hs : Lv p Q s) : ∀ (w : World) (es : Array Event), Q1 Q (s.runT p w es).1 := by
  induction s with
  | pure a => exact fun w es => hs
  | load m a k ih =>
    intro w es
    simp only [Sem.runT]
    split
    · exact ih _ (hs _) _ _
    · split
      · exact ih _ (hs _) _ _
      · trivial
  | store m a v k ih =>
    intro w es
    by_cases h1 : ∃ c, v = .agg c
    · obtain ⟨c, rfl⟩ := h1; trivial
    by_cases h2 : ∃ c, v = .tuple c
    · obtain ⟨c, rfl⟩ := h2; trivial
    rw [store_runT m a k w es (fun c e => h1 ⟨c, e⟩) (fun c e => h2 ⟨c, e⟩)]
    split
    · split
      · trivial
      · exact ih hs (w.setCell a v) _
    · split
      · exact ih hs _ _
      · trivial
  | new o k ih => exact fun w es => ih w.heap.size (hs _) { w with heap := w.heap.push o } es
  | shape r k ih => exact fun w es => ih _ (hs _) _ _
  | freeze a n k ih => exact fun w es => ih hs _ _
  | frozen a k ih => exact fun w es => ih _ (hs _) _ _
  | getObj r k ih =>
    intro w es
    simp only [Sem.runT]
    split
    · trivial
    · exact ih _ (hs _) _ _
    · trivial
  | setObj r o k ih =>
    intro w es
    simp only [Sem.runT]
    split
    · trivial
    · exact ih hs _ _
    · trivial
  | choose q k ih =>
    intro w es
    simp only [Sem.runT]
    split
    · exact ih _ (hs _) _ _
    · exact ih (q.cut (w.tape w.drawn q)) (hs _) { w with drawn := w.drawn + 1 } es
  | sys c k ih => exact fun w es => ih _ (hs _) _ _
  | program k ih => exact fun w es => ih p hs _ _
  | mark m k ih => exact fun w es => ih hs _ _
  | halt h => exact fun w es => trivial
end

/-- where the run asks for a variable's start, it ends -/
def Set1 (P : Program) (w : World) (s : Sem Next) : Prop := ∀ g w', (s.runT P w #[]).1 = .halt (.unsupported (.initOrder g)) w' → ∀ fr cs, ∃ o, early P fr cs none g w' = .ended o w'

def Vl : Next → Prop
  | .value _ | .skip => True
  | _ => False
/-- a deferred call of a plain kind -/
def DOk (P : Program) (d : Deferred) : Prop := (∀ r, d.target ≠ .collected r) ∧ Lv P Vl (invoke d.target d.args)
def Cm (P : Program) (F : FuncId → Prop) : Next → Prop
  | .value _ | .skip | .spawn _ => True
  | .enter f _ => F f
  | .defer d => DOk P d
  | _ => False

section
variable (P : Program) (F : FuncId → Prop)
def OkO (o : Oper) : Prop := ∀ fr : Frame, Lv P (Cm P F) (execOp fr.eval o)
def okC : Code → Prop
  | .skip | .label _ | .exit _ | .goto _ | .ret | .refuse _ => True
  | .region _ ops _ => ∀ o ∈ ops, OkO P F o
  | .seq a b => okC a ∧ okC b
  | .cond _ a b => okC a ∧ okC b
  | .block _ b => okC b
  | .loop b => okC b
  | .scope b => okC b
  | .rangeFunc .. => False
def okIt : Item → Prop
  | .code c => okC P F c
  | .inBlock _ => True
  | .inLoop b => okC P F b
  | .inScope b => okC P F b
  | .inRegion ops _ => ∀ o ∈ ops, OkO P F o
  | _ => False
structure SetOk : Prop where
  code : ∀ f, F f → ∃ fn c, P.funcs[f]? = some fn ∧ fn.body = some c ∧ okC P F c
  inits : ∀ f, F f → P.inits.idxOf? f = none
structure OkF (fr : Frame) : Prop where
  kind : fr.kind = .normal
  round : fr.roundOf = none
  fn : F fr.fn
  defers : ∀ d ∈ fr.defers, DOk P d
  todo : ∀ x ∈ fr.todo, okIt P F x
end

/-- it dies of a fatal error, and has begun to say so -/
def Dy (g : Goroutine) : Prop := g.status = .running ∧ ∃ d f x rest, g.dying = some d ∧ d.calling = false ∧ d.fatal = some f ∧ f.pieces = x :: rest ∧ f.begun = false
def onG (cs : List Frame) (g : Goroutine) : Goroutine := { g with callers := g.callers ++ cs }
/-- the step is the same whoever stands below; or it ends the run, or the goroutine begins to die -/
def Ap (P : Program) (F : FuncId → Prop) (A : List Frame → GStep) (up : List Frame) : Prop :=
  (∃ g w es, A up = .go g w es ∧ Dy g) ∨ (∃ o w es, A up = .ended o w es) ∨
  (∃ g w es, A up = .go g w es ∧ (g.dying = none ∧ g.offers = none) ∧ OkF P F g.frame ∧ (∀ f ∈ g.callers, OkF P F f) ∧ ∀ cs, A (up ++ cs) = .go (onG cs g) w es) ∨
  (∃ g c w es, A up = .spawn g c w es ∧ (g.dying = none ∧ g.offers = none) ∧ OkF P F g.frame ∧ (∀ f ∈ g.callers, OkF P F f) ∧ ∀ cs, A (up ++ cs) = .spawn (onG cs g) c w es)

section
variable {P : Program} {F : FuncId → Prop} {A : List Frame → GStep} {up : List Frame} {w : World} {es : Array Event}
theorem Ap.go' {g : Goroutine} (h : A up = .go g w es) (hd : g.dying = none ∧ g.offers = none) (hf : OkF P F g.frame) (hu : ∀ f ∈ g.callers, OkF P F f) (hs : ∀ cs, A (up ++ cs) = .go (onG cs g) w es) : Ap P F A up := .inr (.inr (.inl ⟨g, w, es, h, hd, hf, hu, hs⟩))
theorem Ap.end' {o : Outcome} (h : A up = .ended o w es) : Ap P F A up := .inr (.inl ⟨o, w, es, h⟩)
/-- a step of the frame alone -/
theorem Ap.to {fr : Frame} {st : GoStatus} (hf : OkF P F fr) (hu : ∀ f ∈ up, OkF P F f) (h : ∀ cs, A cs = .go { frame := fr, callers := cs, status := st, dying := none } w es) : Ap P F A up :=
  .go' (h up) ⟨rfl, rfl⟩ hf hu fun cs => by rw [h]; rfl

theorem mem_exitTo {id : Nat} {R : Item → Prop} : ∀ {k k' : List Item}, (∀ x ∈ k, R x) → exitTo id k = some k' → ∀ x ∈ k', R x := by
  intro k
  induction k with
  | nil => intro k' _ h; simp [exitTo] at h
  | cons y k ih =>
    intro k' ha h
    have ha' : ∀ x ∈ k, R x := fun x hx => ha x (List.mem_cons_of_mem _ hx)
    cases y <;> simp only [exitTo] at h <;> first
      | exact ih ha' h
      | (split at h
         · cases h; exact ha'
         · exact ih ha' h)
theorem ok_findLabel : ∀ (c : Code) (l : Nat) (r : Code), okC P F c → findLabel c l = some r → okC P F r := by
  intro c
  induction c with
  | seq a b iha ihb =>
    intro l r hc h
    simp only [okC] at hc
    simp only [findLabel] at h
    split at h
    · rename_i rest hr
      cases h
      exact ⟨iha _ _ hc.1 hr, hc.2⟩
    · exact ihb _ _ hc.2 h
  | label l' =>
    intro l r hc h
    simp only [findLabel] at h
    split at h
    · cases h; trivial
    · cases h
  | _ => intro l r hc h; simp [findLabel] at h
theorem mem_gotoIn {l : Nat} : ∀ {k k' : List Item}, (∀ x ∈ k, okIt P F x) → gotoIn l k = some k' → ∀ x ∈ k', okIt P F x := by
  intro k
  induction k with
  | nil => intro k' _ h; simp [gotoIn] at h
  | cons y k ih =>
    intro k' ha h
    have ha' : ∀ x ∈ k, okIt P F x := fun x hx => ha x (List.mem_cons_of_mem _ hx)
    cases y <;> simp only [gotoIn] at h <;> first
      | exact ih ha' h
      | (split at h
         · rename_i rest hr
           cases h
           intro x hx
           rcases List.mem_cons.1 hx with rfl | hx
           · exact ok_findLabel _ _ _ (ha _ (List.mem_cons_self ..)) hr
           · exact ha x hx
         · exact ih ha' h)
theorem ok_finish {fr : Frame} (h : OkF P F fr) (v : Value) : OkF P F (fr.finish v) := by
  obtain ⟨fn, tmps, todo, defers, mode, kind, roundOf⟩ := fr
  obtain ⟨h1, h2, h3, h4, h5⟩ := h
  cases todo with
  | nil => exact ⟨h1, h2, h3, h4, h5⟩
  | cons x k =>
    have hx := h5 x (List.mem_cons_self ..)
    have hk : ∀ y ∈ k, okIt P F y := fun y hy => h5 y (List.mem_cons_of_mem _ hy)
    cases x with
    | inRegion ops l =>
      cases l with
      | nil => exact ⟨h1, h2, h3, h4, h5⟩
      | cons i rest =>
        refine ⟨h1, h2, h3, h4, fun y hy => ?_⟩
        rcases List.mem_cons.1 hy with rfl | hy
        · exact hx
        · exact hk y hy
    | inRangeFunc l => exact hx.elim
    | endRangeFunc l => exact hx.elim
    | beginRound => exact hx.elim
    | call _ _ _ _ => exact hx.elim
    | extern _ _ => exact hx.elim
    | _ => exact ⟨h1, h2, h3, h4, h5⟩
theorem ok_raise {fr : Frame} (h : OkF P F fr) (ch : List PanicEntry) : OkF P F (fr.raise ch) := by
  obtain ⟨fn, tmps, todo, defers, mode, kind, roundOf⟩ := fr
  obtain ⟨h1, h2, h3, h4, h5⟩ := h
  cases mode <;> exact ⟨h1, h2, h3, h4, h5⟩
theorem ok_enter (hF : SetOk P F) {f : FuncId} (h : F f) (args : Array Value) : OkF P F (Frame.enter P f args .normal) := by
  obtain ⟨fn, c, h1, h2, h3⟩ := hF.code f h
  refine ⟨rfl, rfl, h, by simp [Frame.enter], fun x hx => ?_⟩
  simp [Frame.enter, h1, h2] at hx
  subst hx
  exact h3

theorem dieOf_ap (fr : Frame) (l : List ByteArray) (m : String) (b : Bool) (w : World) : ∃ g, dieOf fr l m b w = .go g w #[] ∧ Dy g := by
  cases l with
  | nil => exact ⟨_, rfl, rfl, _, _, _, _, rfl, rfl, rfl, rfl, rfl⟩
  | cons x l => exact ⟨_, rfl, rfl, _, _, _, _, rfl, rfl, rfl, rfl, rfl⟩
theorem endFatal_ap (fr : Frame) (cs : List Frame) (m : String) (w : World) : (∃ g w' es, endFatal P fr cs none m w = .go g w' es ∧ Dy g) ∨ ∃ o w' es, endFatal P fr cs none m w = .ended o w' es := by
  unfold endFatal
  simp only
  split
  · obtain ⟨g, h1, h2⟩ := dieOf_ap fr _ m true _
    exact .inl ⟨_, _, _, h1, h2⟩
  · exact .inr ⟨_, _, _, rfl⟩
  · exact .inr ⟨_, _, _, rfl⟩

/-- AN OPERATION -/
theorem apply_ap (hF : SetOk P F) {fr : Frame} (h : OkF P F fr) {ops : Array Oper} {l : List Nat} {k : List Item} (ht : fr.todo = .inRegion ops l :: k) (hu : ∀ f ∈ up, OkF P F f)
    {s : Sem Next} (hs : Lv P (Cm P F) s) (hi : Set1 P w s) : Ap P F (fun cs => stepG.apply P true fr cs none s w) up := by
  have hl := run_lv hs w #[]
  have hk : (fr.kind == CallKind.early) = false := by rw [h.kind]; rfl
  cases hr : s.runT P w #[] with
  | mk r es =>
    rw [hr] at hl
    have hi' := hi
    unfold Set1 at hi'
    rw [hr] at hi'
    cases r with
    | ok a w' =>
      simp only [Q1] at hl
      cases a with
      | value v => exact .to (fr := fr.finish v) (st := .running) (w := w') (es := seen P fr.fn es ++ #[]) (ok_finish h v) hu fun cs => by simp only [stepG.apply, ↓reduceIte, hr, hk, Bool.false_eq_true, GStep.after]
      | skip => exact .to (fr := fr.finish undef) (st := .running) (w := w') (es := seen P fr.fn es ++ #[]) (ok_finish h undef) hu fun cs => by simp only [stepG.apply, ↓reduceIte, hr, hk, Bool.false_eq_true, GStep.after]
      | enter f args =>
        refine .go' (w := w') (es := seen P fr.fn es ++ #[]) (g := { frame := Frame.enter P f args .normal, callers := fr :: up, status := .running, dying := none }) (by simp only [stepG.apply, ↓reduceIte, hr, hk, Bool.false_eq_true, GStep.after, ht]) ⟨rfl, rfl⟩ (ok_enter hF hl args) ?_ (fun cs => by simp only [stepG.apply, ↓reduceIte, hr, hk, Bool.false_eq_true, GStep.after, ht, onG, List.cons_append])
        intro f hf
        rcases List.mem_cons.1 hf with rfl | hf
        · exact h
        · exact hu f hf
      | defer d =>
        have h' : OkF P F { fr with defers := d :: fr.defers } := ⟨h.kind, h.round, h.fn, fun x hx => by
          rcases List.mem_cons.1 hx with rfl | hx
          · exact hl
          · exact h.defers x hx, h.todo⟩
        exact .to (fr := ({ fr with defers := d :: fr.defers } : Frame).finish undef) (st := .running) (w := w') (es := seen P fr.fn es ++ #[]) (ok_finish h' undef) hu fun cs => by simp only [stepG.apply, ↓reduceIte, hr, hk, Bool.false_eq_true, GStep.after]
      | spawn d =>
        generalize hA : (fun cs => stepG.apply P true fr cs none s w) = A
        have hA' : ∀ cs, A cs = stepG.apply P true fr cs none s w := fun cs => by rw [← hA]
        simp only [stepG.apply, ↓reduceIte, hr, hk, Bool.false_eq_true] at hA'
        have two : ∀ c : Bool, (∀ cs, A cs = GStep.after (seen P fr.fn es) (if c = true then endThrow fr "go of nil func value" w' else .spawn { frame := fr.finish undef, callers := cs, status := .running, dying := none } { frame := { (default : Frame) with fn := P.funcs.size, defers := [d], mode := .panicking [goexitEntry] }, callers := [], status := .running, dying := none } w')) → Ap P F A up := by
          intro c hc
          cases c with
          | true =>
            obtain ⟨g, h1, h2⟩ := dieOf_ap fr [] "go of nil func value" false w'
            exact .inl ⟨g, w', _, by rw [hc up]; simp only [↓reduceIte, endThrow, h1, GStep.after]; rfl, h2⟩
          | false => exact .inr (.inr (.inr ⟨_, _, _, _, hc up, ⟨rfl, rfl⟩, ok_finish h undef, hu, fun cs => by rw [hc]; rfl⟩))
        split at hA' <;> exact two _ hA'
      | _ => exact hl.elim
    | halt x w' =>
      cases x with
      | panic v => exact .to (fr := fr.raise [{ v, recovered := false }]) (st := .running) (w := w') (es := seen P fr.fn es ++ #[]) (ok_raise h _) hu fun cs => by simp only [stepG.apply, ↓reduceIte, hr, hk, Bool.false_eq_true, GStep.after]
      | goexit => exact .to (fr := fr.raise [goexitEntry]) (st := .running) (w := w') (es := seen P fr.fn es ++ #[]) (ok_raise h _) hu fun cs => by simp only [stepG.apply, ↓reduceIte, hr, hk, Bool.false_eq_true, GStep.after]
      | blocked => exact .to (fr := fr) (st := .blocked) (w := w') (es := seen P fr.fn #[] ++ #[]) h hu fun cs => by simp only [stepG.apply, ↓reduceIte, hr, hk, Bool.false_eq_true, GStep.after]
      | waiting => exact .to (fr := fr) (st := .waiting) (w := w') (es := seen P fr.fn #[] ++ #[]) h hu fun cs => by simp only [stepG.apply, ↓reduceIte, hr, hk, Bool.false_eq_true, GStep.after]
      | exit c => exact .inr (.inl ⟨_, _, _, by simp only [stepG.apply, ↓reduceIte, hr, hk, Bool.false_eq_true, GStep.after]; rfl⟩)
      | fatal m =>
        rcases endFatal_ap (P := P) fr up m w' with ⟨g, w₂, e₂, hg, hd⟩ | ⟨o, w₂, e₂, hg⟩
        · exact .inl ⟨g, w₂, _, by simp only [stepG.apply, ↓reduceIte, hr, hk, Bool.false_eq_true, hg, GStep.after]; rfl, hd⟩
        · exact .inr (.inl ⟨o, w₂, _, by simp only [stepG.apply, ↓reduceIte, hr, hk, Bool.false_eq_true, hg, GStep.after]; rfl⟩)
      | throw m =>
        obtain ⟨g, hg, hd⟩ := dieOf_ap fr [] m false w'
        exact .inl ⟨g, w', _, by simp only [stepG.apply, ↓reduceIte, hr, hk, Bool.false_eq_true, endThrow, hg, GStep.after]; rfl, hd⟩
      | unsupported u =>
        cases u with
        | initOrder g =>
          obtain ⟨o, ho⟩ := hi' g w' rfl fr up
          exact .inr (.inl ⟨_, _, _, by simp only [stepG.apply, ↓reduceIte, hr, hk, Bool.false_eq_true, ho, GStep.after]; rfl⟩)
        | _ => exact .inr (.inl ⟨_, _, _, by simp only [stepG.apply, ↓reduceIte, hr, hk, Bool.false_eq_true, GStep.after]; rfl⟩)
      | stuck s => exact .inr (.inl ⟨_, _, _, by simp only [stepG.apply, ↓reduceIte, hr, hk, Bool.false_eq_true, GStep.after]; rfl⟩)
end
end Go.Proofs.Ytghglpcfpokmhaa.Ct

set_option linter.unusedVariables false
set_option linter.unusedSimpArgs false
namespace Go.Proofs.Ytghglpcfpokmhaa.Ct
open Go Go.Conc
variable {P : Program} {F : FuncId → Prop} {up : List Frame} {w : World}

theorem callDeferred_ap {fr : Frame} {d : Deferred} (h : OkF P F fr) (hd : DOk P d) (hu : ∀ f ∈ up, OkF P F f) : Ap P F (fun cs => callDeferred P fr cs none d w) up := by
  have hl := run_lv hd.2 w #[]
  have h' : OkF P F { fr with defers := d :: fr.defers } := ⟨h.kind, h.round, h.fn, fun x hx => by
    rcases List.mem_cons.1 hx with rfl | hx
    · exact hd
    · exact h.defers x hx, h.todo⟩
  generalize hA : (fun cs => callDeferred P fr cs none d w) = A
  have hA' : ∀ cs, A cs = callDeferred P fr cs none d w := fun cs => by rw [← hA]
  cases hr : (invoke d.target d.args).runT P w #[] with
  | mk r es =>
    rw [hr] at hl
    unfold callDeferred at hA'
    simp only [hr] at hA'
    have gen : ∀ (c : Bool) (B : List Frame → GStep), (∀ cs, A cs = if c = true then GStep.ended (.unsupported (.noEntry "machine/Return: a deferred call of a nil function value, made while the frame is unwinding") (fr.pos P)) w else B cs) → ((∀ cs, A cs = B cs) → Ap P F A up) → Ap P F A up := by
      intro c B hc hx
      cases c with
      | true => exact .inr (.inl ⟨_, _, _, hc up⟩)
      | false => exact hx fun cs => by rw [hc cs]; rfl
    have fin : ∀ (B : List Frame → GStep), (∀ cs, A cs = B cs) → Ap P F B up → Ap P F A up := fun B hB hx => by
      have : A = B := funext hB
      rw [this]; exact hx
    refine gen _ _ hA' fun hB => fin _ hB ?_
    cases r with
    | ok a w' =>
      simp only [Q1] at hl
      cases a with
      | value v => exact .to (fr := fr) (st := .running) (w := w') (es := seen P fr.fn es ++ #[]) h hu fun cs => by simp only [GStep.after]
      | skip => exact .to (fr := fr) (st := .running) (w := w') (es := seen P fr.fn es ++ #[]) h hu fun cs => by simp only [GStep.after]
      | _ => exact hl.elim
    | halt x w' =>
      cases x with
      | panic v => exact .to (fr := fr.raise [{ v, recovered := false }]) (st := .running) (w := w') (es := seen P fr.fn es ++ #[]) (ok_raise h _) hu fun cs => by simp only [GStep.after]
      | goexit => exact .to (fr := fr.raise [goexitEntry]) (st := .running) (w := w') (es := seen P fr.fn es ++ #[]) (ok_raise h _) hu fun cs => by simp only [GStep.after]
      | blocked => exact .to (fr := { fr with defers := d :: fr.defers }) (st := .blocked) (w := w') (es := seen P fr.fn #[] ++ #[]) h' hu fun cs => by simp only [GStep.after]
      | waiting => exact .to (fr := { fr with defers := d :: fr.defers }) (st := .waiting) (w := w') (es := seen P fr.fn #[] ++ #[]) h' hu fun cs => by simp only [GStep.after]
      | exit c => exact .inr (.inl ⟨_, _, _, rfl⟩)
      | fatal m =>
        rcases endFatal_ap (P := P) fr up m w' with ⟨g, w₂, e₂, hg, hd⟩ | ⟨o, w₂, e₂, hg⟩
        · exact .inl ⟨g, w₂, _, by simp only [hg, GStep.after]; rfl, hd⟩
        · exact .inr (.inl ⟨o, w₂, _, by simp only [hg, GStep.after]; rfl⟩)
      | throw m =>
        obtain ⟨g, hg, hd⟩ := dieOf_ap fr [] m false w'
        exact .inl ⟨g, w', _, by simp only [endThrow, hg, GStep.after]; rfl, hd⟩
      | unsupported u => exact .inr (.inl ⟨_, _, _, rfl⟩)
      | stuck s => exact .inr (.inl ⟨_, _, _, rfl⟩)

/-- EVERY STEP: it is the same whoever stands below. -/
theorem step_ap (hF : SetOk P F) {fr : Frame} (h : OkF P F fr) (hu : ∀ f ∈ up, OkF P F f) (hset : ∀ s, Lv P (Cm P F) s → Set1 P w s) (hpan : up = [] → fr.defers = [] → ∀ ch, fr.mode ≠ .panicking ch) :
    Ap P F (fun cs => stepG P true (G fr cs) w) up := by
  have hOk := h
  obtain ⟨fn, tmps, todo, defers, mode, kind, roundOf⟩ := fr
  obtain ⟨h1, h2, h3, h4, h5⟩ := h
  simp only at h1 h2 h3 h4 h5 hpan
  subst h1 h2
  obtain ⟨fn', c', hfn, _, _⟩ := hF.code fn h3
  cases mode with
  | run =>
    have to : ∀ todo', (∀ x ∈ todo', okIt P F x) → (∀ cs, stepG P true (G ⟨fn, tmps, todo, defers, .run, .normal, none⟩ cs) w = .go (G ⟨fn, tmps, todo', defers, .run, .normal, none⟩ cs) w #[]) →
        Ap P F (fun cs => stepG P true (G ⟨fn, tmps, todo, defers, .run, .normal, none⟩ cs) w) up :=
      fun todo' ha hs => .to (fr := ⟨fn, tmps, todo', defers, .run, .normal, none⟩) (st := .running) ⟨rfl, rfl, h3, h4, ha⟩ hu hs
    cases todo with
    | nil => exact .to (fr := ⟨fn, tmps, [], defers, .returning, .normal, none⟩) (st := .running) (w := w) (es := #[]) ⟨rfl, rfl, h3, h4, h5⟩ hu fun cs => by simp [G, stepG, stepG.exec]
    | cons x k =>
      have hx := h5 x (List.mem_cons_self ..)
      have hk : ∀ y ∈ k, okIt P F y := fun y hy => h5 y (List.mem_cons_of_mem _ hy)
      have one : ∀ {a : Item}, okIt P F a → ∀ y ∈ a :: k, okIt P F y := fun ha y hy => by
        rcases List.mem_cons.1 hy with rfl | hy
        · exact ha
        · exact hk y hy
      have both : ∀ {a b : Item}, okIt P F a → okIt P F b → ∀ y ∈ a :: b :: k, okIt P F y := fun ha hb y hy => by
        rcases List.mem_cons.1 hy with rfl | hy
        · exact ha
        · exact one hb y hy
      cases x with
      | code c =>
        cases c with
        | skip => exact to k hk (fun cs => by simp [G, stepG, stepG.exec])
        | label l => exact to k hk (fun cs => by simp [G, stepG, stepG.exec])
        | ret => exact .to (fr := ⟨fn, tmps, .code .ret :: k, defers, .returning, .normal, none⟩) (st := .running) (w := w) (es := #[]) ⟨rfl, rfl, h3, h4, h5⟩ hu fun cs => by simp [G, stepG, stepG.exec]
        | seq a b => exact to (.code a :: .code b :: k) (both (a := .code a) (b := .code b) hx.1 hx.2) (fun cs => by simp [G, stepG, stepG.exec])
        | block id b => exact to (.code b :: .inBlock id :: k) (both (a := .code b) (b := .inBlock id) hx trivial) (fun cs => by simp [G, stepG, stepG.exec])
        | loop b => exact to (.code b :: .inLoop b :: k) (both (a := .code b) (b := .inLoop b) hx hx) (fun cs => by simp [G, stepG, stepG.exec])
        | scope b => exact to (.code b :: .inScope b :: k) (both (a := .code b) (b := .inScope b) hx hx) (fun cs => by simp [G, stepG, stepG.exec])
        | cond c a b =>
          by_cases hv : ∃ t, (⟨fn, tmps, .code (.cond c a b) :: k, defers, .run, .normal, none⟩ : Frame).eval c = .bool t
          · obtain ⟨t, hv⟩ := hv
            exact to (.code (if t then a else b) :: k) (one (a := .code (if t then a else b)) (by cases t; exact hx.2; exact hx.1)) (fun cs => by simp [G, stepG, stepG.exec, hv])
          · refine .inr (.inl ?_)
            simp only [G, stepG, stepG.exec]
            split
            · rename_i t hv'; exact absurd ⟨t, hv'⟩ hv
            · exact ⟨_, _, _, rfl⟩
        | exit id =>
          cases he : exitTo id k with
          | some k' => exact to k' (mem_exitTo hk he) (fun cs => by simp [G, stepG, stepG.exec, he])
          | none => exact .inr (.inl (by simp only [G, stepG, stepG.exec, he, Option.elim]; exact ⟨_, _, _, rfl⟩))
        | goto l =>
          cases he : gotoIn l k with
          | some k' => exact to k' (mem_gotoIn hk he) (fun cs => by simp [G, stepG, stepG.exec, he])
          | none => exact .inr (.inl (by simp only [G, stepG, stepG.exec, he, Option.elim]; exact ⟨_, _, _, rfl⟩))
        | region id ops draw =>
          cases draw with
          | false => exact to (.inRegion ops (List.range ops.size) :: k) (one (a := .inRegion ops (List.range ops.size)) hx) (fun cs => by simp [G, stepG, stepG.exec])
          | true =>
            cases hc : (choose (.order fn id)).run P w with
            | ok t w' => exact .to (fr := ⟨fn, tmps, .inRegion ops (Region.schedule (P.follows .mixedOrders) ops t) :: k, defers, .run, .normal, none⟩) (st := .running) (w := w') (es := #[]) ⟨rfl, rfl, h3, h4, one (a := .inRegion ops _) hx⟩ hu fun cs => by simp [G, stepG, stepG.exec, hc]
            | halt x w' => exact .inr (.inl (by simp only [G, stepG, stepG.exec, Bool.not_true, Bool.false_eq_true, ↓reduceIte, hc]; exact ⟨_, _, _, rfl⟩))
        | rangeFunc f a b c => exact hx.elim
        | refuse s => exact .inr (.inl ⟨_, _, _, rfl⟩)
      | inBlock id => exact to k hk (fun cs => by simp [G, stepG, stepG.exec])
      | inScope b => exact to k hk (fun cs => by simp [G, stepG, stepG.exec])
      | inLoop b => exact to (.code b :: .inLoop b :: k) (both (a := .code b) (b := .inLoop b) hx hx) (fun cs => by simp [G, stepG, stepG.exec])
      | inRegion ops l =>
        cases l with
        | nil => exact to k hk (fun cs => by simp [G, stepG, stepG.exec])
        | cons i rest =>
          by_cases hw : ((ops[i]?).map (Region.wanted · (yielded ops tmps))).getD false = true
          · cases ho : ops[i]? with
            | none => rw [ho] at hw; cases hw
            | some o =>
              have hoo : OkO P F o := hx o (Array.mem_of_getElem? ho)
              have hlv := hoo ⟨fn, tmps, .inRegion ops (i :: rest) :: k, defers, .run, .normal, none⟩
              have := apply_ap (up := up) (w := w) hF hOk rfl hu hlv (hset _ hlv)
              rw [ho] at hw
              simp only [Option.map_some, Option.getD_some] at hw
              have e : (fun cs => stepG P true (G ⟨fn, tmps, .inRegion ops (i :: rest) :: k, defers, .run, .normal, none⟩ cs) w) = fun cs => stepG.apply P true ⟨fn, tmps, .inRegion ops (i :: rest) :: k, defers, .run, .normal, none⟩ cs none (execOp (⟨fn, tmps, .inRegion ops (i :: rest) :: k, defers, .run, .normal, none⟩ : Frame).eval o) w := funext fun cs => by
                simp [G, stepG, stepG.exec, stepG.oper, Frame.oper?, ho, hw]
              rw [e]
              exact this
          · exact .to (st := .running) (w := w) (es := #[]) (ok_finish hOk undef) hu fun cs => by simp [G, stepG, stepG.exec, hw]
      | inRangeFunc l => exact hx.elim
      | endRangeFunc l => exact hx.elim
      | beginRound => exact hx.elim
      | call a b c d => exact hx.elim
      | extern a b => exact hx.elim
  | returning =>
    cases defers with
    | cons d ds =>
      have hd := h4 d (List.mem_cons_self ..)
      have h' : OkF P F ⟨fn, tmps, todo, ds, .returning, .normal, none⟩ := ⟨rfl, rfl, h3, fun x hx => h4 x (List.mem_cons_of_mem _ hx), h5⟩
      have e : (fun cs => stepG P true (G ⟨fn, tmps, todo, d :: ds, .returning, .normal, none⟩ cs) w) = fun cs => callDeferred P ⟨fn, tmps, todo, ds, .returning, .normal, none⟩ cs none d w := funext fun cs => by
        obtain ⟨t, a⟩ := d
        cases t <;> first | rfl | exact absurd rfl (hd.1 _)
      rw [e]
      exact callDeferred_ap h' hd hu
    | nil =>
      cases hr : (results fn' tmps).runT P w #[] with
      | mk r es =>
        cases r with
        | ok v w' =>
          cases up with
          | nil => exact .inr (.inl (by simp only [G, stepG, unwind, hfn, hr, doReturn, hF.inits fn h3, Bool.not_true, Bool.false_eq_true, ↓reduceIte, GStep.after]; exact ⟨_, _, _, rfl⟩))
          | cons c up =>
            have hc := hu c (List.mem_cons_self ..)
            exact .go' (g := { frame := c.finish v, callers := up, status := .running, dying := none }) (w := w') (es := seen P fn es ++ #[]) (by simp only [G, stepG, unwind, hfn, hr, doReturn, GStep.after]) ⟨rfl, rfl⟩ (ok_finish hc v) (fun f hf => hu f (List.mem_cons_of_mem _ hf)) fun cs => by simp only [G, stepG, unwind, hfn, hr, doReturn, GStep.after, List.cons_append, onG]
        | halt x w' => exact .inr (.inl (by cases x <;> (simp only [G, stepG, unwind, hfn, hr, GStep.after]; exact ⟨_, _, _, rfl⟩)))
  | panicking ch =>
    cases defers with
    | cons d ds =>
      have hd := h4 d (List.mem_cons_self ..)
      have h' : OkF P F ⟨fn, tmps, todo, ds, .panicking ch, .normal, none⟩ := ⟨rfl, rfl, h3, fun x hx => h4 x (List.mem_cons_of_mem _ hx), h5⟩
      have e : (fun cs => stepG P true (G ⟨fn, tmps, todo, d :: ds, .panicking ch, .normal, none⟩ cs) w) = fun cs => callDeferred P ⟨fn, tmps, todo, ds, .panicking ch, .normal, none⟩ cs none d w := funext fun cs => by
        obtain ⟨t, a⟩ := d
        cases t <;> first | rfl | exact absurd rfl (hd.1 _)
      rw [e]
      exact callDeferred_ap h' hd hu
    | nil =>
      cases up with
      | nil => exact absurd rfl (hpan rfl rfl ch)
      | cons c up =>
        have hc := hu c (List.mem_cons_self ..)
        exact .go' (g := { frame := c.raise ch, callers := up, status := .running, dying := none }) (w := w) (es := #[]) (by simp [G, stepG, unwind, Frame.catches, hfn]) ⟨rfl, rfl⟩ (ok_raise hc ch) (fun f hf => hu f (List.mem_cons_of_mem _ hf)) fun cs => by simp [G, stepG, unwind, Frame.catches, hfn, onG]
end Go.Proofs.Ytghglpcfpokmhaa.Ct
