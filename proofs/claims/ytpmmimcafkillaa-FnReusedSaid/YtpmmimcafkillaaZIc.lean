/-
  Sets of functions of ordinary code, and the steps of their frames, in the world and where blocks are emptied. It names no program; no conditions.
  Every step of an ordinary frame moves it or halts the run. It names no program; no conditions.
-/
import Derived.Test.YtpmmimcafkillaaZIa
set_option linter.unusedVariables false
set_option linter.unusedSimpArgs false
namespace Go.Proofs.Ytpmmimcafkillaa.Br
open Go Go.Conc
variable {P : Program} {Z : Sig}

def okC (ok : Oper → Bool) : Code → Bool
  | .skip | .label _ | .exit _ | .goto _ | .ret => true
  | .region _ ops _ => ops.toList.all ok
  | .seq a b => okC ok a && okC ok b
  | .cond _ a b => okC ok a && okC ok b
  | .block _ b => okC ok b
  | .loop b => okC ok b
  | .scope b => okC ok b
  | .rangeFunc .. | .refuse _ => false
def okIt (ok : Oper → Bool) : Item → Bool
  | .code c => okC ok c
  | .inBlock _ => true
  | .inLoop b => okC ok b
  | .inScope b => okC ok b
  | .inRegion ops _ => ops.toList.all ok
  | _ => false

/-- The functions of the set have Go bodies of ordinary code. -/
structure SetOk (P : Program) (Z : Sig) : Prop where
  bodied : Bodied P Z.F
  code : ∀ f fn c, Z.F f = true → P.funcs[f]? = some fn → fn.body = some c → okC (okOp Z P (Z.K f)) c = true
  late : ∀ g, P.globals.size ≤ g → P.stepOf g = none
  ahead : P.follows .staticDataAhead = true

structure OkF (P : Program) (Z : Sig) (fr : Frame) : Prop where
  defers : fr.defers = []
  kind : fr.kind = .normal
  round : fr.roundOf = none
  fn : ∃ fn, P.funcs[fr.fn]? = some fn
  todo : fr.todo.all (okIt (okOp Z P (Z.K fr.fn))) = true
  ks : ∀ s ∈ Z.K fr.fn, ∀ v, fr.tmps[s]? = some v → Fv Z v
/-- it waits for what a call hands back, and lays it into no slot of the function value's -/
def AtCall (Z : Sig) (fr : Frame) : Prop := ∃ ops i rest k, fr.todo = .inRegion ops (i :: rest) :: k ∧ ∀ d, (ops[i]?).bind (·.dst) = some d → d ∉ Z.K fr.fn
def UpOk (P : Program) (Z : Sig) (f : Frame) : Prop := OkF P Z f ∧ f.mode = .run ∧ AtCall Z f

def GC (P : Program) (w : World) : Prop := ∀ g, g < P.globals.size → CellsAt w g

theorem rt_self (w : World) : rt w.tape w.drawn w = w := rfl
theorem Hid.rt {S : Nat → Prop} {w W : World} (h : Hid S w W) (T : Nat → Question → Nat) (d : Nat) : Hid S (Br.rt T d w) (Br.rt T d W) := ⟨rfl, rfl, h.os, h.output, h.size, h.out, h.inn⟩

/-- more to do behind all that the lowest frame has to do -/
def ex (k : List Item) (fr : Frame) : Frame := { fr with todo := fr.todo ++ k }
def bot (k : List Item) : Frame → List Frame → Frame × List Frame
  | fr, [] => (ex k fr, [])
  | fr, c :: up => (fr, (bot k c up).1 :: (bot k c up).2)
theorem ex_nil (fr : Frame) : ex [] fr = fr := by unfold ex; rw [List.append_nil]
theorem bot_nil : ∀ (fr : Frame) (up : List Frame), bot [] fr up = (fr, up)
  | fr, [] => by simp [bot, ex_nil]
  | fr, c :: up => by simp [bot, bot_nil c up]
/-- the lowest frame may have more to do: it is not the one that ends with this step -/
def More (k : List Item) (fr : Frame) (up : List Frame) : Prop := k = [] ∨ up ≠ [] ∨ (fr.mode = .run ∧ fr.todo ≠ [])

/-- ONE STEP OF AN ORDINARY FRAME, ON WHATEVER TAPE, WHOEVER STANDS BELOW, and the same where blocks are emptied. -/
structure Moves (P : Program) (Z : Sig) (fr : Frame) (up : List Frame) (w : World) (fr' : Frame) (up' : List Frame) (w' : World) (es : Array Event) : Prop where
  ok : OkF P Z fr'
  ups : ∀ f ∈ up', UpOk P Z f
  gc : GC P w'
  grows : w.drawn ≤ w'.drawn
  tape : w'.tape = w.tape
  evs : ∀ e ∈ es, EvZ e
  left : ∀ b, b < w.heap.size → Pz w' b → Pz w b
  size : w.heap.size ≤ w'.heap.size
  sameK : ∀ (cs : List Frame) (q : List Item) (T : Nat → Question → Nat) (d : Nat), More q fr up → (∀ k, w.drawn + k < w'.drawn → T (d + k) = w.tape (w.drawn + k)) →
    stepG P true (G (bot q fr up).1 ((bot q fr up).2 ++ cs)) (rt T d w) = .go (G (bot q fr' up').1 ((bot q fr' up').2 ++ cs)) (rt T (d + (w'.drawn - w.drawn)) w') es
  hidK : ∀ (S : Nat → Prop) (W : World), Hid S w W → Lost S w' ∨ ∃ W', Hid S w' W' ∧ (∀ e ∈ es, EvS S e) ∧ ∀ (cs : List Frame) (q : List Item) (T : Nat → Question → Nat) (d : Nat), More q fr up → (∀ k, w.drawn + k < w'.drawn → T (d + k) = w.tape (w.drawn + k)) →
    stepG P true (G (bot q fr up).1 ((bot q fr up).2 ++ cs)) (rt T d W) = .go (G (bot q fr' up').1 ((bot q fr' up').2 ++ cs)) (rt T (d + (w'.drawn - w.drawn)) W') es
theorem Moves.same {fr fr' : Frame} {up up' : List Frame} {w w' : World} {es : Array Event} (h : Moves P Z fr up w fr' up' w' es) (cs : List Frame) (T : Nat → Question → Nat) (d : Nat) (ha : ∀ k, w.drawn + k < w'.drawn → T (d + k) = w.tape (w.drawn + k)) :
    stepG P true (G fr (up ++ cs)) (rt T d w) = .go (G fr' (up' ++ cs)) (rt T (d + (w'.drawn - w.drawn)) w') es := by
  have := h.sameK cs [] T d (.inl rfl) ha
  rwa [bot_nil, bot_nil] at this
/-- a step that leaves the lowest frame's end alone -/
theorem bot_step {fr fr' : Frame} {up : List Frame} {es : Array Event} {v v' : World} {q : List Item} (hm : More q fr up) (hs : ∀ q cs, (q = [] ∨ (fr.mode = .run ∧ fr.todo ≠ [])) → stepG P true (G (ex q fr) cs) v = .go (G (ex q fr') cs) v' es) (cs : List Frame) :
    stepG P true (G (bot q fr up).1 ((bot q fr up).2 ++ cs)) v = .go (G (bot q fr' up).1 ((bot q fr' up).2 ++ cs)) v' es := by
  cases up with
  | nil =>
    refine hs q cs ?_
    rcases hm with h | h | h
    · exact .inl h
    · exact absurd rfl h
    · exact .inr h
  | cons c up =>
    have := hs [] ((bot q fr (c :: up)).2 ++ cs) (.inl rfl)
    rw [ex_nil, ex_nil] at this
    exact this

def Halts (P : Program) (fr : Frame) (up : List Frame) (w : World) : Prop := ∀ (cs : List Frame), ∃ o w' es, stepG P true (G fr (up ++ cs)) w = .ended o w' es

/-- A move of control. -/
theorem moves_to {fr fr' : Frame} {up : List Frame} {w : World} (h : OkF P Z fr') (hu : ∀ f ∈ up, UpOk P Z f) (hg : GC P w) (hs : ∀ q cs v, (q = [] ∨ (fr.mode = .run ∧ fr.todo ≠ [])) → stepG P true (G (ex q fr) cs) v = .go (G (ex q fr') cs) v #[]) : Moves P Z fr up w fr' up w #[] :=
  ⟨h, hu, hg, Nat.le_refl _, rfl, by simp, fun _ _ h => h, Nat.le_refl _, fun cs q T d hm _ => by rw [Nat.sub_self, Nat.add_zero]; exact bot_step hm (fun q cs hq => hs q cs _ hq) cs, fun S W hh => .inr ⟨W, hh, by simp, fun cs q T d hm _ => by rw [Nat.sub_self, Nat.add_zero]; exact bot_step hm (fun q cs hq => hs q cs _ hq) cs⟩⟩

theorem exitTo_app {id : Nat} {q : List Item} : ∀ {k k' : List Item}, exitTo id k = some k' → exitTo id (k ++ q) = some (k' ++ q) := by
  intro k
  induction k with
  | nil => intro k' h; simp [exitTo] at h
  | cons x k ih =>
    intro k' h
    cases x <;> simp only [exitTo, List.cons_append] at h ⊢ <;> first
      | exact ih h
      | (split at h
         · rename_i hc; cases h; rw [if_pos hc]
         · rename_i hc; rw [if_neg hc]; exact ih h)
theorem gotoIn_app {l : Nat} {q : List Item} : ∀ {k k' : List Item}, gotoIn l k = some k' → gotoIn l (k ++ q) = some (k' ++ q) := by
  intro k
  induction k with
  | nil => intro k' h; simp [gotoIn] at h
  | cons x k ih =>
    intro k' h
    cases x with
    | inScope b =>
      simp only [gotoIn, List.cons_append] at h ⊢
      cases hr : findLabel b l with
      | none => rw [hr] at h; exact ih h
      | some r => rw [hr] at h; cases h; rfl
    | _ => simp only [gotoIn, List.cons_append] at h ⊢; exact ih h
theorem ex_finish {fr : Frame} {ops : Array Oper} {i : Nat} {rest : List Nat} {k : List Item} (ht : fr.todo = .inRegion ops (i :: rest) :: k) (q : List Item) (v : Value) : (ex q fr).finish v = ex q (fr.finish v) := by
  unfold ex Frame.finish
  simp [ht]
theorem ex_raise (fr : Frame) (q : List Item) (ch : List PanicEntry) : (ex q fr).raise ch = ex q (fr.raise ch) := by
  obtain ⟨fn, tmps, todo, defers, mode, kind, roundOf⟩ := fr
  cases mode <;> rfl
theorem bot_back {c : Frame} {up : List Frame} (hc : AtCall Z c) (q : List Item) (v : Value) : (bot q c up).1.finish v = (bot q (c.finish v) up).1 ∧ (bot q c up).2 = (bot q (c.finish v) up).2 := by
  obtain ⟨ops, i, rest, k, ht, _⟩ := hc
  cases up with
  | nil => exact ⟨ex_finish ht q v, rfl⟩
  | cons d up => exact ⟨rfl, rfl⟩
theorem bot_raise {c : Frame} {up : List Frame} (q : List Item) (ch : List PanicEntry) : (bot q c up).1.raise ch = (bot q (c.raise ch) up).1 ∧ (bot q c up).2 = (bot q (c.raise ch) up).2 := by
  cases up with
  | nil => exact ⟨ex_raise c q ch, rfl⟩
  | cons d up => exact ⟨rfl, rfl⟩

variable {ok : Oper → Bool}
theorem all_exitTo {id : Nat} : ∀ {k k' : List Item}, k.all (okIt ok) = true → exitTo id k = some k' → k'.all (okIt ok) = true := by
  intro k
  induction k with
  | nil => intro k' _ h; simp [exitTo] at h
  | cons x k ih =>
    intro k' ha h
    have ha' : k.all (okIt ok) = true := by simp only [List.all_cons, Bool.and_eq_true] at ha; exact ha.2
    cases x <;> simp only [exitTo] at h <;> first
      | exact ih ha' h
      | (split at h
         · cases h; exact ha'
         · exact ih ha' h)

theorem ok_findLabel : ∀ (c : Code) (l : Nat) (r : Code), okC ok c = true → findLabel c l = some r → okC ok r = true := by
  intro c
  induction c with
  | seq a b iha ihb =>
    intro l r hc h
    simp only [okC, Bool.and_eq_true] at hc
    simp only [findLabel] at h
    split at h
    · rename_i rest hr
      cases h
      simp only [okC, Bool.and_eq_true]
      exact ⟨iha _ _ hc.1 hr, hc.2⟩
    · exact ihb _ _ hc.2 h
  | label l' =>
    intro l r hc h
    simp only [findLabel] at h
    split at h
    · cases h; rfl
    · cases h
  | _ => intro l r hc h; simp [findLabel] at h
theorem all_gotoIn {l : Nat} : ∀ {k k' : List Item}, k.all (okIt ok) = true → gotoIn l k = some k' → k'.all (okIt ok) = true := by
  intro k
  induction k with
  | nil => intro k' _ h; simp [gotoIn] at h
  | cons x k ih =>
    intro k' ha h
    have ha0 := ha
    simp only [List.all_cons, Bool.and_eq_true] at ha
    cases x <;> simp only [gotoIn] at h <;> first
      | exact ih ha.2 h
      | (split at h
         · rename_i rest hr
           cases h
           simp only [List.all_cons, Bool.and_eq_true]
           exact ⟨ok_findLabel _ _ _ ha.1 hr, ha⟩
         · exact ih ha.2 h)

theorem ok_finish {fr : Frame} (h : OkF P Z fr) (v : Value) (hv : ∀ ops i rest k, fr.todo = .inRegion ops (i :: rest) :: k → ∀ d, (ops[i]?).bind (·.dst) = some d → d ∈ Z.K fr.fn → Fv Z v) : OkF P Z (fr.finish v) ∧ (fr.finish v).mode = fr.mode := by
  obtain ⟨fn, tmps, todo, defers, mode, kind, roundOf⟩ := fr
  obtain ⟨h1, h2, h3, h4, h5, h6⟩ := h
  cases todo with
  | nil => exact ⟨⟨h1, h2, h3, h4, h5, h6⟩, rfl⟩
  | cons x k =>
    simp only [List.all_cons, Bool.and_eq_true] at h5
    cases x with
    | inRegion ops l =>
      cases l with
      | nil => exact ⟨⟨h1, h2, h3, h4, by simpa [Frame.finish] using h5, h6⟩, rfl⟩
      | cons i rest =>
        refine ⟨⟨h1, h2, h3, h4, by simpa [Frame.finish, okIt] using h5, ?_⟩, rfl⟩
        intro s hs x hx
        simp only [Frame.finish] at hx hs
        cases hd : (ops[i]?).bind (·.dst) with
        | none => rw [hd] at hx; exact h6 s hs x hx
        | some d =>
          rw [hd] at hx
          simp only at hx
          by_cases hds : d = s
          · subst hds
            rw [Array.getElem?_setIfInBounds] at hx
            simp only [if_true] at hx
            split at hx
            · cases hx; exact hv ops i rest k rfl d hd hs
            · cases hx
          · rw [Array.getElem?_setIfInBounds_ne hds] at hx
            exact h6 s hs x hx
    | inRangeFunc l => cases h5.1
    | beginRound => cases h5.1
    | call _ _ _ _ => cases h5.1
    | extern _ _ => cases h5.1
    | _ => exact ⟨⟨h1, h2, h3, h4, by simpa [Frame.finish] using h5, h6⟩, rfl⟩
theorem ok_back {fr : Frame} (h : UpOk P Z fr) (v : Value) : OkF P Z (fr.finish v) ∧ (fr.finish v).mode = .run := by
  obtain ⟨ho, hm, ops, i, rest, k, ht, hd⟩ := h
  have := ok_finish ho v fun ops' i' rest' k' ht' d hd' hk => by
    rw [ht] at ht'
    cases ht'
    exact absurd hk (hd d hd')
  exact ⟨this.1, this.2.trans hm⟩

theorem ok_enter (hF : SetOk P Z) {f : FuncId} (h : Z.F f = true) (args : Array Value) (hk : ∀ s ∈ Z.K f, ∀ v, args[s]? = some v → Fv Z v) : OkF P Z (Frame.enter P f args .normal) ∧ (Frame.enter P f args .normal).mode = .run := by
  obtain ⟨fn, c, h1, h2, h3⟩ := hF.bodied f h
  refine ⟨⟨rfl, rfl, rfl, ⟨fn, h1⟩, ?_, fun s hs v hv => ?_⟩, rfl⟩
  · simp [Frame.enter, h1, h3, okIt, hF.code f fn c h h1 h3]
  · simp only [Frame.enter] at hv hs
    rw [Array.getElem?_append] at hv
    split at hv
    · exact hk s hs v hv
    · rw [Array.getElem?_replicate] at hv
      split at hv
      · cases hv; exact .inl rfl
      · cases hv

theorem early_refused (hF : SetOk P Z) {fr : Frame} {cs : List Frame} {g : Nat} (w : World) (h : P.globals.size ≤ g) : ∃ o, early P fr cs none g w = .ended o w := by
  unfold early
  simp only [hF.ahead, hF.late g h, Bool.not_true, Bool.false_eq_true, if_false]
  exact ⟨_, rfl⟩

theorem ok_raise {fr : Frame} (h : OkF P Z fr) (ch : List PanicEntry) : OkF P Z (fr.raise ch) := by
  obtain ⟨fn, tmps, todo, defers, mode, kind, roundOf⟩ := fr
  obtain ⟨h1, h2, h3, h4, h5, h6⟩ := h
  cases mode <;> exact ⟨h1, h2, h3, h4, h5, h6⟩

theorem apply_moves (hF : SetOk P Z) {fr : Frame} {up : List Frame} {w : World} (h : OkF P Z fr) (hm : fr.mode = .run) {ops : Array Oper} {i : Nat} {l : List Nat} {k : List Item} (ht : fr.todo = .inRegion ops (i :: l) :: k)
    (hu : ∀ f ∈ up, UpOk P Z f) (hg : GC P w) {o : Oper} (ho : ops[i]? = some o) {s : Sem Next} (hs : Lf P (Plain Z (Z.K fr.fn) o) s) (hsm : Sm P s) (hst : ∀ q cs v, stepG P true (G (ex q fr) cs) v = stepG.apply P true (ex q fr) cs none s v) :
    (∃ fr' up' w' es, Moves P Z fr up w fr' up' w' es) ∨ Halts P fr up w := by
  have exk : ∀ q, (ex q fr).kind = fr.kind := fun _ => rfl
  have exf : ∀ q, (ex q fr).fn = fr.fn := fun _ => rfl
  have ext : ∀ q, (ex q fr).todo = .inRegion ops (i :: l) :: (k ++ q) := fun q => by unfold ex; simp [ht]
  have hst0 : ∀ cs v, stepG P true (G fr cs) v = stepG.apply P true fr cs none s v := fun cs v => by have := hst [] cs v; rwa [ex_nil] at this
  have hl := run_leaf hs w #[]
  have hgw := run_grows P hs.noSys w #[]
  have hrt := run_rt P hs.noSys w #[]
  have hc : GC P (wof (s.runT P w #[]).1) := fun g hgg => run_cells hs.noSys w #[] (hg g hgg)
  have hk : (fr.kind == CallKind.early) = false := by rw [h.kind]; rfl
  have hlf := run_left (S := fun _ => False) hs.noSys w #[] (fun _ h => h.elim) (by simp)
  have hlS : ∀ (S : Nat → Prop) (W : World), Hid S w W → ∀ e ∈ (s.runT P w #[]).2, EvS S e := fun S W hh => (run_left hs.noSys w #[] (fun b hb => (hh.pz hb).em) (by simp)).evs
  have hd : ∀ v, (∀ d, o.dst = some d → d ∈ Z.K fr.fn → Fv Z v) → ∀ ops' i' rest k', fr.todo = .inRegion ops' (i' :: rest) :: k' → ∀ d, (ops'[i']?).bind (·.dst) = some d → d ∈ Z.K fr.fn → Fv Z v := fun v hv ops' i' rest k' ht' d hd hk => by
    rw [ht] at ht'
    cases ht'
    rw [ho] at hd
    exact hv d hd hk
  cases hr : s.runT P w #[] with
  | mk r es =>
    have hev : ∀ fn, ∀ e ∈ seen P fn es, EvZ e := fun fn e he => by
      have := run_evs P hs.noSys w #[] (by simp)
      rw [hr] at this
      exact this e (mem_seen he)
    rw [hr] at hl hgw hrt hc hlf hlS
    have hevS : ∀ (S : Nat → Prop) (W : World), Hid S w W → ∀ fn, ∀ e ∈ seen P fn es, EvS S e := fun S W hh fn e he => hlS S W hh e (mem_seen he)
    cases r with
    | ok a w' =>
      have real : ∀ (S : Nat → Prop) (W : World), Hid S w W → Lost S w' ∨ ∃ W', Hid S w' W' ∧ ∀ (T : Nat → Question → Nat) (d : Nat), (∀ k, w.drawn + k < w'.drawn → T (d + k) = w.tape (w.drawn + k)) → s.runT P (rt T d W) #[] = (.ok a (rt T (d + (w'.drawn - w.drawn)) W'), es) := fun S W hh => by
        have h1 := hsm.2 S w W #[] hh
        rw [hr] at h1
        rcases h1 with h1 | ⟨W', e, hh'⟩
        · exact .inl h1
        · refine .inr ⟨W', hh', fun T d hag => ?_⟩
          have h2 := run_rt P hs.noSys W #[] T d (by rw [e]; simp only [wof]; rw [hh.drawn, hh'.drawn, hh.tape]; exact hag)
          rw [h2, e]
          simp only [mapW]
          rw [hh.drawn, hh'.drawn]
      simp only [wof, Came, mapW] at hl hgw hrt hc hlf
      cases a with
      | value v =>
        refine .inl ⟨fr.finish v, up, w', seen P fr.fn es, (ok_finish h v (hd v hl)).1, hu, hc, hgw.1, hgw.2, hev _, hlf.back, hlf.size, fun cs q T d hm hag => bot_step hm (fun q cs _ => ?_) cs, fun S W hh => ?_⟩
        · rw [hst]
          simp only [stepG.apply, ↓reduceIte, hrt T d hag, exk, exf, hk, Bool.false_eq_true, GStep.after, G, Array.append_empty, ex_finish ht]
        · rcases real S W hh with h1 | ⟨W', hh', h1⟩
          · exact .inl h1
          · refine .inr ⟨W', hh', hevS S W hh _, fun cs q T d hm hag => bot_step hm (fun q cs _ => ?_) cs⟩
            rw [hst]
            simp only [stepG.apply, ↓reduceIte, h1 T d hag, exk, exf, hk, Bool.false_eq_true, GStep.after, G, Array.append_empty, ex_finish ht]
      | skip =>
        refine .inl ⟨fr.finish undef, up, w', seen P fr.fn es, (ok_finish h undef (fun _ _ _ _ _ _ _ _ => .inl rfl)).1, hu, hc, hgw.1, hgw.2, hev _, hlf.back, hlf.size, fun cs q T d hm hag => bot_step hm (fun q cs _ => ?_) cs, fun S W hh => ?_⟩
        · rw [hst]
          simp only [stepG.apply, ↓reduceIte, hrt T d hag, exk, exf, hk, Bool.false_eq_true, GStep.after, G, Array.append_empty, ex_finish ht]
        · rcases real S W hh with h1 | ⟨W', hh', h1⟩
          · exact .inl h1
          · refine .inr ⟨W', hh', hevS S W hh _, fun cs q T d hm hag => bot_step hm (fun q cs _ => ?_) cs⟩
            rw [hst]
            simp only [stepG.apply, ↓reduceIte, h1 T d hag, exk, exf, hk, Bool.false_eq_true, GStep.after, G, Array.append_empty, ex_finish ht]
      | enter f args =>
        obtain ⟨hf, hka, hnd⟩ := hl
        refine .inl ⟨Frame.enter P f args .normal, fr :: up, w', seen P fr.fn es, (ok_enter hF hf args hka).1, ?_, hc, hgw.1, hgw.2, hev _, hlf.back, hlf.size, fun cs q T d hm hag => ?_, fun S W hh => ?_⟩
        · intro f hf
          rcases List.mem_cons.1 hf with rfl | hf
          · exact ⟨h, hm, ops, i, l, k, ht, fun d hd => hnd d (by rw [ho] at hd; exact hd)⟩
          · exact hu f hf
        · cases up with
          | nil =>
            show stepG P true (G (ex q fr) ([] ++ cs)) _ = _
            rw [hst]
            simp only [stepG.apply, ↓reduceIte, hrt T d hag, exk, exf, hk, Bool.false_eq_true, GStep.after, G, ext, Array.append_empty, List.cons_append, bot]
          | cons c up =>
            show stepG P true (G fr _) _ = _
            rw [hst0]
            simp only [stepG.apply, ↓reduceIte, hrt T d hag, hk, Bool.false_eq_true, GStep.after, G, ht, Array.append_empty, List.cons_append, bot]
        · rcases real S W hh with h1 | ⟨W', hh', h1⟩
          · exact .inl h1
          · refine .inr ⟨W', hh', hevS S W hh _, fun cs q T d hm hag => ?_⟩
            cases up with
            | nil =>
              show stepG P true (G (ex q fr) ([] ++ cs)) _ = _
              rw [hst]
              simp only [stepG.apply, ↓reduceIte, h1 T d hag, exk, exf, hk, Bool.false_eq_true, GStep.after, G, ext, Array.append_empty, List.cons_append, bot]
            | cons c up =>
              show stepG P true (G fr _) _ = _
              rw [hst0]
              simp only [stepG.apply, ↓reduceIte, h1 T d hag, hk, Bool.false_eq_true, GStep.after, G, ht, Array.append_empty, List.cons_append, bot]
      | _ => exact hl.elim
    | halt x w' =>
      simp only [wof, Came, mapW] at hl hgw hrt hc hlf
      rcases hl with hl | ⟨g, c, t, rfl, hp⟩
      · cases x with
        | panic v =>
          refine .inl ⟨fr.raise [{ v, recovered := false }], up, w', seen P fr.fn es, ok_raise h _, hu, hc, hgw.1, hgw.2, hev _, hlf.back, hlf.size, fun cs q T d hm hag => bot_step hm (fun q cs _ => ?_) cs, fun S W hh => ?_⟩
          · rw [hst]
            simp only [stepG.apply, ↓reduceIte, hrt T d hag, exk, exf, hk, Bool.false_eq_true, GStep.after, G, Array.append_empty, ex_raise]
          · have h1 := hsm.2 S w W #[] hh
            rw [hr] at h1
            rcases h1 with h1 | h1 | ⟨W', e, hh'⟩
            · exact absurd rfl (h1 v)
            · exact .inl h1
            · refine .inr ⟨W', hh', hevS S W hh _, fun cs q T d hm hag => bot_step hm (fun q cs _ => ?_) cs⟩
              have h2 := run_rt P hs.noSys W #[] T d (by rw [e]; simp only [wof]; rw [hh.drawn, hh'.drawn, hh.tape]; exact hag)
              rw [e] at h2
              simp only [mapW] at h2
              rw [hh.drawn, hh'.drawn] at h2
              rw [hst]
              simp only [stepG.apply, ↓reduceIte, h2, exk, exf, hk, Bool.false_eq_true, GStep.after, G, Array.append_empty, ex_raise]
        | stuck m =>
          refine .inr fun cs => ?_
          rw [hst0]
          (simp only [stepG.apply, ↓reduceIte, hr, hk, Bool.false_eq_true, GStep.after]; exact ⟨_, _, _, rfl⟩)
        | unsupported u =>
          refine .inr fun cs => ?_
          rw [hst0]
          cases u with
          | initOrder g => cases hl
          | _ => simp only [stepG.apply, ↓reduceIte, hr, hk, Bool.false_eq_true, GStep.after]; exact ⟨_, _, _, rfl⟩
        | _ => cases hl
      · refine .inr fun cs => ?_
        rw [hst0]
        have hge : P.globals.size ≤ g := by
          rcases Nat.lt_or_ge g P.globals.size with hlt | hge
          · obtain ⟨c', t', f', hx⟩ := hc g hlt
            rw [hx] at hp
            cases hp
          · exact hge
        obtain ⟨o, he⟩ := early_refused hF (fr := fr) (cs := up ++ cs) w' hge
        simp only [stepG.apply, ↓reduceIte, hr, hk, Bool.false_eq_true, GStep.after, he]; exact ⟨_, _, _, rfl⟩
end Go.Proofs.Ytpmmimcafkillaa.Br

set_option linter.unusedVariables false
set_option linter.unusedSimpArgs false
namespace Go.Proofs.Ytpmmimcafkillaa.Br
open Go Go.Conc
variable {P : Program} {Z : Sig}

theorem sm_results (fn : Func) (tmps : Array Value) : Sm P (results fn tmps) := by
  unfold results
  refine sm_bind (sm_mapM_array _ (fun x => ?_) _) fun _ => sm_pure _
  split
  · exact sm_pure _
  · exact sm_bind (sm_asAddr _) fun _ => sm_loadVar _ _
theorem ns_results (fn : Func) (tmps : Array Value) : NoSys P (results fn tmps) := (sm_results fn tmps).1

theorem step_ok (hF : SetOk P Z) {fr : Frame} {up : List Frame} {w : World} (h : OkF P Z fr) (hu : ∀ f ∈ up, UpOk P Z f) (hg : GC P w) (hend : up ≠ [] ∨ fr.mode = .run) :
    (∃ fr' up' w' es, Moves P Z fr up w fr' up' w' es) ∨ Halts P fr up w := by
  have hOk := h
  obtain ⟨fn, tmps, todo, defers, mode, kind, roundOf⟩ := fr
  obtain ⟨h1, h2, h3, h4, h5, h6⟩ := h
  simp only at h1 h2 h3 h4 h5 h6
  subst h1 h2 h3
  cases mode with
  | run =>
    have to : ∀ todo', todo'.all (okIt (okOp Z P (Z.K fn))) = true → (∀ q cs v, (q = [] ∨ ((⟨fn, tmps, todo, [], .run, .normal, none⟩ : Frame).mode = .run ∧ (⟨fn, tmps, todo, [], .run, .normal, none⟩ : Frame).todo ≠ [])) → stepG P true (G (ex q ⟨fn, tmps, todo, [], .run, .normal, none⟩) cs) v = .go (G (ex q ⟨fn, tmps, todo', [], .run, .normal, none⟩) cs) v #[]) →
        (∃ fr' up' w' es, Moves P Z ⟨fn, tmps, todo, [], .run, .normal, none⟩ up w fr' up' w' es) ∨ Halts P ⟨fn, tmps, todo, [], .run, .normal, none⟩ up w :=
      fun todo' ha hs => .inl ⟨_, _, _, _, moves_to ⟨rfl, rfl, rfl, h4, ha, h6⟩ hu hg hs⟩
    cases todo with
    | nil => exact .inl ⟨_, _, _, _, moves_to (fr' := ⟨fn, tmps, [], [], .returning, .normal, none⟩) ⟨rfl, rfl, rfl, h4, rfl, h6⟩ hu hg (fun q cs v hq => by
      rcases hq with rfl | ⟨_, h⟩
      · simp [ex, G, stepG, stepG.exec]
      · exact absurd rfl h)⟩
    | cons x k =>
      have ha := h5
      simp only [List.all_cons, Bool.and_eq_true] at ha
      cases x with
      | code c =>
        cases c with
        | skip => exact to k ha.2 (fun q cs v hq => by simp [ex, G, stepG, stepG.exec])
        | label l => exact to k ha.2 (fun q cs v hq => by simp [ex, G, stepG, stepG.exec])
        | ret => exact .inl ⟨_, _, _, _, moves_to (fr' := ⟨fn, tmps, _, [], .returning, .normal, none⟩) ⟨rfl, rfl, rfl, h4, h5, h6⟩ hu hg (fun q cs v hq => by simp [ex, G, stepG, stepG.exec])⟩
        | seq a b => exact to (.code a :: .code b :: k) (by have := ha.1; simp only [okIt, okC, Bool.and_eq_true] at this; simp only [List.all_cons, Bool.and_eq_true]; exact ⟨this.1, this.2, ha.2⟩) (fun q cs v hq => by simp [ex, G, stepG, stepG.exec])
        | block id b => exact to (.code b :: .inBlock id :: k) (by have := ha.1; simp only [okIt, okC] at this; simp only [List.all_cons, Bool.and_eq_true]; exact ⟨this, by first | rfl | exact this, ha.2⟩) (fun q cs v hq => by simp [ex, G, stepG, stepG.exec])
        | loop b => exact to (.code b :: .inLoop b :: k) (by have := ha.1; simp only [okIt, okC] at this; simp only [List.all_cons, Bool.and_eq_true]; exact ⟨this, by first | rfl | exact this, ha.2⟩) (fun q cs v hq => by simp [ex, G, stepG, stepG.exec])
        | scope b => exact to (.code b :: .inScope b :: k) (by have := ha.1; simp only [okIt, okC] at this; simp only [List.all_cons, Bool.and_eq_true]; exact ⟨this, by first | rfl | exact this, ha.2⟩) (fun q cs v hq => by simp [ex, G, stepG, stepG.exec])
        | cond c a b =>
          have hab := ha.1
          simp only [okIt, okC, Bool.and_eq_true] at hab
          by_cases hv : ∃ t, (⟨fn, tmps, .code (.cond c a b) :: k, [], .run, .normal, none⟩ : Frame).eval c = .bool t
          · obtain ⟨t, hv⟩ := hv
            exact to (.code (if t then a else b) :: k) (by simp only [List.all_cons, Bool.and_eq_true]; exact ⟨by cases t; exact hab.2; exact hab.1, ha.2⟩) (fun q cs v hq => by
              have hv' : Frame.eval ⟨fn, tmps, (.code (.cond c a b) :: k) ++ q, [], .run, .normal, none⟩ c = .bool t := hv
              simp only [List.cons_append] at hv'
              simp [ex, G, stepG, stepG.exec, hv'])
          · refine .inr fun cs => ?_
            simp only [G, stepG, stepG.exec]
            split
            · rename_i t hv'; exact absurd ⟨t, hv'⟩ hv
            · exact ⟨_, _, _, rfl⟩
        | exit id =>
          cases hx : exitTo id k with
          | some k' => exact to k' (all_exitTo ha.2 hx) (fun q cs v hq => by simp [ex, G, stepG, stepG.exec, exitTo_app hx])
          | none => exact .inr fun cs => by simp only [G, stepG, stepG.exec, hx, Option.elim]; exact ⟨_, _, _, rfl⟩
        | goto l =>
          cases hx : gotoIn l k with
          | some k' => exact to k' (all_gotoIn ha.2 hx) (fun q cs v hq => by simp [ex, G, stepG, stepG.exec, gotoIn_app hx])
          | none => exact .inr fun cs => by simp only [G, stepG, stepG.exec, hx, Option.elim]; exact ⟨_, _, _, rfl⟩
        | region id ops draw =>
          cases draw with
          | false => exact to (.inRegion ops (List.range ops.size) :: k) (by have := ha.1; simp only [okIt, okC] at this; simp only [List.all_cons, Bool.and_eq_true]; exact ⟨this, ha.2⟩) (fun q cs v hq => by simp [ex, G, stepG, stepG.exec])
          | true =>
            refine .inl ⟨⟨fn, tmps, .inRegion ops (Region.schedule (P.follows .mixedOrders) ops (w.tape w.drawn (.order fn id))) :: k, [], .run, .normal, none⟩, up, { w with drawn := w.drawn + 1 }, #[], ⟨rfl, rfl, rfl, h4, ?_, h6⟩, hu, hg, Nat.le_succ _, rfl, by simp, fun _ _ h => h, Nat.le_refl _, fun cs q T d hm hag => bot_step hm (fun q cs _ => ?_) cs, fun S W hh => .inr ⟨{ W with drawn := W.drawn + 1 }, ⟨hh.tape, by rw [hh.drawn], hh.os, hh.output, hh.size, hh.out, hh.inn⟩, by simp, fun cs q T d hm hag => bot_step hm (fun q cs _ => ?_) cs⟩⟩
            · have := ha.1; simp only [okIt, okC] at this; simp only [List.all_cons, Bool.and_eq_true]; exact ⟨this, ha.2⟩
            · have h0 : T d = w.tape w.drawn := hag 0 (Nat.lt_succ_self _)
              simp [ex, G, stepG, stepG.exec, choose, Sem.run, Question.forced, Question.cut, rt, h0]
            · have h0 : T d = w.tape w.drawn := hag 0 (Nat.lt_succ_self _)
              simp [ex, G, stepG, stepG.exec, choose, Sem.run, Question.forced, Question.cut, rt, h0]
        | rangeFunc f a b c => cases ha.1
        | refuse s => cases ha.1
      | inBlock id => exact to k ha.2 (fun q cs v hq => by simp [ex, G, stepG, stepG.exec])
      | inScope b => exact to k ha.2 (fun q cs v hq => by simp [ex, G, stepG, stepG.exec])
      | inLoop b => exact to (.code b :: .inLoop b :: k) (by have := ha.1; simp only [okIt] at this; simp only [List.all_cons, Bool.and_eq_true]; exact ⟨this, this, ha.2⟩) (fun q cs v hq => by simp [ex, G, stepG, stepG.exec])
      | inRegion ops l =>
        cases l with
        | nil => exact to k ha.2 (fun q cs v hq => by simp [ex, G, stepG, stepG.exec])
        | cons i rest =>
          by_cases hw : ((ops[i]?).map (Region.wanted · (yielded ops tmps))).getD false = true
          · cases ho : ops[i]? with
            | none => rw [ho] at hw; cases hw
            | some o =>
              have hoo : okOp Z P (Z.K fn) o = true := by
                have := ha.1
                simp only [okIt, List.all_eq_true] at this
                exact this o (Array.mem_toList_iff.2 (Array.mem_of_getElem? ho))
              have hex := op_execOp hF.bodied (K := Z.K fn) (ρ := (⟨fn, tmps, .inRegion ops (i :: rest) :: k, [], .run, .normal, none⟩ : Frame).eval) (fun f => rfl) (fun t ht => by
                show Fv Z (tmps.getD t undef)
                rw [Array.getD_eq_getD_getElem?]
                cases hx : tmps[t]? with
                | none => exact .inl rfl
                | some x => exact h6 t ht x hx) hoo
              refine apply_moves hF hOk rfl rfl hu hg ho hex.1 hex.2 (fun q cs v => ?_)
              rw [ho] at hw
              simp only [Option.map_some, Option.getD_some] at hw
              have he : Frame.eval ⟨fn, tmps, .inRegion ops (i :: rest) :: (k ++ q), [], .run, .normal, none⟩ = Frame.eval ⟨fn, tmps, .inRegion ops (i :: rest) :: k, [], .run, .normal, none⟩ := by funext x; cases x <;> rfl
              simp [ex, G, stepG, stepG.exec, stepG.oper, Frame.oper?, ho, hw, he]
          · refine .inl ⟨_, _, _, _, moves_to (ok_finish hOk undef (fun _ _ _ _ _ _ _ _ => .inl rfl)).1 hu hg (fun q cs v hq => ?_)⟩
            rw [← ex_finish (ops := ops) (i := i) (rest := rest) (k := k) rfl]
            simp [ex, G, stepG, stepG.exec, hw]
      | inRangeFunc l => cases ha.1
      | endRangeFunc l => cases ha.1
      | beginRound => cases ha.1
      | call a b c d => cases ha.1
      | extern a b => cases ha.1
  | returning =>
    obtain ⟨f, hf⟩ := h4
    cases up with
    | nil => rcases hend with h | h <;> simp at h
    | cons c up =>
      have hc := hu c (List.mem_cons_self ..)
      have hu' : ∀ f ∈ up, UpOk P Z f := fun f hf => hu f (List.mem_cons_of_mem _ hf)
      have hns := ns_results (P := P) f tmps
      have hgw := run_grows P hns w #[]
      have hrt := run_rt P hns w #[]
      have hlf := run_left (S := fun _ => False) hns w #[] (fun _ h => h.elim) (by simp)
      have hlS : ∀ (S : Nat → Prop) (W : World), Hid S w W → ∀ e ∈ ((results f tmps).runT P w #[]).2, EvS S e := fun S W hh => (run_left hns w #[] (fun b hb => (hh.pz hb).em) (by simp)).evs
      have hcc : GC P (wof ((results f tmps).runT P w #[]).1) := fun g hgg => run_cells hns w #[] (hg g hgg)
      cases hr : (results f tmps).runT P w #[] with
      | mk r es =>
        have hev : ∀ e ∈ seen P fn es, EvZ e := fun e he => by
          have := run_evs P hns w #[] (by simp)
          rw [hr] at this
          exact this e (mem_seen he)
        rw [hr] at hgw hrt hcc hlf hlS
        cases r with
        | ok v w' =>
          simp only [wof, mapW] at hgw hrt hcc hlf
          refine .inl ⟨c.finish v, up, w', seen P fn es, (ok_back hc v).1, hu', hcc, hgw.1, hgw.2, hev, hlf.back, hlf.size, fun cs q T d hm hag => ?_, fun S W hh => ?_⟩
          · obtain ⟨b1, b2⟩ := bot_back (up := up) hc.2.2 q v
            rw [← b1, ← b2]
            simp only [bot, G, stepG, unwind, hf, hrt T d hag, doReturn, GStep.after, List.cons_append, Array.append_empty]
          · have h1 := (sm_results (P := P) f tmps).2 S w W #[] hh
            rw [hr] at h1
            rcases h1 with h1 | ⟨W', e, hh'⟩
            · exact .inl h1
            · refine .inr ⟨W', hh', fun x hx => hlS S W hh x (mem_seen hx), fun cs q T d hm hag => ?_⟩
              have h2 := run_rt P hns W #[] T d (by rw [e]; simp only [wof]; rw [hh.drawn, hh'.drawn, hh.tape]; exact hag)
              rw [e] at h2
              simp only [mapW] at h2
              rw [hh.drawn, hh'.drawn] at h2
              obtain ⟨b1, b2⟩ := bot_back (up := up) hc.2.2 q v
              rw [← b1, ← b2]
              simp only [bot, G, stepG, unwind, hf, h2, doReturn, GStep.after, List.cons_append, Array.append_empty]
        | halt x w' =>
          refine .inr fun cs => ?_
          cases x <;> (simp only [G, stepG, unwind, hf, hr, GStep.after]; exact ⟨_, _, _, rfl⟩)
  | panicking ch =>
    obtain ⟨f, hf⟩ := h4
    cases up with
    | nil => rcases hend with h | h <;> simp at h
    | cons c up =>
      have hc := hu c (List.mem_cons_self ..)
      have hu' : ∀ f ∈ up, UpOk P Z f := fun f hf => hu f (List.mem_cons_of_mem _ hf)
      refine .inl ⟨c.raise ch, up, w, #[], ok_raise hc.1 _, hu', hg, Nat.le_refl _, rfl, by simp, fun _ _ h => h, Nat.le_refl _, fun cs q T d hm hag => ?_, fun S W hh => .inr ⟨W, hh, by simp, fun cs q T d hm hag => ?_⟩⟩
      · obtain ⟨b1, b2⟩ := bot_raise (c := c) (up := up) q ch
        rw [← b1, ← b2]
        simp [bot, G, stepG, unwind, Frame.catches, hf]
      · obtain ⟨b1, b2⟩ := bot_raise (c := c) (up := up) q ch
        rw [← b1, ← b2]
        simp [bot, G, stepG, unwind, Frame.catches, hf]
end Go.Proofs.Ytpmmimcafkillaa.Br
