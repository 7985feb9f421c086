/-
  The link of traces (Lk) over whole steps of the machine: what goroutine 0 or a worker lists, what an elder one lists, a go statement. It names no program; no conditions.
  An elder one's step in the great machine. It names no program; no conditions.
  A worker that runs goes on: its step is a plain one. It names no program.
  What a worker's step lists, and a starter's once a worker is started; what of a trace is heard. It names no program.
-/
import Derived.Test.YtghglpcfpokmhaaZLk
namespace Go.Proofs.Ytghglpcfpokmhaa.Lk
open Go Go.Conc
set_option linter.unusedVariables false

def Lkd (b : Nat) (p s T : Trace) : Prop := ∃ f, Lnk b p s T f
section
variable {b : Nat} {p s T : Trace}
theorem Lkd.app (L : Lkd b p s T) (u : Trace) : Lkd b p (s ++ u) (T ++ u.map (nrO b)) := by
  obtain ⟨l⟩ := u
  induction l generalizing s T with
  | nil => simpa using L
  | cons o l ih =>
    obtain ⟨f, L⟩ := L
    have := ih (s := s ++ #[o]) (T := T ++ #[nrO b o]) ⟨_, L.both o⟩
    have e1 : s ++ #[o] ++ (⟨l⟩ : Array MemOp) = s ++ ⟨o :: l⟩ := by simp
    have e2 : T ++ #[nrO b o] ++ (⟨l⟩ : Array MemOp).map (nrO b) = T ++ (⟨o :: l⟩ : Array MemOp).map (nrO b) := by simp
    rw [e1, e2] at this
    exact this
theorem Lkd.mutes (L : Lkd b p s T) (u : Trace) (h : ∀ o ∈ u, 1 ≤ o.g ∧ o.g ≤ b ∧ Wd o.act) : Lkd b p s (T ++ u) := by
  obtain ⟨l⟩ := u
  induction l generalizing T with
  | nil => simpa using L
  | cons o l ih =>
    obtain ⟨f, L⟩ := L
    obtain ⟨h1, h2, h3⟩ := h o (by simp)
    have := ih (T := T ++ #[o]) ⟨f, L.word h1 h2 h3⟩ (fun x hx => h x (by simp at hx ⊢; exact .inr hx))
    have e2 : T ++ #[o] ++ (⟨l⟩ : Array MemOp) = T ++ (⟨o :: l⟩ : Array MemOp) := by simp
    rw [e2] at this
    exact this
theorem nrA_ofEvent (e : Event) : nrA b (.ofEvent e) = .ofEvent e := by
  cases h : MemAct.ofEvent e with
  | go k => exact absurd h (by unfold MemAct.ofEvent; split <;> simp)
  | _ => rfl
theorem ofEvents_nr (g : Nat) (fn : FuncId) (pos : String) (es : Array Event) : (MemOp.ofEvents g fn pos es).map (nrO b) = MemOp.ofEvents (nr b g) fn pos es := by
  rw [ofEvents_eq, ofEvents_eq, Array.map_map]
  congr 1
  funext e
  simp only [Function.comp, nrO, nrA_ofEvent]
/-- a step of goroutine 0 or of a worker -/
theorem Lkd.events (L : Lkd b p s T) (g : Nat) (fn : FuncId) (pos : String) (es : Array Event) : Lkd b p (s ++ MemOp.ofEvents g fn pos es) (T ++ MemOp.ofEvents (nr b g) fn pos es) := by
  rw [← ofEvents_nr]
  exact L.app _
/-- a go statement of goroutine 0 -/
theorem Lkd.spawn (L : Lkd b p s T) (k : Nat) (hk : k ≠ 0) (fn fn' : FuncId) (pos pos' : String) (es : Array Event) :
    Lkd b p (s ++ ((MemOp.ofEvents 0 fn pos es).push { g := 0, fn := fn, pos := pos, act := .go k } |>.push { g := k, fn := fn', pos := pos', act := .start }))
      (T ++ ((MemOp.ofEvents 0 fn pos es).push { g := 0, fn := fn, pos := pos, act := .go (b + k) } |>.push { g := b + k, fn := fn', pos := pos', act := .start })) := by
  have := L.app ((MemOp.ofEvents 0 fn pos es).push { g := 0, fn := fn, pos := pos, act := .go k } |>.push { g := k, fn := fn', pos := pos', act := .start })
  rw [Array.map_push, Array.map_push, ofEvents_nr] at this
  simpa [nrO, nrA, nr, hk] using this
end
end Go.Proofs.Ytghglpcfpokmhaa.Lk

set_option linter.unusedVariables false
set_option linter.unusedSimpArgs false
namespace Go.Proofs.Ytghglpcfpokmhaa.Ct
open Go Go.Conc
open Go.Proofs.Ytghglpcfpokmhaa.Lk (Lkd Wd)

/-- the elder ones are leaving, and are as deaf as the trace says -/
def ElT (P : Program) (b : Nat) (q : Nat → Nat) (R : Array Goroutine) (T : Trace) : Prop := ∀ i, 1 ≤ i → i ≤ b → ∃ g, R[i]? = some g ∧ QuitsD P (q i) (Deaf T i) g

section
variable {P : Program} {b : Nat} {q : Nat → Nat} {R : Array Goroutine} {T : Trace} {w : World}
theorem of_mem {g : Nat} {fn : FuncId} {pos : String} {es : Array Event} {op : MemOp} (h : op ∈ MemOp.ofEvents g fn pos es) : ∃ e ∈ es, op = { g, fn, pos, act := .ofEvent e } := by
  rw [ofEvents_eq] at h
  obtain ⟨e, he, rfl⟩ := Array.mem_map.1 h
  exact ⟨e, he, rfl⟩
theorem mute_wd {g : Nat} {fn : FuncId} {pos : String} {es : Array Event} (h : ∀ e ∈ es, Event.mute e = true) {o : MemOp} (ho : o ∈ MemOp.ofEvents g fn pos es) : o.g = g ∧ Wd o.act := by
  obtain ⟨e, he, rfl⟩ := of_mem ho
  refine ⟨rfl, ?_⟩
  have := h e he
  obtain ⟨loc, wr, sy⟩ := e
  cases loc with
  | mark m => cases m <;> simp_all [Event.mute, MemAct.ofEvent, Wd]
  | _ => simp [Event.mute] at this
/-- AN ELDER ONE's STEP -/
theorem elder_step (h : ElT P b q R T) {i : Nat} (hi : 1 ≤ i) (hb : i ≤ b) {g : Goroutine} (hg : R[i]? = some g) (hr : g.status = .running) (sl : Option (Nat × Nat)) :
    ∃ k g' ops, q i = k + 1 ∧ runT P (crowd R w sl) i = (.next (crowd ((R.map (woken P g g' w)).setIfInBounds i g') w sl), ops) ∧ (∀ o ∈ ops, 1 ≤ o.g ∧ o.g ≤ b ∧ Wd o.act) ∧
      ElT P b (fun x => if x = i then k else q x) ((R.map (woken P g g' w)).setIfInBounds i g') (T ++ ops) := by
  obtain ⟨g₁, hg₁, hq⟩ := h i hi hb
  rw [hg] at hg₁
  cases hg₁
  cases hqi : q i with
  | zero =>
    rw [hqi] at hq
    rw [hq.1] at hr
    cases hr
  | succ k =>
    rw [hqi] at hq
    rcases hq with hq | ⟨_, g', es, hm, hst, hq⟩
    · rw [hq.1] at hr
      cases hr
    · have hne : (i == 0) = false := by simp; omega
      refine ⟨k, g', MemOp.ofEvents i g.frame.fn g.frame.place es, rfl, runT_crowd_go hg (by rw [hne]; exact hst w), fun o ho => ?_, fun x hx hxb => ?_⟩
      · obtain ⟨e, hw⟩ := mute_wd hm ho
        exact ⟨by omega, by omega, hw⟩
      · by_cases e : x = i
        · subst e
          simp only [if_pos]
          refine ⟨g', by rw [Array.getElem?_setIfInBounds_self_of_lt (by simpa using (Array.getElem?_eq_some_iff.1 hg).1)], ?_⟩
          rw [Deaf_own]
          exact hq
        · obtain ⟨y, hy, hqy⟩ := h x hx hxb
          simp only [if_neg e]
          refine ⟨y, by rw [Array.getElem?_setIfInBounds_ne (by omega), Array.getElem?_map, hy]; simp [woken_quitsD hqy], ?_⟩
          rw [Deaf_other T (g := x) (g' := i) (by omega) _ (fun o ho => (mute_wd hm ho).1)]
          exact hqy
/-- somebody else's step: what it lists is of none of the elder -/
theorem ElT.other (h : ElT P b q R T) {k : Nat} (hk : k = 0 ∨ b < k) (g g' x : Goroutine) (w : World) (fn : FuncId) (pos : String) (es : Array Event) : ElT P b q ((R.map (woken P g g' w)).setIfInBounds k x) (T ++ MemOp.ofEvents k fn pos es) := by
  intro i hi hb
  obtain ⟨y, hy, hq⟩ := h i hi hb
  refine ⟨y, by rw [Array.getElem?_setIfInBounds_ne (by omega), Array.getElem?_map, hy]; simp [woken_quitsD hq], ?_⟩
  rw [Deaf_other T (g := i) (g' := k) (by omega) _ (fun o ho => by obtain ⟨e, _, rfl⟩ := of_mem ho; rfl)]
  exact hq
end
end Go.Proofs.Ytghglpcfpokmhaa.Ct

set_option linter.unusedVariables false
set_option linter.unusedSimpArgs false
set_option linter.unusedSectionVars false
namespace Go.Proofs.Ytghglpcfpokmhaa.Ct
open Go Go.Conc Go.ConcN
open Go.ConcR (KK wgBlock WgAt stA smA rd wr mk Payload Aside2)
variable [Payload]
variable {P : Program} {ty : TypeId} {Wg C n : Nat} {Own Rd : Nat → Loc → Prop} {Lw : Nat → Nat} {val : Nat → Value} {vals : List Value} {AnchW : Goroutine → World → Prop} {Post : Value → World → Prop}
  {μ : Nat × Nat} {gs : Array Goroutine} {w : World} {sl : Option (Nat × Nat)} {t : Trace}

theorem inv_workerGo (hn : n < 2147483648) (h : Inv P ty Wg C n Own Rd Lw val vals AnchW Post μ (crowd gs w sl) t) {i : Nat} {g : Goroutine} (hg : gs[i + 1]? = some g) (hr : g.status = .running) (d : Nat) :
    ∃ g' w' es, stepG P false g (w.at d) = .go g' w' es := by
  obtain ⟨gs₁, w₁, sl₁, j, D, tag, f0, d0, a₁, st, sm, e, ha, hcs, hcom, hwg, hmode, hacq, rfl⟩ := h
  obtain ⟨rfl, rfl, rfl⟩ := crowd_inj e
  have hi : i < j := by have := (Array.getElem?_eq_some_iff.1 hg).1; rw [hcom.size] at this; omega
  have hwg' : WgAt ty Wg (w.at d) st sm := hwg
  obtain ⟨g₁, hg₁, hs⟩ := (hcom.at d).wk i hi
  obtain rfl : g = g₁ := by rw [hg] at hg₁; exact Option.some.inj hg₁
  generalize hst : (D i).stage = s at hs
  generalize hfu : (D i).fuel = m at hs
  generalize hde : (D i).deaf = dd at hs
  have hb := hcs.bound
  have hVj := Vc_le j D
  cases hs with
  | r0 h =>
    rcases Goes.cases h with hstop | ⟨m', rfl, hstep⟩
    · obtain ⟨_, _, g', hgo, _⟩ := hstop _ (RW.refl _)
      exact ⟨_, _, _, hgo⟩
    · obtain ⟨g', w', es, hgo, _⟩ := hstep _ (RW.refl _)
      exact ⟨_, _, _, hgo⟩
  | k1 h =>
    rcases Goes.cases h with hstop | ⟨m', rfl, hstep⟩
    · obtain ⟨_, g', hgo, _⟩ := hstop _ (RW.refl _)
      exact ⟨_, _, _, hgo⟩
    · obtain ⟨g', w', es, hgo, _⟩ := hstep _ (RW.refl _)
      exact ⟨_, _, _, hgo⟩
  | d1 h =>
    rcases Goes.cases h with hstop | ⟨m', rfl, hstep⟩
    · obtain ⟨_, hall⟩ := hstop _ (RW.refl _)
      have hc1 : cnt (D i) = 1 := by simp [cnt, hst]
      have hV1 : 1 ≤ Vc j D := by have := le_sumTo (f := fun x => cnt (D x)) hi; simp only [Vc]; omega
      cases hmode with
      | opn h1 h2 h3 =>
        obtain ⟨v, hv⟩ : ∃ v, Vc j D + pend tag = v + 1 := ⟨Vc j D + pend tag - 1, by omega⟩
        rw [hv] at hwg'
        have hw1 : WgAt ty Wg (w.at d) (((v : Nat) + 1) * KK + ((0 : Nat) : Int)) 0 := by simpa using hwg'
        obtain ⟨g', hgo, _⟩ := hall v 0 (by omega) (by omega) hw1
        exact ⟨_, _, _, hgo⟩
      | reg h1 h2 h3 =>
        obtain ⟨v, hv⟩ : ∃ v, Vc j D = v + 1 := ⟨Vc j D - 1, by omega⟩
        rw [hv] at hwg'
        have hw1 : WgAt ty Wg (w.at d) (((v : Nat) + 1) * KK + ((1 : Nat) : Int)) 0 := by simpa using hwg'
        obtain ⟨g', hgo, _⟩ := hall v 1 (by omega) (by omega) hw1
        exact ⟨_, _, _, hgo⟩
      | last L h1 h2 h3 h4 =>
        by_cases e : i = L
        · subst e; omega
        · have := h4 i hi e; omega
      | sema h2 => have := h2 i hi; omega
      | fin h1 h2 => have := h2 i hi; omega
    · obtain ⟨g', w', es, hgo, _⟩ := hstep _ (RW.refl _)
      exact ⟨_, _, _, hgo⟩
  | d2 h =>
    rcases Goes.cases h with hstop | ⟨m', rfl, hstep⟩
    · obtain ⟨_, hx⟩ := hstop _ (RW.refl _)
      obtain ⟨_, _, hst', hsm⟩ := hmode.isLast hi (by omega)
      subst hst' hsm
      obtain ⟨g', hgo, _⟩ := hx (by simpa [hst] using hwg')
      exact ⟨_, _, _, hgo⟩
    · obtain ⟨g', w', es, hgo, _⟩ := hstep _ (RW.refl _)
      exact ⟨_, _, _, hgo⟩
  | d3 h =>
    rcases Goes.cases h with hstop | ⟨m', rfl, hstep⟩
    · obtain ⟨_, hx⟩ := hstop _ (RW.refl _)
      obtain ⟨_, _, hst', hsm⟩ := hmode.isLast hi (by omega)
      subst hst' hsm
      obtain ⟨g', hgo, _⟩ := hx (by simpa [hst] using hwg')
      exact ⟨_, _, _, hgo⟩
    · obtain ⟨g', w', es, hgo, _⟩ := hstep _ (RW.refl _)
      exact ⟨_, _, _, hgo⟩
  | d4 h =>
    rcases Goes.cases h with hstop | ⟨m', rfl, hstep⟩
    · obtain ⟨_, _, hx⟩ := hstop _ (RW.refl _)
      obtain ⟨_, _, hst', hsm⟩ := hmode.isLast hi (by omega)
      subst hst' hsm
      obtain ⟨g', hgo, _⟩ := hx (by simpa [hst] using hwg')
      exact ⟨_, _, _, hgo⟩
    · obtain ⟨g', w', es, hgo, _⟩ := hstep _ (RW.refl _)
      exact ⟨_, _, _, hgo⟩
  | quit h =>
    cases m with
    | zero => rw [h.1] at hr; cases hr
    | succ m =>
      rcases h with h | ⟨_, g', es, _, hgo, _⟩
      · rw [h.1] at hr; cases hr
      · exact ⟨_, _, _, hgo _⟩
end Go.Proofs.Ytghglpcfpokmhaa.Ct

set_option linter.unusedVariables false
set_option linter.unusedSimpArgs false
set_option linter.unusedSectionVars false
namespace Go.Proofs.Ytghglpcfpokmhaa.Ct
open Go Go.Conc Go.ConcN
open Go.ConcR (KK wgBlock WgAt stA smA rd wr mk Payload Aside2 ofEvent_cell)
variable [Payload]
variable {P : Program} {ty : TypeId} {Wg C n : Nat} {Own Rd : Nat → Loc → Prop} {Lw : Nat → Nat} {val : Nat → Value} {vals : List Value} {AnchW : Goroutine → World → Prop} {Post : Value → World → Prop}
  {μ : Nat × Nat} {gs : Array Goroutine} {w : World} {sl : Option (Nat × Nat)} {t : Trace}

/-- the event touches the group's cells alone, and not plainly -/
def EvG (Wg : Nat) (e : Event) : Prop := ∀ x, (MemAct.ofEvent e).touch? = some x → ShN Wg x.loc ∧ x.kind ≠ .plain
theorem evG_rd (Wg : Nat) : EvG Wg (rd (stA Wg)) := fun x hx => by
  simp only [rd, ofEvent_cell, MemAct.touch?, Option.some.injEq] at hx
  subst hx
  exact ⟨⟨_, rfl, rfl⟩, by simp⟩
theorem evG_wr (Wg : Nat) : EvG Wg (wr (stA Wg)) := fun x hx => by
  simp only [wr, ofEvent_cell, MemAct.touch?, Option.some.injEq] at hx
  subst hx
  exact ⟨⟨_, rfl, rfl⟩, by simp⟩
theorem evG_disable (Wg : Nat) : EvG Wg (mk .disable) := fun x hx => by simp [mk, MemAct.ofEvent, MemAct.touch?] at hx
theorem evG_enable (Wg : Nat) : EvG Wg (mk .enable) := fun x hx => by simp [mk, MemAct.ofEvent, MemAct.touch?] at hx
theorem evG_sem (Wg : Nat) : ∀ e ∈ semEvents (smA Wg), EvG Wg e := fun e he => by
  have cell : ∀ x : Bool, EvG Wg ⟨.cell (smA Wg), x, true⟩ := fun y x hx => by
    simp only [ofEvent_cell, MemAct.touch?, Option.some.injEq] at hx
    subst hx
    exact ⟨⟨_, rfl, rfl⟩, by simp⟩
  simp only [semEvents, List.mem_toArray, List.mem_cons, List.not_mem_nil, or_false] at he
  rcases he with rfl | rfl | rfl | rfl
  · exact evG_disable _
  · exact cell _
  · exact cell _
  · exact evG_enable _
theorem evG_mute (Wg : Nat) {e : Event} (h : e.mute = true) : EvG Wg e := fun x hx => by rw [touch_mute h] at hx; cases hx
theorem evG_acq (Wg : Nat) (a : Addr) : EvG Wg (mk (.acquire a)) := fun x hx => by simp [mk, MemAct.ofEvent, MemAct.touch?] at hx
theorem evG_relM (Wg : Nat) (a : Addr) : EvG Wg (mk (.releaseMerge a)) := fun x hx => by simp [mk, MemAct.ofEvent, MemAct.touch?] at hx

/-- what a worker's step lists -/
def EvsW (Wg : Nat) (Own Rd : Nat → Loc → Prop) (i : Nat) (t : Trace) (es : Array Event) : Prop :=
  (∀ e ∈ es, EvG Wg e) ∨ (Deaf t (i + 1) = 0 ∧ ∀ e ∈ es, EvW Wg Own Rd (i + 1) e)
theorem inv_workerEv (hn : n < 2147483648) (h : Inv P ty Wg C n Own Rd Lw val vals AnchW Post μ (crowd gs w sl) t) {i : Nat} {g : Goroutine} (hg : gs[i + 1]? = some g) (hr : g.status = .running) (d : Nat) :
    ∃ g' w' es, stepG P false g (w.at d) = .go g' w' es ∧ EvsW Wg Own Rd i t es := by
  obtain ⟨gs₁, w₁, sl₁, j, D, tag, f0, d0, a₁, st, sm, e, ha, hcs, hcom, hwg, hmode, hacq, rfl⟩ := h
  obtain ⟨rfl, rfl, rfl⟩ := crowd_inj e
  have hi : i < j := by have := (Array.getElem?_eq_some_iff.1 hg).1; rw [hcom.size] at this; omega
  have hwg' : WgAt ty Wg (w.at d) st sm := hwg
  have hdf := hcom.deafW i hi
  obtain ⟨g₁, hg₁, hs⟩ := (hcom.at d).wk i hi
  obtain rfl : g = g₁ := by rw [hg] at hg₁; exact Option.some.inj hg₁
  generalize hst : (D i).stage = s at hs
  generalize hfu : (D i).fuel = m at hs
  generalize hde : (D i).deaf = dd at hs
  have hb := hcs.bound
  have hVj := Vc_le j D
  have nil : ∀ {w w' : World} {es : Array Event}, Go.ConcR.DC0 w w' es → ∀ e ∈ es, EvG Wg e := fun h e he => by rw [h.2] at he; simp at he
  cases hs with
  | r0 h =>
    rcases Goes.cases h with hstop | ⟨m', rfl, hstep⟩
    · obtain ⟨_, _, g', hgo, _⟩ := hstop _ (RW.refl _)
      exact ⟨_, _, _, hgo, .inl (by intro e he; simp at he; subst he; exact evG_relM _ _)⟩
    · obtain ⟨g', w', es, hgo, hD, _⟩ := hstep _ (RW.refl _)
      exact ⟨_, _, _, hgo, .inr ⟨by rw [hdf, hde], hD.2⟩⟩
  | k1 h =>
    rcases Goes.cases h with hstop | ⟨m', rfl, hstep⟩
    · obtain ⟨_, g', hgo, _⟩ := hstop _ (RW.refl _)
      exact ⟨_, _, _, hgo, .inl (by intro e he; simp at he; subst he; exact evG_disable _)⟩
    · obtain ⟨g', w', es, hgo, hD, _⟩ := hstep _ (RW.refl _)
      exact ⟨_, _, _, hgo, .inl (nil hD)⟩
  | d1 h =>
    rcases Goes.cases h with hstop | ⟨m', rfl, hstep⟩
    · obtain ⟨_, hall⟩ := hstop _ (RW.refl _)
      have hc1 : cnt (D i) = 1 := by simp [cnt, hst]
      have hV1 : 1 ≤ Vc j D := by have := le_sumTo (f := fun x => cnt (D x)) hi; simp only [Vc]; omega
      have hev : ∀ e ∈ #[rd (stA Wg), wr (stA Wg)], EvG Wg e := by
        intro e he
        simp only [List.mem_toArray, List.mem_cons, List.not_mem_nil, or_false] at he
        rcases he with rfl | rfl
        · exact evG_rd _
        · exact evG_wr _
      cases hmode with
      | opn h1 h2 h3 =>
        obtain ⟨v, hv⟩ : ∃ v, Vc j D + pend tag = v + 1 := ⟨Vc j D + pend tag - 1, by omega⟩
        rw [hv] at hwg'
        have hw1 : WgAt ty Wg (w.at d) (((v : Nat) + 1) * KK + ((0 : Nat) : Int)) 0 := by simpa using hwg'
        obtain ⟨g', hgo, _⟩ := hall v 0 (by omega) (by omega) hw1
        exact ⟨_, _, _, hgo, .inl hev⟩
      | reg h1 h2 h3 =>
        obtain ⟨v, hv⟩ : ∃ v, Vc j D = v + 1 := ⟨Vc j D - 1, by omega⟩
        rw [hv] at hwg'
        have hw1 : WgAt ty Wg (w.at d) (((v : Nat) + 1) * KK + ((1 : Nat) : Int)) 0 := by simpa using hwg'
        obtain ⟨g', hgo, _⟩ := hall v 1 (by omega) (by omega) hw1
        exact ⟨_, _, _, hgo, .inl hev⟩
      | last L h1 h2 h3 h4 =>
        by_cases e : i = L
        · subst e; omega
        · have := h4 i hi e; omega
      | sema h2 => have := h2 i hi; omega
      | fin h1 h2 => have := h2 i hi; omega
    · obtain ⟨g', w', es, hgo, hD, _⟩ := hstep _ (RW.refl _)
      exact ⟨_, _, _, hgo, .inl (nil hD)⟩
  | d2 h =>
    rcases Goes.cases h with hstop | ⟨m', rfl, hstep⟩
    · obtain ⟨_, hx⟩ := hstop _ (RW.refl _)
      obtain ⟨_, _, hst', hsm⟩ := hmode.isLast hi (by omega)
      subst hst' hsm
      obtain ⟨g', hgo, _⟩ := hx (by simpa [hst] using hwg')
      exact ⟨_, _, _, hgo, .inl (by intro e he; simp at he; subst he; exact evG_rd _)⟩
    · obtain ⟨g', w', es, hgo, hD, _⟩ := hstep _ (RW.refl _)
      exact ⟨_, _, _, hgo, .inl (nil hD)⟩
  | d3 h =>
    rcases Goes.cases h with hstop | ⟨m', rfl, hstep⟩
    · obtain ⟨_, hx⟩ := hstop _ (RW.refl _)
      obtain ⟨_, _, hst', hsm⟩ := hmode.isLast hi (by omega)
      subst hst' hsm
      obtain ⟨g', hgo, _⟩ := hx (by simpa [hst] using hwg')
      exact ⟨_, _, _, hgo, .inl (by intro e he; simp at he; subst he; exact evG_wr _)⟩
    · obtain ⟨g', w', es, hgo, hD, _⟩ := hstep _ (RW.refl _)
      exact ⟨_, _, _, hgo, .inl (nil hD)⟩
  | d4 h =>
    rcases Goes.cases h with hstop | ⟨m', rfl, hstep⟩
    · obtain ⟨_, _, hx⟩ := hstop _ (RW.refl _)
      obtain ⟨_, _, hst', hsm⟩ := hmode.isLast hi (by omega)
      subst hst' hsm
      obtain ⟨g', hgo, _⟩ := hx (by simpa [hst] using hwg')
      exact ⟨_, _, _, hgo, .inl (evG_sem _)⟩
    · obtain ⟨g', w', es, hgo, hD, _⟩ := hstep _ (RW.refl _)
      exact ⟨_, _, _, hgo, .inl (nil hD)⟩
  | quit h =>
    cases m with
    | zero => rw [h.1] at hr; cases hr
    | succ m =>
      rcases h with h | ⟨_, g', es, hm, hgo, _⟩
      · rw [h.1] at hr; cases hr
      · exact ⟨_, _, _, hgo _, .inl fun e he => evG_mute _ (hm e he)⟩

/-- what a starter's step lists once a worker is started -/
def EvsC (Wg : Nat) (Own Rd : Nat → Loc → Prop) (j : Nat) (es : Array Event) : Prop := (∀ e ∈ es, EvG Wg e) ∨ ∀ e ∈ es, Ev0 Wg Own Rd j e
theorem inv_starterEv (hn : n < 2147483648) (hAn : ∀ g w, AnchW g w → ∃ m, Goes P true (RC ty Wg C) (DP Wg Own Rd n (Lw n)) (AtW1 P ty Wg C n Own Rd (Lw n) vals AnchW Post) m g w)
    (hl : vals.length = n) (hv : ∀ i, i < n → vals[i]? = some (val i)) (h : Inv P ty Wg C n Own Rd Lw val vals AnchW Post μ (crowd gs w sl) t) {a : Goroutine} (ha : gs[0]? = some a) (hr : a.status = .running) (d : Nat) :
    (∃ a' w' es, stepG P true a (w.at d) = .go a' w' es ∧ EvsC Wg Own Rd (gs.size - 1) es) ∨ (∃ a' c w', stepG P true a (w.at d) = .spawn a' c w' #[] ∧ Deaf t 0 = 0 ∧ Deaf t gs.size = 0) ∨
      ∃ v w' es, stepG P true a (w.at d) = .ended (.done v) w' es ∧ EvsC Wg Own Rd (gs.size - 1) es ∧ Deaf (t ++ MemOp.ofEvents 0 a.frame.fn a.frame.place es) 0 = 0 ∧ ∀ i g, gs[i + 1]? = some g → ∃ q, QuitsD P q (Deaf t (i + 1)) g := by
  obtain ⟨gs₁, w₁, sl₁, j, D, tag, f0, d0, a₁, st, sm, e, ha₁, hcs, hcom, hwg, hmode, hacq, rfl⟩ := h
  obtain ⟨rfl, rfl, rfl⟩ := crowd_inj e
  rw [ha] at ha₁
  cases ha₁
  have hsz : gs.size - 1 = j := by rw [hcom.size]; omega
  rw [hsz]
  have hwg' : WgAt ty Wg (w.at d) st sm := hwg
  have hcs' := hcs.rely (RC.at w d)
  have hb := hcs.bound
  have hVj := Vc_le j D
  have one : ∀ {x : Event}, EvG Wg x → ∀ e ∈ #[x], EvG Wg e := fun hx e he => by simp at he; subst he; exact hx
  have two : ∀ e ∈ #[rd (stA Wg), wr (stA Wg)], EvG Wg e := by
    intro e he
    simp only [List.mem_toArray, List.mem_cons, List.not_mem_nil, or_false] at he
    rcases he with rfl | rfl
    · exact evG_rd _
    · exact evG_wr _
  have goS : ∀ {j' Low : Nat} {Stop : Goroutine → World → Prop} {m : Nat}, Goes P true (RC ty Wg C) (DP Wg Own Rd j' Low) Stop m a (w.at d) → (∀ w₁, RC ty Wg C (w.at d) w₁ → Stop a w₁) ∨ ∃ a' w' es, stepG P true a (w.at d) = .go a' w' es ∧ EvsC Wg Own Rd j' es := fun h => by
    rcases Goes.cases h with hstop | ⟨m', _, hstep⟩
    · exact .inl hstop
    · obtain ⟨g', w', es, hgo, hD, _⟩ := hstep _ (RC.refl _)
      exact .inr ⟨_, _, _, hgo, .inr hD.2⟩
  have atW1 : AtW1 P ty Wg C n Own Rd (Lw n) vals AnchW Post a (w.at d) → isOpen tag → pend tag = 0 → ∃ a' w' es, stepG P true a (w.at d) = .go a' w' es ∧ EvsC Wg Own Rd j es := fun hs ho hp => by
    obtain ⟨_, hx⟩ := hs
    obtain ⟨_, e1, e2, _⟩ := hmode.open_inv ho
    subst e1 e2
    rw [hp, Nat.add_zero] at hwg'
    obtain ⟨g', hgo, _⟩ := hx (Vc j D) (by omega) hwg'
    exact ⟨_, _, _, hgo, .inl (one (evG_rd _))⟩
  cases hcs' with
  | skd _ h =>
    rcases goS h with hs | h
    · obtain ⟨_, g', hgo, _⟩ := hs _ (RC.refl _)
      exact .inl ⟨_, _, _, hgo, .inl (one (evG_disable _))⟩
    · exact .inl h
  | @sa1 r m _ _ hrn h =>
    rcases goS h with hs | h
    · obtain ⟨_, hx⟩ := hs _ (RC.refl _)
      obtain ⟨_, e1, e2, _⟩ := hmode.open_inv trivial
      subst e1 e2
      have hp : pend (.sp r 4) = 0 := by simp [pend]
      rw [hp, Nat.add_zero] at hwg'
      obtain ⟨g', hgo, _⟩ := hx (Vc (n - (r + 1)) D) (by omega) hwg'
      exact .inl ⟨_, _, _, hgo, .inl two⟩
    · exact .inl h
  | ske _ h =>
    rcases goS h with hs | h
    · obtain ⟨_, g', hgo, _⟩ := hs _ (RC.refl _)
      exact .inl ⟨_, _, _, hgo, .inl (one (evG_enable _))⟩
    · exact .inl h
  | sgo _ h =>
    rcases goS h with hs | h
    · obtain ⟨_, g', c, hgo, _⟩ := hs _ (RC.refl _)
      exact .inr (.inl ⟨_, _, _, hgo, hcom.deaf0, Deaf_absent fun i op hi e => by have := hcom.ct.gs i op hi; have := hcom.size; omega⟩)
    · exact .inl h
  | kd h =>
    rcases goS h with hs | h
    · obtain ⟨_, g', hgo, _⟩ := hs _ (RC.refl _)
      exact .inl ⟨_, _, _, hgo, .inl (one (evG_disable _))⟩
    · exact .inl h
  | anch h =>
    rcases goS h with hs | h
    · obtain ⟨m, hm⟩ := hAn _ _ (hs _ (RC.refl _))
      rcases goS hm with hs | h
      · exact .inl (atW1 (hs _ (RC.refl _)) trivial rfl)
      · exact .inl h
    · exact .inl h
  | w1 h =>
    rcases goS h with hs | h
    · exact .inl (atW1 (hs _ (RC.refl _)) trivial rfl)
    · exact .inl h
  | w2 h =>
    rename_i vs
    rcases goS h with hs | h
    · obtain ⟨_, hx⟩ := hs _ (RC.refl _)
      obtain ⟨_, e1, e2, _⟩ := hmode.open_inv trivial
      subst e1 e2
      simp only [pend, Nat.add_zero] at hwg'
      obtain ⟨hy, hno⟩ := hx (Vc n D) (by omega) hwg'
      by_cases e : Vc n D = vs
      · obtain ⟨g', hgo, _⟩ := hy e
        exact .inl ⟨_, _, _, hgo, .inl two⟩
      · obtain ⟨g', hgo, _⟩ := hno e
        exact .inl ⟨_, _, _, hgo, .inl (one (evG_rd _))⟩
    · exact .inl h
  | w3 h =>
    rcases goS h with hs | h
    · obtain ⟨_, _, h1, h2⟩ := hs _ (RC.refl _)
      cases hmode with
      | opn h _ _ => exact h.elim
      | reg _ _ _ => exact .inl ⟨_, _, _, h1 ⟨_, hwg'⟩, .inl (by simp)⟩
      | last L _ _ _ _ => exact .inl ⟨_, _, _, h1 ⟨_, hwg'⟩, .inl (by simp)⟩
      | sema _ =>
        obtain ⟨g', hgo, _⟩ := h2 hwg'
        exact .inl ⟨_, _, _, hgo, .inl (evG_sem _)⟩
      | fin h _ => exact h.elim
    · exact .inl h
  | blk h => cases hr
  | w4 h =>
    rcases goS h with hs | h
    · obtain ⟨_, hx⟩ := hs _ (RC.refl _)
      obtain ⟨_, e1, e2⟩ := hmode.fin_inv trivial
      subst e1 e2
      obtain ⟨g', hgo, _⟩ := hx hwg'
      exact .inl ⟨_, _, _, hgo, .inl (one (evG_rd _))⟩
    · exact .inl h
  | ke h =>
    rcases goS h with hs | h
    · obtain ⟨_, g', hgo, _⟩ := hs _ (RC.refl _)
      exact .inl ⟨_, _, _, hgo, .inl (one (evG_enable _))⟩
    · exact .inl h
  | acq h =>
    rcases goS h with hs | h
    · obtain ⟨_, g', hgo, _⟩ := hs _ (RC.refl _)
      exact .inl ⟨_, _, _, hgo, .inl (one (evG_acq _ _))⟩
    · exact .inl h
  | ret h =>
    rcases goS h with hs | h
    · obtain ⟨_, hx⟩ := hs _ (RC.refl _)
      obtain ⟨hq, rfl, rfl⟩ := hmode.fin_inv trivial
      obtain ⟨v, es, hgo, hev, _⟩ := hx (full_of hl hv hcom.pay fun i hi => hcom.has i hi (by rw [hq i hi]; omega))
      refine .inr (.inr ⟨_, _, _, hgo, .inr hev, ?_, fun i g hg => ?_⟩)
      · rw [Deaf_own, hcom.deaf0]
        exact deafBehind_still (fun e he => ⟨(hev e he).2.1, (hev e he).2.2.1⟩) 0
      · have hlt : i < n := by have := (Array.getElem?_eq_some_iff.1 hg).1; rw [hcom.size] at this; omega
        obtain ⟨g', hg', hs'⟩ := hcom.wk i hlt
        rw [hg] at hg'
        cases hg'
        rw [hcom.deafW i hlt]
        exact ⟨_, hs'.quits (hq i hlt)⟩
    · exact .inl h

/-! what is heard -/
theorem heard_new {t : Trace} {g : Nat} (hd : Deaf t g = 0) (fn : FuncId) (pos : String) : ∀ (l : List Event), (∀ e ∈ l, e.loc ≠ .mark .disable ∧ e.loc ≠ .mark .enable) → ∀ m, m < l.length → (t ++ MemOp.ofEvents g fn pos ⟨l⟩).heard (t.size + m) := by
  intro l
  induction l generalizing t with
  | nil => intro _ m hm; simp at hm
  | cons e l ih =>
    intro h m hm
    have e1 : t ++ MemOp.ofEvents g fn pos ⟨e :: l⟩ = (t ++ MemOp.ofEvents g fn pos #[e]) ++ MemOp.ofEvents g fn pos ⟨l⟩ := by
      rw [ofEvents_eq, ofEvents_eq, ofEvents_eq]; simp
    have hs : (t ++ MemOp.ofEvents g fn pos #[e]).size = t.size + 1 := by rw [ofEvents_eq]; simp
    cases m with
    | zero =>
      have h0 : (t ++ MemOp.ofEvents g fn pos #[e]).heard t.size := ⟨g, by rw [ofEvents_eq]; simp [Trace.g?], by rw [deaf_old (Nat.le_refl _)]; exact hd⟩
      rw [e1, Nat.add_zero]
      exact (heard_old (by rw [hs]; omega)).2 h0
    | succ m =>
      have hd' : Deaf (t ++ MemOp.ofEvents g fn pos #[e]) g = 0 := by
        rw [Deaf_own, hd]
        exact deafBehind_still (fun x hx => by simp at hx; subst hx; exact h _ (by simp)) 0
      have := ih hd' (fun x hx => h x (by simp [hx])) m (by simp at hm; omega)
      rw [e1]
      rw [hs] at this
      rw [show t.size + (m + 1) = t.size + 1 + m by omega]
      exact this
end Go.Proofs.Ytghglpcfpokmhaa.Ct
