/-
  THE GREAT MACHINE AND ITS TWO GHOSTS, the second with families of its own: what is held of them, over every step, up to the starter's return; places X that are not to be touched plainly. It names no program.
-/
import Derived.Test.YtghglpcfpokmhaaZEa
import Derived.Test.YtghglpcfpokmhaaZDj
set_option linter.unusedVariables false
set_option linter.unusedSimpArgs false
set_option linter.unusedSectionVars false
namespace Go.Proofs.Ytghglpcfpokmhaa.Ct
open Go Go.Conc Go.ConcN
open Go.ConcR (KK wgBlock WgAt stA smA rd wr mk Payload Aside2)
open Go.Proofs.Ytghglpcfpokmhaa.Lk (Lkd Wd)

/-- no place of X is touched plainly; what is atomic is goroutine 0's, or heard, or the group's -/
def Tk (X : Loc → Prop) (Wg : Nat) (t : Trace) : Prop := ∀ i x, touchAt t i = some x → (X x.loc → x.kind ≠ .plain) ∧ (x.kind = .atomic → t.g? i = some 0 ∨ t.heard i ∨ ShN Wg x.loc)
theorem Tk.app {X : Loc → Prop} {Wg : Nat} {t u : Trace} (h : Tk X Wg t) (hu : ∀ m op, u[m]? = some op → ∀ x, op.act.touch? = some x → (X x.loc → x.kind ≠ .plain) ∧ (x.kind = .atomic → op.g = 0 ∨ (t ++ u).heard (t.size + m) ∨ ShN Wg x.loc)) : Tk X Wg (t ++ u) := by
  intro i x hx
  obtain ⟨op, ho, hox⟩ := touch_of hx
  by_cases hi : i < t.size
  · have := h i x (by rw [← touchAt_old (u := u) hi]; exact hx)
    refine ⟨this.1, fun ha => ?_⟩
    rcases this.2 ha with h1 | h1 | h1
    · exact .inl (by rw [g?_old hi]; exact h1)
    · exact .inr (.inl ((heard_old hi).2 h1))
    · exact .inr (.inr h1)
  · obtain ⟨m, rfl⟩ : ∃ m, i = t.size + m := ⟨i - t.size, by omega⟩
    have hum : u[m]? = some op := by
      rw [Array.getElem?_append_right (by omega)] at ho
      simpa using ho
    have := hu m op hum x hox
    refine ⟨this.1, fun ha => ?_⟩
    rcases this.2 ha with h1 | h1 | h1
    · exact .inl (by simp [Trace.g?, ho, h1])
    · exact .inr (.inl h1)
    · exact .inr (.inr h1)
/-- who has done anything is below m, and behind something of goroutine 0's -/
def Rt (t : Trace) (m : Nat) : Prop := (∀ i g, t.g? i = some g → g < m) ∧ ∀ k, 1 ≤ k → k < m → ∃ s j, t.g? s = some k ∧ t.g? j = some 0 ∧ HappensBefore t j s ∧ (∀ i, t.g? i = some k → s ≤ i)
def Gz (t : Trace) : Prop := ∀ op ∈ t, ∀ k, op.act = .go k → k ≠ 0
theorem gz_ev {t : Trace} (h : Gz t) (g : Nat) (fn : FuncId) (pos : String) (es : Array Event) : Gz (t ++ MemOp.ofEvents g fn pos es) := fun op hop k hk => by
  rcases Array.mem_append.1 hop with hop | hop
  · exact h op hop k hk
  · obtain ⟨e, _, rfl⟩ := of_mem hop
    exact absurd hk (by simp only; unfold MemAct.ofEvent; split <;> simp)
theorem gz_spawn {t : Trace} (h : Gz t) {m : Nat} (hm : 0 < m) (fn fn' : FuncId) (pos pos' : String) (k' : Nat) : Gz (t ++ ((MemOp.ofEvents 0 fn pos #[]).push { g := 0, fn := fn, pos := pos, act := .go m } |>.push { g := k', fn := fn', pos := pos', act := .start })) := fun op hop k hk => by
  rcases Array.mem_append.1 hop with hop | hop
  · exact h op hop k hk
  · rcases Array.mem_push.1 hop with h1 | rfl
    · rcases Array.mem_push.1 h1 with h1 | rfl
      · rw [ofEvents_eq] at h1; simp at h1
      · cases hk; omega
    · cases hk
theorem g?_app {t u : Trace} {i g : Nat} (h : (t ++ u).g? i = some g) : (i < t.size ∧ t.g? i = some g) ∨ (t.size ≤ i ∧ ∃ op ∈ u, op.g = g) := by
  obtain ⟨op, ho, rfl⟩ := Option.map_eq_some_iff.1 h
  rcases getElem?_append_cases ho with ⟨h1, h2⟩ | ⟨h1, h2⟩
  · exact .inl ⟨h1, by simp [Trace.g?, h2]⟩
  · refine .inr ⟨?_, op, h2, rfl⟩
    first | exact h1 | omega
theorem Rt.app {t u : Trace} {m : Nat} (h : Rt t m) (hu : ∀ op ∈ u, op.g < m) : Rt (t ++ u) m := by
  refine ⟨fun i g hg => ?_, fun k k1 km => ?_⟩
  · rcases g?_app hg with ⟨_, h1⟩ | ⟨_, op, ho, rfl⟩
    · exact h.1 i g h1
    · exact hu op ho
  · obtain ⟨s, j, h1, h2, h3, h4⟩ := h.2 k k1 km
    refine ⟨s, j, by rw [g?_old (lt_of_g? h1)]; exact h1, by rw [g?_old (lt_of_g? h2)]; exact h2, hb_app u h3, fun i hi => ?_⟩
    rcases g?_app hi with ⟨_, h5⟩ | ⟨h5, _⟩
    · exact h4 i h5
    · have := lt_of_g? h1; omega
theorem Rt.spawn {t : Trace} {m : Nat} (h : Rt t m) (hm : 0 < m) (d0 : Deaf t 0 = 0) (dm : Deaf t m = 0) (fn fn' : FuncId) (pos pos' : String) : Rt (t ++ ((MemOp.ofEvents 0 fn pos #[]).push { g := 0, fn := fn, pos := pos, act := .go m } |>.push { g := m, fn := fn', pos := pos', act := .start })) (m + 1) := by
  have eo : MemOp.ofEvents 0 fn pos #[] = #[] := by rw [ofEvents_eq]; simp
  rw [eo]
  generalize hu : ((#[] : Trace).push { g := 0, fn := fn, pos := pos, act := .go m } |>.push { g := m, fn := fn', pos := pos', act := .start }) = u
  have hu2 : u = #[{ g := 0, fn := fn, pos := pos, act := .go m }, { g := m, fn := fn', pos := pos', act := .start }] := by rw [← hu]; rfl
  have hug : ∀ op ∈ u, op.g = 0 ∨ op.g = m := by
    intro op ho
    rw [hu2] at ho
    simp only [List.mem_toArray, List.mem_cons, List.not_mem_nil, or_false] at ho
    rcases ho with rfl | rfl
    · exact .inl rfl
    · exact .inr rfl
  have hxp : (t ++ u)[t.size]? = some { g := 0, fn := fn, pos := pos, act := .go m } := by rw [Array.getElem?_append_right (Nat.le_refl _), hu2]; simp
  have hyp : (t ++ u)[t.size + 1]? = some { g := m, fn := fn', pos := pos', act := .start } := by rw [Array.getElem?_append_right (by omega), hu2]; simp
  refine ⟨fun i g hg => ?_, fun k k1 km => ?_⟩
  · rcases g?_app hg with ⟨_, h1⟩ | ⟨_, op, ho, rfl⟩
    · have := h.1 i g h1; omega
    · rcases hug op ho with e | e <;> omega
  · by_cases hk : k = m
    · subst hk
      have e0 : (t ++ u).heard t.size := ⟨0, by simp [Trace.g?, hxp], by rw [deaf_old (Nat.le_refl _)]; exact d0⟩
      have e1 : (t ++ u).heard (t.size + 1) := ⟨k, by simp [Trace.g?, hyp], by rw [deaf_succ hxp, deaf_old (Nat.le_refl _)]; simp only [deafStep]; exact dm⟩
      refine ⟨t.size + 1, t.size, by simp [Trace.g?, hyp], by simp [Trace.g?, hxp], .single (.inr ⟨.spawn (child := k) (by rw [act?_of hxp]) (by rw [act?_of hyp]) (by simp [Trace.g?, hyp]), e0, e1⟩), fun i hi => ?_⟩
      rcases g?_app hi with ⟨_, h5⟩ | ⟨h5, _⟩
      · have := h.1 i k h5; omega
      · rcases Nat.lt_or_ge i (t.size + 1) with hlt | hge
        · exfalso
          have : i = t.size := by omega
          subst this
          simp [Trace.g?, hxp] at hi
          omega
        · exact hge
    · obtain ⟨s, j, h1, h2, h3, h4⟩ := h.2 k k1 (by omega)
      refine ⟨s, j, by rw [g?_old (lt_of_g? h1)]; exact h1, by rw [g?_old (lt_of_g? h2)]; exact h2, hb_app u h3, fun i hi => ?_⟩
      rcases g?_app hi with ⟨_, h5⟩ | ⟨h5, _⟩
      · exact h4 i h5
      · have := lt_of_g? h1; omega
theorem Rt.root {t : Trace} {m : Nat} (h : Rt t m) : ∀ i g, t.g? i = some g → g ≠ 0 → ∃ j, t.g? j = some 0 ∧ HappensBefore t j i := by
  intro i g hg hne
  obtain ⟨s, j, h1, h2, h3, h4⟩ := h.2 g (by omega) (h.1 i g hg)
  refine ⟨j, h2, ?_⟩
  rcases Nat.lt_or_ge s i with hlt | hge
  · exact h3.trans (.single (.inl ⟨hlt, g, h1, hg⟩))
  · have : s = i := by have := h4 i hg; omega
    rw [← this]; exact h3
/-- the families, and the places that are not to be touched -/
structure Fam (X : Loc → Prop) (Wg : Nat) (Own Rd Own1 Rd1 : Nat → Loc → Prop) : Prop where
  own : ∀ k l, Own k l → ¬ X l
  rd : ∀ k l, Rd k l → ¬ X l
  grp : ∀ l, ShN Wg l → ¬ X l
  own1 : ∀ l, X l → Own1 1 l
section
variable [Payload]
variable {X : Loc → Prop} {Wg : Nat} {Own Rd Own1 Rd1 : Nat → Loc → Prop} {t : Trace}
theorem Tk.worker (hX : Fam X Wg Own Rd Own1 Rd1) (h : Tk X Wg t) {i : Nat} {es : Array Event} (he : EvsW Wg Own Rd i t es) (fn : FuncId) (pos : String) : Tk X Wg (t ++ MemOp.ofEvents (i + 1) fn pos es) := by
  refine h.app fun m op ho x hx => ?_
  have hm : m < es.size := by
    have := (Array.getElem?_eq_some_iff.1 ho).1
    rw [ofEvents_eq] at this
    simpa using this
  obtain ⟨e, hes, rfl⟩ := of_mem (Array.mem_of_getElem? ho)
  rcases he with he | ⟨hd, he⟩
  · obtain ⟨h1, h2⟩ := he e hes x hx
    exact ⟨fun _ => h2, fun _ => .inr (.inr h1)⟩
  · obtain ⟨l⟩ := es
    refine ⟨fun hxx => ?_, fun _ => .inr (.inl (heard_new hd fn pos l (fun e he' => ⟨(he e (by simpa using he')).2.1, (he e (by simpa using he')).2.2.1⟩) m (by simpa using hm)))⟩
    rcases ((he e hes).1 fn pos).2 x hx with ⟨h1, h2, _⟩ | h1 | ⟨h1, _⟩
    · exact h2
    · exact absurd hxx (hX.own _ _ h1)
    · exact absurd hxx (hX.rd _ _ h1)
theorem Tk.starter (hX : Fam X Wg Own Rd Own1 Rd1) (h : Tk X Wg t) {j : Nat} (hj : 1 ≤ j) {es : Array Event} (he : EvsC Wg Own1 Rd1 j es) (fn : FuncId) (pos : String) : Tk X Wg (t ++ MemOp.ofEvents 0 fn pos es) := by
  refine h.app fun m op ho x hx => ?_
  obtain ⟨e, hes, rfl⟩ := of_mem (Array.mem_of_getElem? ho)
  refine ⟨fun hxx => ?_, fun _ => .inl rfl⟩
  rcases he with he | he
  · exact (he e hes x hx).2
  · rcases ((he e hes).1 fn pos).2 x hx with ⟨_, h2⟩ | ⟨_, h2, _⟩
    · exact h2
    · exact absurd (hX.own1 _ hxx) (h2 1 (Nat.le_refl _) hj)
theorem Tk.spawn (h : Tk X Wg t) (fn fn' : FuncId) (pos pos' : String) (k k' : Nat) : Tk X Wg (t ++ ((MemOp.ofEvents 0 fn pos #[]).push { g := 0, fn := fn, pos := pos, act := .go k } |>.push { g := k', fn := fn', pos := pos', act := .start })) := by
  refine h.app fun m op ho x hx => ?_
  have := Array.mem_of_getElem? ho
  rcases Array.mem_push.1 this with h1 | rfl
  · rcases Array.mem_push.1 h1 with h1 | rfl
    · rw [ofEvents_eq] at h1; simp at h1
    · cases hx
  · cases hx
end
variable [Payload]
/-- a starter on its way ahead of its first worker -/
structure SkOk (P : Program) (Wg : Nat) (Own Rd : Nat → Loc → Prop) (Sk : Goroutine → World → Prop) : Prop where
  at' : ∀ a w d, Sk a w → Sk a (w.at d)
  step : ∀ a w, Sk a w → a.status = .running → (∃ a' w' es, stepG P true a w = .go a' w' es ∧ EvsC Wg Own Rd 1 es ∧ Sk a' w') ∨ (∃ a' c w', stepG P true a w = .spawn a' c w' #[]) ∨ ∃ v w' es, stepG P true a w = .ended (.done v) w' es ∧ EvsC Wg Own Rd 1 es


theorem woken_same {P : Program} (g g' : Goroutine) (w : World) (a : Goroutine) : (woken P g g' w a).frame = a.frame ∧ (woken P g g' w a).callers = a.callers ∧ (woken P g g' w a).dying = a.dying ∧ (woken P g g' w a).offers = a.offers := by
  unfold woken
  split
  · obtain ⟨fr, up, st, dy, off⟩ := a
    cases st <;> cases off <;> simp only [Goroutine.again, and_self]
    split <;> exact ⟨rfl, rfl, rfl, rfl⟩
  · exact ⟨rfl, rfl, rfl, rfl⟩

section
variable (P : Program) (F : FuncId → Prop) (ty : TypeId) (Wg C n : Nat) (X : Loc → Prop) (Sk : Goroutine → World → Prop) (Own Rd Own1 Rd1 : Nat → Loc → Prop) (Lw : Nat → Nat) (val : Nat → Value) (vals : List Value) (A0 A1 : Goroutine → World → Prop) (Q0 Q1 : Value → World → Prop) (b : Nat) (cs : List Frame) (p : Trace)
def Sim (q : Nat → Nat) (μ : Nat × Nat) (m : Machine) (T : Trace) : Prop :=
  ∃ (gs gs1 R : Array Goroutine) (w : World) (slr sl0 sl1 : Option (Nat × Nat)) (a : Goroutine) (t : Trace) (μ1 : Nat × Nat),
    m = crowd R w slr ∧ gs[0]? = some a ∧ Rel b cs gs R ∧ Rel 0 [s1 P, s2 P] gs gs1 ∧ ElT P b q R T ∧
    Inv P ty Wg C n Own Rd Lw val vals A0 Q0 μ (crowd gs w sl0) t ∧ Inv P ty Wg C n Own1 Rd1 Lw val vals A1 Q1 μ1 (crowd gs1 w sl1) t ∧ Lkd b p t T ∧ Tk X Wg t ∧ Rt t gs.size ∧ Gz t ∧ (gs.size = 1 → Sk a w) ∧
    OkF P F a.frame ∧ (∀ f ∈ a.callers, OkF P F f) ∧ (a.dying = none ∧ a.offers = none) ∧ GC P w
end

section
variable {P : Program} {F : FuncId → Prop} {ty : TypeId} {Wg C n : Nat} {X : Loc → Prop} {Sk : Goroutine → World → Prop} {Own Rd Own1 Rd1 : Nat → Loc → Prop} {Lw : Nat → Nat} {val : Nat → Value} {vals : List Value} {A0 A1 : Goroutine → World → Prop} {Q0 Q1 : Value → World → Prop} {b : Nat} {cs : List Frame} {p : Trace}
  {q : Nat → Nat} {μ : Nat × Nat} {R : Array Goroutine} {w : World} {slr : Option (Nat × Nat)} {T : Trace}

/-- a worker's step -/
theorem sim_worker (A : Apart (ShN Wg) Own Rd) (A' : Apart (ShN Wg) Own1 Rd1) (hX : Fam X Wg Own Rd Own1 Rd1) {RdX : Nat → Loc → Prop} (hSk : SkOk P Wg Own1 RdX Sk) (Ge : Geo Wg C Lw) (hn : n < 2147483648) (h0 : ∀ g w, A0 g w → g.status = .running) (h1 : ∀ g w, A1 g w → g.status = .running)
    (h : Sim P F ty Wg C n X Sk Own Rd Own1 Rd1 Lw val vals A0 A1 Q0 Q1 b cs p q μ (crowd R w slr) T) {k : Nat} {g : Goroutine} (hg : R[b + (k + 1)]? = some g) (hr : g.status = .running) (d : Nat) (sl : Option (Nat × Nat)) :
    ∃ m' ops μ', runT P (crowd R (w.at d) sl) (b + (k + 1)) = (.next m', ops) ∧ Lt2 μ' μ ∧ Sim P F ty Wg C n X Sk Own Rd Own1 Rd1 Lw val vals A0 A1 Q0 Q1 b cs p q μ' m' (T ++ ops) := by
  obtain ⟨gs, gs1, R₁, w₁, slr₁, sl0, sl1, a, t, μ1, e, ha, hR, hR1, hE, hI0, hI1, hL, hTk, hRt, hGz, hFs, hf, hu, hdy, hgc⟩ := h
  obtain ⟨rfl, rfl, rfl⟩ := crowd_inj e
  have hg0 : gs[k + 1]? = some g := by rw [← hR.wk (k + 1) (by omega)]; exact hg
  have hg1 : gs1[k + 1]? = some g := by have := hR1.wk (k + 1) (by omega); rw [Nat.zero_add] at this; rw [this]; exact hg0
  obtain ⟨g', w', es, hgo, hevs⟩ := inv_workerEv hn hI0 hg0 hr d
  have n1 : (b + (k + 1) == 0) = false := by simp
  have n2 : (k + 1 == 0) = false := by simp
  have r := runT_crowd_go (P := P) (sl := sl) (i := b + (k + 1)) (w := w.at d) hg (by rw [n1]; exact hgo)
  have r0 := runT_crowd_go (P := P) (sl := sl) (i := k + 1) (w := w.at d) hg0 (by rw [n2]; exact hgo)
  have r1 := runT_crowd_go (P := P) (sl := sl) (i := k + 1) (w := w.at d) hg1 (by rw [n2]; exact hgo)
  obtain ⟨m0, o0, μ', e0, hlt, hI0'⟩ := inv_stepW A Ge hn h0 hI0 hg0 hr d sl
  obtain ⟨m1, o1, μ1', e1, _, hI1'⟩ := inv_stepW A' Ge hn h1 hI1 hg1 hr d sl
  rw [r0] at e0
  rw [r1] at e1
  cases e0
  cases e1
  obtain ⟨s1', s2', s3', s4'⟩ := woken_same (P := P) g g' w' a
  refine ⟨_, _, μ', r, hlt, _, _, _, w', sl, sl, sl, woken P g g' w' a, _, μ1', rfl, ?_, hR.stepW (k := k + 1) (by omega) g g' w', ?_, hE.other (.inr (by omega)) g g' g' w' _ _ es, hI0', hI1', ?_, hTk.worker hX hevs _ _, ?_, gz_ev hGz _ _ _ _, fun hs => ?_, ?_, ?_, ?_, ?_⟩
  · rw [Array.getElem?_setIfInBounds_ne (by omega), Array.getElem?_map, ha]; rfl
  · have := hR1.stepW (P := P) (k := k + 1) (by omega) g g' w'
    rwa [Nat.zero_add] at this
  · have := hL.events (k + 1) g.frame.fn g.frame.place es
    rwa [Lk.nr_pos (by omega)] at this
  · have hk := (Array.getElem?_eq_some_iff.1 hg0).1
    have es0 : ((gs.map (woken P g g' w')).setIfInBounds (k + 1) g').size = gs.size := by simp
    rw [es0]
    exact hRt.app fun op hop => by obtain ⟨e, _, rfl⟩ := of_mem hop; exact hk
  · have := (Array.getElem?_eq_some_iff.1 hg0).1
    simp at hs
    omega
  · rw [s1']; exact hf
  · rw [s2']; exact hu
  · rw [s3', s4']; exact hdy
  · intro x hx
    have := stepG_cells (P := P) (main := false) (g := g) (w := w.at d) (b := x) (hgc x hx)
    rw [hgo] at this
    exact this

/-- an elder one's step -/
theorem sim_elder {RdX : Nat → Loc → Prop} (hSk : SkOk P Wg Own1 RdX Sk) (h0 : ∀ g w, A0 g w → g.status = .running) (h1 : ∀ g w, A1 g w → g.status = .running)
    (h : Sim P F ty Wg C n X Sk Own Rd Own1 Rd1 Lw val vals A0 A1 Q0 Q1 b cs p q μ (crowd R w slr) T) {i : Nat} (hi : 1 ≤ i) (hb : i ≤ b) {g : Goroutine} (hg : R[i]? = some g) (hr : g.status = .running) (d : Nat) (sl : Option (Nat × Nat)) :
    ∃ m' ops k μ', runT P (crowd R (w.at d) sl) i = (.next m', ops) ∧ q i = k + 1 ∧ Sim P F ty Wg C n X Sk Own Rd Own1 Rd1 Lw val vals A0 A1 Q0 Q1 b cs p (fun x => if x = i then k else q x) μ' m' (T ++ ops) := by
  obtain ⟨gs, gs1, R₁, w₁, slr₁, sl0, sl1, a, t, μ1, e, ha, hR, hR1, hE, hI0, hI1, hL, hTk, hRt, hGz, hFs, hf, hu, hdy, hgc⟩ := h
  obtain ⟨rfl, rfl, rfl⟩ := crowd_inj e
  obtain ⟨k, g', ops, hk, r, hm, hE'⟩ := elder_step (w := w.at d) hE hi hb hg hr sl
  obtain ⟨μ', hI0'⟩ := inv_wake h0 hI0 g g' d sl
  obtain ⟨μ1', hI1'⟩ := inv_wake h1 hI1 g g' d sl
  obtain ⟨s1', s2', s3', s4'⟩ := woken_same (P := P) g g' (w.at d) a
  refine ⟨_, ops, k, μ', r, hk, _, _, _, w.at d, sl, sl, sl, woken P g g' (w.at d) a, t, μ1', rfl, by rw [Array.getElem?_map, ha]; rfl, hR.stepE hi hb g g' _, ?_, hE', hI0', hI1', hL.mutes ops hm, hTk, by rw [Array.size_map]; exact hRt, hGz, fun hs => ?_, by rw [s1']; exact hf, by rw [s2']; exact hu, by rw [s3', s4']; exact hdy, hgc⟩
  case refine_2 =>
    have hs' : gs.size = 1 := by simpa using hs
    have hrun : a.status = .running := by
      obtain ⟨_, i, x, hx, hxr⟩ := inv_awake h0 hI0
      have hi : i = 0 := by have := (Array.getElem?_eq_some_iff.1 hx).1; omega
      subst hi
      rw [ha] at hx
      cases hx
      exact hxr
    rw [woken_run hrun]
    exact hSk.at' _ _ _ (hFs hs')
  refine ⟨by simpa using hR1.pos, by simpa using hR1.size, ?_, fun x hx => ?_⟩
  · rw [Array.getElem?_map, Array.getElem?_map, hR1.zero, ha]
    simp only [Option.map_some, woken_onG]
  · rw [Array.getElem?_map, Array.getElem?_map, hR1.wk x hx]
end

/-- what is asked of the anchors and the scripts, for callers none and for the two frames that tell -/
structure Ask (P : Program) (ty : TypeId) (Wg C n : Nat) (Own Rd : Nat → Loc → Prop) (Lw : Nat → Nat) (vals : List Value) (An : Goroutine → World → Prop) (Q : Value → World → Prop) : Prop where
  run : ∀ g w, An g w → g.status = .running
  live : ∀ g w, An g w → ¬ Dy g ∧ ¬ Pn P g
  on : ∀ g w, An g w → ∃ m, Goes P true (RC ty Wg C) (DP Wg Own Rd n (Lw n)) (AtW1 P ty Wg C n Own Rd (Lw n) vals An Q) m g w


section
variable {P : Program} {F : FuncId → Prop} {ty : TypeId} {Wg C n : Nat} {X : Loc → Prop} {Sk : Goroutine → World → Prop} {Own Rd Own1 Rd1 : Nat → Loc → Prop} {Lw : Nat → Nat} {val : Nat → Value} {vals : List Value} {A0 A1 : Goroutine → World → Prop} {Q0 Q1 : Value → World → Prop} {b : Nat} {cs : List Frame} {p : Trace}
  {q : Nat → Nat} {μ : Nat × Nat} {R : Array Goroutine} {w : World} {slr : Option (Nat × Nat)} {T : Trace}
theorem pn_running {g : Goroutine} (h : Pn P g) : g.status = .running := by
  rcases h with ⟨_, _, rfl, _⟩ | ⟨_, rfl⟩ | ⟨_, rfl⟩ <;> rfl

theorem ElT.push (h : ElT P b q R T) (hb : b < R.size) (x c : Goroutine) (fn fn' : FuncId) (pos pos' : String) (es : Array Event) (k : Nat) :
    ElT P b q ((R.setIfInBounds 0 x).push c) (T ++ ((MemOp.ofEvents 0 fn pos es).push { g := 0, fn := fn, pos := pos, act := .go k } |>.push { g := R.size, fn := fn', pos := pos', act := .start })) := by
  intro i hi hb'
  obtain ⟨y, hy, hq⟩ := h i hi hb'
  refine ⟨y, by rw [Array.getElem?_push, if_neg (by simp; omega), Array.getElem?_setIfInBounds_ne (by omega), hy], ?_⟩
  have e : T ++ ((MemOp.ofEvents 0 fn pos es).push { g := 0, fn := fn, pos := pos, act := .go k } |>.push { g := R.size, fn := fn', pos := pos', act := .start }) = (T ++ (MemOp.ofEvents 0 fn pos es).push { g := 0, fn := fn, pos := pos, act := .go k }) ++ #[{ g := R.size, fn := fn', pos := pos', act := .start }] := by simp
  rw [e, Deaf_other _ (g := i) (g' := R.size) (by omega) _ (by simp), Deaf_other T (g := i) (g' := 0) (by omega) _ (fun o ho => ?_)]
  · exact hq
  · rcases Array.mem_push.1 ho with ho | rfl
    · obtain ⟨e, _, rfl⟩ := of_mem ho; rfl
    · rfl

/-- THE STARTER's STEP -/
theorem sim_starter (hF : SetOk P F) (hP : Late P) (A : Apart (ShN Wg) Own Rd) (A' : Apart (ShN Wg) Own1 Rd1) (hX : Fam X Wg Own Rd Own1 Rd1) {RdX : Nat → Loc → Prop} (hSk : SkOk P Wg Own1 RdX Sk) (Ge : Geo Wg C Lw) (hn : n < 2147483648) (h0 : Ask P ty Wg C n Own Rd Lw vals A0 Q0) (h1 : Ask P ty Wg C n Own1 Rd1 Lw vals A1 Q1)
    (hl : vals.length = n) (hv : ∀ i, i < n → vals[i]? = some (val i))
    (h : Sim P F ty Wg C n X Sk Own Rd Own1 Rd1 Lw val vals A0 A1 Q0 Q1 b cs p q μ (crowd R w slr) T) {g : Goroutine} (hg : R[0]? = some g) (hr : g.status = .running) (d : Nat) (sl : Option (Nat × Nat)) :
    (∃ m' ops μ', runT P (crowd R (w.at d) sl) 0 = (.next m', ops) ∧ Lt2 μ' μ ∧ Sim P F ty Wg C n X Sk Own Rd Own1 Rd1 Lw val vals A0 A1 Q0 Q1 b cs p q μ' m' (T ++ ops)) ∨
    ∃ gs a t o w' es sl0, Rel b cs gs R ∧ gs[0]? = some a ∧ stepG P true a (w.at d) = .ended o w' es ∧ Good P Q0 (crowd gs w sl0) o w' (t ++ MemOp.ofEvents 0 a.frame.fn a.frame.place es) ∧ Lkd b p t T ∧ Tk X Wg (t ++ MemOp.ofEvents 0 a.frame.fn a.frame.place es) ∧ Rt t gs.size ∧ Gz t ∧ Deaf (t ++ MemOp.ofEvents 0 a.frame.fn a.frame.place es) 0 = 0 ∧ (∀ i g, gs[i + 1]? = some g → ∃ q, QuitsD P q (Deaf t (i + 1)) g) ∧ OkF P F a.frame ∧ a = G a.frame a.callers ∧ ElT P b q R T ∧ GC P w := by
  obtain ⟨gs, gs1, R₁, w₁, slr₁, sl0, sl1, a, t, μ1, e, ha, hR, hR1, hE, hI0, hI1, hL, hTk, hRt, hGz, hFs, hf, hu, hdy, hgc⟩ := h
  obtain ⟨rfl, rfl, rfl⟩ := crowd_inj e
  obtain rfl : g = onG cs a := by
    have := hR.zero
    rw [hg, ha] at this
    exact Option.some.inj this
  have ha1 : gs1[0]? = some (onG [s1 P, s2 P] a) := by rw [hR1.zero, ha]; rfl
  have hra : a.status = .running := hr
  have eG : ∀ xs, onG xs a = G a.frame (a.callers ++ xs) := fun xs => by
    obtain ⟨fr, up, st, dy, off⟩ := a
    obtain ⟨rfl, rfl⟩ := hdy
    simp only at hra
    subst hra
    rfl
  have ea : a = G a.frame a.callers := by
    have := eG []
    simpa [onG] using this
  have hpan : a.callers = [] → a.frame.defers = [] → ∀ ch, a.frame.mode ≠ .panicking ch := fun e1 e2 ch e3 => by
    refine inv_live bd_pn (fun g h => pn_running h) (fun g w h => (h1.live g w h).2) h1.run Ge hI1 ha1 (.inl ⟨a.frame, ch, by rw [eG, e1]; rfl, e3, e2, ?_⟩)
    obtain ⟨fn, c, hfn, _, _⟩ := hF.code _ hf.fn
    simp [Frame.catches, hfn]
  have hgc' : GC P (w.at d) := hgc
  have hap := step_ap (w := w.at d) hF hf hu (fun s hs => set1_of hP hgc' hs) hpan
  have nz : ((0 : Nat) == 0) = true := rfl
  have hp0 := hR.pos
  have hp1 : 0 < gs1.size := by have := hR1.size; omega
  have cells : ∀ {w' : World}, wst (stepG P true a (w.at d)) = w' → GC P w' := fun e x hx => by
    have := stepG_cells (P := P) (main := true) (g := a) (w := w.at d) (b := x) (hgc x hx)
    rw [e] at this
    exact this
  have z1 : gs1.size = gs.size := by have := hR1.size; omega
  have ev2 : ∀ {g' : Goroutine} {w' : World} {es : Array Event}, gs.size = 1 → stepG P true a (w.at d) = .go g' w' es → Tk X Wg (t ++ MemOp.ofEvents 0 a.frame.fn a.frame.place es) ∧ Sk g' w' := fun h2 e => by
    rcases hSk.step _ _ (hSk.at' _ _ d (hFs h2)) hra with ⟨_, _, _, e', he, hk⟩ | ⟨_, _, _, e'⟩ | ⟨_, _, _, e', _⟩
    · rw [e'] at e
      cases e
      exact ⟨hTk.starter ⟨hX.own, hX.rd, hX.grp, hX.own1⟩ (Nat.le_refl _) he _ _, hk⟩
    · rw [e'] at e; cases e
    · rw [e'] at e; cases e
  have ev1 : ∀ {g' : Goroutine} {w' : World} {es : Array Event}, 2 ≤ gs.size → stepG P true (onG [s1 P, s2 P] a) (w.at d) = .go g' w' es → Tk X Wg (t ++ MemOp.ofEvents 0 a.frame.fn a.frame.place es) := fun h2 e => by
    rcases inv_starterEv hn h1.on hl hv hI1 ha1 hra d with ⟨_, _, _, e', he⟩ | ⟨_, _, _, e', _⟩ | ⟨_, _, _, e', _⟩
    · rw [e'] at e
      cases e
      exact hTk.starter hX (by omega) he _ _
    · rw [e'] at e; cases e
    · rw [e'] at e; cases e
  rcases hap with ⟨a', w', es, e, hD⟩ | ⟨o, w', es, e⟩ | ⟨a', w', es, e, hd', hf', hu', hs⟩ | ⟨a', c, w', es, e, hd', hf', hu', hs⟩
  · simp only [← ea] at e
    have r0 := runT_crowd_go (P := P) (sl := sl) (i := 0) (w := w.at d) ha e
    rcases inv_step0 A Ge hn h0.on hl hv hI0 ha hra d sl with ⟨o, w₂, ops, e0, _⟩ | ⟨m', ops, μ', e0, _, hI⟩
    · rw [r0] at e0; cases e0
    · rw [r0] at e0
      cases e0
      exact absurd hD (inv_live bd_dy (fun g h => h.1) (fun g w h => (h0.live g w h).1) h0.run Ge hI (Array.getElem?_setIfInBounds_self_of_lt (by simpa using hp0)))
  · simp only [← ea] at e
    have r0 := runT_crowd_ended (P := P) (sl := sl) (i := 0) (w := w.at d) ha e
    rcases inv_step0 A Ge hn h0.on hl hv hI0 ha hra d sl with ⟨o', w₂, ops, e0, hG⟩ | ⟨m', ops, μ', e0, _, hI⟩
    · rw [r0] at e0
      cases e0
      obtain ⟨v, ho, _⟩ := id hG
      subst ho
      have hret := ret_real hF hf (by rw [← ea]; exact e)
      have hT2 : Tk X Wg (t ++ MemOp.ofEvents 0 a.frame.fn a.frame.place es) := by
        rcases Nat.lt_or_ge gs.size 2 with hlt | hge
        · rcases hSk.step _ _ (hSk.at' _ _ d (hFs (by omega))) hra with ⟨_, _, _, e', _⟩ | ⟨_, _, _, e'⟩ | ⟨_, _, _, e', he⟩
          · rw [e'] at e; cases e
          · rw [e'] at e; cases e
          · rw [e'] at e
            cases e
            exact hTk.starter ⟨hX.own, hX.rd, hX.grp, hX.own1⟩ (Nat.le_refl _) he _ _
        · refine ev1 hge (g' := G ((s1 P).finish v) [s2 P]) (w' := w') ?_
          rw [eG, hret.1]
          exact hret.2 (s1 P) [s2 P]
      have hq : Deaf (t ++ MemOp.ofEvents 0 a.frame.fn a.frame.place es) 0 = 0 ∧ ∀ i g, gs[i + 1]? = some g → ∃ q, QuitsD P q (Deaf t (i + 1)) g := by
        rcases inv_starterEv hn h0.on hl hv hI0 ha hra d with ⟨_, _, _, e', _⟩ | ⟨_, _, _, e', _⟩ | ⟨_, _, _, e', _, h3, h4⟩
        · rw [e] at e'; cases e'
        · rw [e] at e'; cases e'
        · rw [e] at e'
          cases e'
          exact ⟨h3, h4⟩
      refine .inr ⟨gs, a, t, _, w', es, sl0, hR, ha, e, hG, hL, hT2, hRt, hGz, hq.1, hq.2, hf, ea, hE, hgc⟩
    · rw [r0] at e0; cases e0
  · simp only [← ea] at e
    simp only [← eG] at hs
    have r0 := runT_crowd_go (P := P) (sl := sl) (i := 0) (w := w.at d) ha e
    have r1 := runT_crowd_go (P := P) (sl := sl) (i := 0) (w := w.at d) ha1 (hs [s1 P, s2 P])
    have r := runT_crowd_go (P := P) (sl := sl) (i := 0) (w := w.at d) hg (hs cs)
    rcases inv_step0 A Ge hn h0.on hl hv hI0 ha hra d sl with ⟨o, w₂, ops, e0, _⟩ | ⟨m', ops, μ', e0, hlt, hI0'⟩
    · rw [r0] at e0; cases e0
    rcases inv_step0 A' Ge hn h1.on hl hv hI1 ha1 hra d sl with ⟨o, w₂, ops1, e1, _⟩ | ⟨m1, ops1, μ1', e1, _, hI1'⟩
    · rw [r1] at e1; cases e1
    rw [r0] at e0
    rw [r1] at e1
    cases e0
    cases e1
    refine .inl ⟨_, _, μ', r, hlt, _, _, _, w', sl, sl, sl, a', _, μ1', rfl, Array.getElem?_setIfInBounds_self_of_lt (by simpa using hp0), hR.step0 a a' w', hR1.step0 a a' w', hE.other (.inl rfl) _ _ _ _ _ _ es, hI0', hI1', ?_, ?_, ?_, gz_ev hGz _ _ _ _, fun hs1 => ?_, hf', hu', hd', cells (by rw [e]; rfl)⟩
    · exact hL.events 0 a.frame.fn a.frame.place es
    · rcases Nat.lt_or_ge gs.size 2 with hlt | hge
      · exact (ev2 (by omega) e).1
      · exact ev1 hge (hs [s1 P, s2 P])
    · have es0 : ((gs.map (woken P a a' w')).setIfInBounds 0 a').size = gs.size := by simp
      rw [es0]
      exact hRt.app fun op hop => by obtain ⟨e, _, rfl⟩ := of_mem hop; exact hp0
    · have es0 : ((gs.map (woken P a a' w')).setIfInBounds 0 a').size = gs.size := by simp
      rw [es0] at hs1
      exact (ev2 hs1 e).2
  · simp only [← ea] at e
    simp only [← eG] at hs
    have r0 := runT_crowd_spawn (P := P) (sl := sl) (i := 0) (w := w.at d) ha e
    have r1 := runT_crowd_spawn (P := P) (sl := sl) (i := 0) (w := w.at d) ha1 (hs [s1 P, s2 P])
    have r := runT_crowd_spawn (P := P) (sl := sl) (i := 0) (w := w.at d) hg (hs cs)
    rw [z1] at r1
    rcases inv_step0 A Ge hn h0.on hl hv hI0 ha hra d sl with ⟨o, w₂, ops, e0, _⟩ | ⟨m', ops, μ', e0, hlt, hI0'⟩
    · rw [r0] at e0; cases e0
    rcases inv_step0 A' Ge hn h1.on hl hv hI1 ha1 hra d sl with ⟨o, w₂, ops1, e1, _⟩ | ⟨m1, ops1, μ1', e1, _, hI1'⟩
    · rw [r1] at e1; cases e1
    rw [r0] at e0
    rw [r1] at e1
    cases e0
    cases e1
    refine .inl ⟨_, _, μ', r, hlt, _, _, _, w', sl, sl, sl, a', _, μ1', rfl, ?_, hR.spawn a' c, hR1.spawn a' c, ?_, hI0', hI1', ?_, ?_, ?_, ?_, fun hs1 => ?_, hf', hu', hd', cells (by rw [e]; rfl)⟩
    · rw [Array.getElem?_push, if_neg (by simp; omega), Array.getElem?_setIfInBounds_self_of_lt hp0]
    · exact hE.push (by have := hR.size; omega) _ _ _ _ _ _ _ _
    · rw [hR.size]
      exact hL.spawn gs.size (by omega) a.frame.fn c.frame.fn a.frame.place a.frame.place es
    · rcases inv_starterEv hn h1.on hl hv hI1 ha1 hra d with ⟨_, _, _, e', _⟩ | ⟨_, _, _, e', _⟩ | ⟨_, _, _, e', _⟩
      · rw [hs] at e'; cases e'
      · rw [hs] at e'
        cases e'
        exact hTk.spawn _ _ _ _ _ _
      · rw [hs] at e'; cases e'
    · rcases inv_starterEv hn h0.on hl hv hI0 ha hra d with ⟨_, _, _, e', _⟩ | ⟨_, _, _, e', d1, d2⟩ | ⟨_, _, _, e', _⟩
      · rw [e] at e'; cases e'
      · rw [e] at e'
        cases e'
        rw [Array.size_push, Array.size_setIfInBounds]
        exact hRt.spawn hp0 d1 d2 _ _ _ _
      · rw [e] at e'; cases e'
    · rcases inv_starterEv hn h0.on hl hv hI0 ha hra d with ⟨_, _, _, e', _⟩ | ⟨_, _, _, e', d1, d2⟩ | ⟨_, _, _, e', _⟩
      · rw [e] at e'; cases e'
      · rw [e] at e'
        cases e'
        exact gz_spawn hGz hp0 _ _ _ _ _
      · rw [e] at e'; cases e'
    · rw [Array.size_push, Array.size_setIfInBounds] at hs1
      omega

def qs (b : Nat) (q : Nat → Nat) : Nat := sumTo b fun i => q (i + 1)
theorem qs_upd {i k : Nat} (hi : 1 ≤ i) (hb : i ≤ b) (hk : q i = k + 1) : qs b (fun x => if x = i then k else q x) < qs b q := by
  obtain ⟨j, rfl⟩ : ∃ j, i = j + 1 := ⟨i - 1, by omega⟩
  have := sumTo_upd (fun i => q (i + 1)) k id (show j < b by omega)
  have e : (fun x => id (upd (fun i => q (i + 1)) j k x)) = fun x => if x + 1 = j + 1 then k else q (x + 1) := by
    funext x
    by_cases hx : x = j
    · subst hx; simp [upd_same]
    · simp [upd_ne _ _ hx, hx]
  unfold qs
  simp only [id] at this
  simp only [id] at e
  rw [e] at this
  show (sumTo b fun i => if i + 1 = j + 1 then k else q (i + 1)) < sumTo b fun i => q (i + 1)
  omega

theorem sim_pick (h0 : Ask P ty Wg C n Own Rd Lw vals A0 Q0) (h : Sim P F ty Wg C n X Sk Own Rd Own1 Rd1 Lw val vals A0 A1 Q0 Q1 b cs p q μ (crowd R w slr) T) :
    ∃ (i : Nat) (g : Goroutine) (d : Nat) (sl : Option (Nat × Nat)), R[i]? = some g ∧ g.status = .running ∧ stepT P (crowd R w slr) = runT P (crowd R (w.at d) sl) i := by
  obtain ⟨gs, gs1, R₁, w₁, slr₁, sl0, sl1, a, t, μ1, e, ha, hR, hR1, hE, hI0, hI1, hL, hTk, hRt, hGz, hFs, hf, hu, hdy, hgc⟩ := h
  obtain ⟨rfl, rfl, rfl⟩ := crowd_inj e
  obtain ⟨haw, i, g, hgi, hrun⟩ := inv_awake h0.run hI0
  have hz : R[0]? = some (onG cs a) := by rw [hR.zero, ha]; rfl
  refine crowd_pick (fun x hx => ?_) ?_
  · obtain ⟨j, hj⟩ := Array.mem_iff_getElem?.1 hx
    rcases Nat.lt_trichotomy j 0 with h | rfl | hp
    · omega
    · rw [hz] at hj
      cases hj
      exact haw a (Array.mem_of_getElem? ha)
    · by_cases hb : j ≤ b
      · obtain ⟨y, hy, hq⟩ := hE j (by omega) hb
        rw [hj] at hy
        cases hy
        intro tm
        rcases hq.status with e | e <;> rw [e] <;> simp
      · obtain ⟨k, rfl⟩ : ∃ k, j = b + k := ⟨j - b, by omega⟩
        rw [hR.wk k (by omega)] at hj
        exact haw x (Array.mem_of_getElem? hj)
  · by_cases h0 : i = 0
    · subst h0
      rw [ha] at hgi
      cases hgi
      exact ⟨0, _, hz, hrun⟩
    · exact ⟨b + i, g, by rw [hR.wk i (by omega)]; exact hgi, hrun⟩

/-- EVERY STEP -/
theorem sim_step (hF : SetOk P F) (hP : Late P) (A : Apart (ShN Wg) Own Rd) (A' : Apart (ShN Wg) Own1 Rd1) (hX : Fam X Wg Own Rd Own1 Rd1) {RdX : Nat → Loc → Prop} (hSk : SkOk P Wg Own1 RdX Sk) (Ge : Geo Wg C Lw) (hn : n < 2147483648) (h0 : Ask P ty Wg C n Own Rd Lw vals A0 Q0) (h1 : Ask P ty Wg C n Own1 Rd1 Lw vals A1 Q1)
    (hl : vals.length = n) (hv : ∀ i, i < n → vals[i]? = some (val i)) (h : Sim P F ty Wg C n X Sk Own Rd Own1 Rd1 Lw val vals A0 A1 Q0 Q1 b cs p q μ (crowd R w slr) T) :
    (∃ m' ops q' μ', stepT P (crowd R w slr) = (.next m', ops) ∧ (qs b q' < qs b q ∨ (q' = q ∧ Lt2 μ' μ)) ∧ Sim P F ty Wg C n X Sk Own Rd Own1 Rd1 Lw val vals A0 A1 Q0 Q1 b cs p q' μ' m' (T ++ ops)) ∨
    ∃ d sl gs a t o w' es sl0, stepT P (crowd R w slr) = runT P (crowd R (w.at d) sl) 0 ∧ Rel b cs gs R ∧ gs[0]? = some a ∧ stepG P true a (w.at d) = .ended o w' es ∧ Good P Q0 (crowd gs w sl0) o w' (t ++ MemOp.ofEvents 0 a.frame.fn a.frame.place es) ∧ Lkd b p t T ∧ Tk X Wg (t ++ MemOp.ofEvents 0 a.frame.fn a.frame.place es) ∧ Rt t gs.size ∧ Gz t ∧ Deaf (t ++ MemOp.ofEvents 0 a.frame.fn a.frame.place es) 0 = 0 ∧ (∀ i g, gs[i + 1]? = some g → ∃ q, QuitsD P q (Deaf t (i + 1)) g) ∧ OkF P F a.frame ∧ a = G a.frame a.callers ∧ ElT P b q R T ∧ GC P w := by
  obtain ⟨i, g, d, sl, hg, hr, e⟩ := sim_pick h0 h
  rw [e]
  rcases Nat.lt_trichotomy i 0 with hx | rfl | hx
  · omega
  · rcases sim_starter hF hP A A' hX hSk Ge hn h0 h1 hl hv h hg hr d sl with ⟨m', ops, μ', h1, h2, h3⟩ | ⟨gs, a, t, o, w', es, sl0, h1⟩
    · exact .inl ⟨m', ops, q, μ', h1, .inr ⟨rfl, h2⟩, h3⟩
    · exact .inr ⟨d, sl, gs, a, t, o, w', es, sl0, rfl, h1⟩
  · by_cases hb : i ≤ b
    · obtain ⟨m', ops, k, μ', h1, h2, h3⟩ := sim_elder hSk h0.run h1.run h (by omega) hb hg hr d sl
      exact .inl ⟨m', ops, _, μ', h1, .inl (qs_upd (by omega) hb h2), h3⟩
    · obtain ⟨k, rfl⟩ : ∃ k, i = b + (k + 1) := ⟨i - b - 1, by omega⟩
      obtain ⟨m', ops, μ', h1, h2, h3⟩ := sim_worker A A' hX hSk Ge hn h0.run h1.run h hg hr d sl
      exact .inl ⟨m', ops, q, μ', h1, .inr ⟨rfl, h2⟩, h3⟩
end
section
variable {P : Program} {F : FuncId → Prop} {ty : TypeId} {Wg C n : Nat} {X : Loc → Prop} {Sk : Goroutine → World → Prop} {Own Rd Own1 Rd1 : Nat → Loc → Prop} {Lw : Nat → Nat} {val : Nat → Value} {vals : List Value} {A0 A1 : Goroutine → World → Prop} {Q0 Q1 : Value → World → Prop} {b : Nat} {cs : List Frame} {p : Trace}
theorem sim_run (hF : SetOk P F) (hP : Late P) (A : Apart (ShN Wg) Own Rd) (A' : Apart (ShN Wg) Own1 Rd1) (hX : Fam X Wg Own Rd Own1 Rd1) {RdX : Nat → Loc → Prop} (hSk : SkOk P Wg Own1 RdX Sk) (Ge : Geo Wg C Lw) (hn : n < 2147483648) (h0 : Ask P ty Wg C n Own Rd Lw vals A0 Q0) (h1 : Ask P ty Wg C n Own1 Rd1 Lw vals A1 Q1)
    (hl : vals.length = n) (hv : ∀ i, i < n → vals[i]? = some (val i)) : ∀ (x : Nat × (Nat × Nat)) (q : Nat → Nat) (R : Array Goroutine) (w : World) (slr : Option (Nat × Nat)) (T : Trace), qs b q = x.1 →
      Sim P F ty Wg C n X Sk Own Rd Own1 Rd1 Lw val vals A0 A1 Q0 Q1 b cs p q x.2 (crowd R w slr) T →
      ∃ N q' R' w' slr' T', runNT P N (crowd R w slr) T = (.next (crowd R' w' slr'), T') ∧
        ∃ d sl gs a t o w₂ es sl0, stepT P (crowd R' w' slr') = runT P (crowd R' (w'.at d) sl) 0 ∧ Rel b cs gs R' ∧ gs[0]? = some a ∧ stepG P true a (w'.at d) = .ended o w₂ es ∧ Good P Q0 (crowd gs w' sl0) o w₂ (t ++ MemOp.ofEvents 0 a.frame.fn a.frame.place es) ∧ Lkd b p t T' ∧ Tk X Wg (t ++ MemOp.ofEvents 0 a.frame.fn a.frame.place es) ∧ Rt t gs.size ∧ Gz t ∧ Deaf (t ++ MemOp.ofEvents 0 a.frame.fn a.frame.place es) 0 = 0 ∧ (∀ i g, gs[i + 1]? = some g → ∃ q, QuitsD P q (Deaf t (i + 1)) g) ∧ OkF P F a.frame ∧ a = G a.frame a.callers ∧ ElT P b q' R' T' ∧ GC P w' := by
  have wf : WellFounded (Prod.Lex (fun a b : Nat => a < b) Lt2) := (Prod.lex Nat.lt_wfRel (Prod.lex Nat.lt_wfRel Nat.lt_wfRel)).wf
  intro x
  induction x using wf.induction with
  | _ x ih =>
    intro q R w slr T hx h
    obtain ⟨x1, μ⟩ := x
    simp only at hx h
    rcases sim_step hF hP A A' hX hSk Ge hn h0 h1 hl hv h with ⟨m', ops, q', μ', e, hlt, hS⟩ | hret
    · obtain ⟨R', w', sl', rfl⟩ : ∃ R' w' sl', m' = crowd R' w' sl' := by
        obtain ⟨_, _, R', w', sl', _, _, _, _, _, e', _⟩ := hS
        exact ⟨R', w', sl', e'⟩
      have hl' : Prod.Lex (fun a b : Nat => a < b) Lt2 (qs b q', μ') (x1, μ) := by
        rcases hlt with hq | ⟨rfl, hq⟩
        · exact Prod.Lex.left _ _ (by omega)
        · rw [hx]; exact Prod.Lex.right _ hq
      obtain ⟨N, q2, R2, w2, sl2, T2, r, hr⟩ := ih (qs b q', μ') hl' q' R' w' sl' (T ++ ops) rfl hS
      exact ⟨N + 1, q2, R2, w2, sl2, T2, by simp only [runNT, e]; exact r, hr⟩
    · exact ⟨0, q, R, w, slr, T, rfl, hret⟩
end
end Go.Proofs.Ytghglpcfpokmhaa.Ct
