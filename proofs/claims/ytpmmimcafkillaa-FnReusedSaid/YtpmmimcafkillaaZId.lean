/-
  What ends on every tape ends whatever is answered, step by step; a contract of the lone machine is one. It names no program; no conditions.
-/
import Derived.Test.YtpmmimcafkillaaZIc
set_option linter.unusedVariables false
set_option linter.unusedSimpArgs false
namespace Go.Proofs.Ytpmmimcafkillaa.Br
open Go Go.Conc
variable {P : Program} {Z : Sig} {Q : Frame → World → Prop}

theorem rt_rt (T T' : Nat → Question → Nat) (d d' : Nat) (w : World) : rt T d (rt T' d' w) = rt T d w := rfl

theorem Moves.retape {fr fr' : Frame} {up up' : List Frame} {w w' : World} {es : Array Event} (h : Moves P Z fr up w fr' up' w' es) (T : Nat → Question → Nat) (d : Nat) (ha : ∀ k, w.drawn + k < w'.drawn → T (d + k) = w.tape (w.drawn + k)) :
    Moves P Z fr up (rt T d w) fr' up' (rt T (d + (w'.drawn - w.drawn)) w') es := by
  have hg := h.grows
  refine ⟨h.ok, h.ups, h.gc, Nat.le_add_right _ _, rfl, h.evs, h.left, h.size, fun cs q T2 d2 hm hag => ?_, fun S W hh => ?_⟩
  · have := h.sameK cs q T2 d2 hm (fun k hk => by
      rw [← ha k hk]
      exact hag k (by show d + k < d + (w'.drawn - w.drawn); omega))
    rw [rt_rt, this]
    show GStep.go _ (rt T2 (d2 + (w'.drawn - w.drawn)) w') es = GStep.go _ (rt T2 (d2 + (d + (w'.drawn - w.drawn) - d)) w') es
    rw [Nat.add_sub_cancel_left]
  · have hh0 : Hid S w (rt w.tape w.drawn W) := hh.rt w.tape w.drawn
    rcases h.hidK S _ hh0 with hl | ⟨W', hh', he, hst⟩
    · exact .inl hl
    · refine .inr ⟨rt T (d + (w'.drawn - w.drawn)) W', hh'.rt _ _, he, fun cs q T2 d2 hm hag => ?_⟩
      have := hst cs q T2 d2 hm (fun k hk => by
        rw [← ha k hk]
        exact hag k (by show d + k < d + (w'.drawn - w.drawn); omega))
      rw [rt_rt] at this
      rw [this, rt_rt]
      show GStep.go _ (rt T2 (d2 + (w'.drawn - w.drawn)) W') es = GStep.go _ (rt T2 (d2 + (d + (w'.drawn - w.drawn) - d)) W') es
      rw [Nat.add_sub_cancel_left]

theorem Moves.det {fr f1 f2 : Frame} {up u1 u2 : List Frame} {w w1 w2 : World} {e1 e2 : Array Event} (h : Moves P Z fr up w f1 u1 w1 e1) (h' : Moves P Z fr up w f2 u2 w2 e2) : f1 = f2 ∧ u1 = u2 ∧ w1 = w2 := by
  have a := h.same [] w.tape w.drawn (fun _ _ => rfl)
  have b := h'.same [] w.tape w.drawn (fun _ _ => rfl)
  rw [a] at b
  have hg := h.grows
  have hg' := h'.grows
  have ht := h.tape
  have ht' := h'.tape
  simp only [GStep.go.injEq, G, Goroutine.mk.injEq, List.append_nil, and_true] at b
  obtain ⟨⟨b1, b2⟩, b3, _⟩ := b
  refine ⟨b1, b2, ?_⟩
  have e1 : rt w.tape (w.drawn + (w1.drawn - w.drawn)) w1 = w1 := by
    rw [← ht, show w.drawn + (w1.drawn - w.drawn) = w1.drawn by omega]; rfl
  have e2 : rt w.tape (w.drawn + (w2.drawn - w.drawn)) w2 = w2 := by
    rw [← ht', show w.drawn + (w2.drawn - w.drawn) = w2.drawn by omega]; rfl
  rw [e1, e2] at b3
  exact b3

/-- where a call's own run ends; where that of a piece of code ends -/
def eCall (fr : Frame) : Bool := match fr.mode with | .returning => true | _ => false
def eCode (fr : Frame) : Bool := match fr.mode with | .returning => true | .run => fr.todo.isEmpty | _ => false
variable {E : Frame → Bool}
def Done (E : Frame → Bool) (Q : Frame → World → Prop) (fr : Frame) (up : List Frame) (w : World) : Prop := up = [] ∧ E fr = true ∧ Q fr w
def On (E : Frame → Bool) (fr : Frame) (up : List Frame) : Prop := up ≠ [] ∨ (fr.mode = .run ∧ E fr = false)
theorem on_not_done {fr : Frame} {up : List Frame} {w : World} (h : On E fr up) (h' : Done E Q fr up w) : False := by
  rcases h with h | ⟨_, h⟩
  · exact h h'.1
  · rw [h'.2.1] at h; cases h

variable (P Z E Q) in
def ReachN : Nat → Frame → List Frame → World → Prop
  | 0, fr, up, w => Done E Q fr up w
  | n + 1, fr, up, w => Done E Q fr up w ∨ (On E fr up ∧ ∃ fr' up' w' es, Moves P Z fr up w fr' up' w' es ∧ ReachN n fr' up' w')

variable (P Z E Q) in
def Lone (fr : Frame) (up : List Frame) (w : World) : Prop := ∀ T d, ∃ n, ReachN P Z Q E n fr up (rt T d w)

variable (P Z E Q) in
inductive Wins : Frame → List Frame → World → Prop
  | stop {fr : Frame} {up : List Frame} {w : World} (h : Done E Q fr up w) : Wins fr up w
  | step {fr : Frame} {up : List Frame} {w : World} (h : On E fr up) (hs : ∀ T d, ∃ fr' up' w' es, Moves P Z fr up (rt T d w) fr' up' w' es)
    (hn : ∀ T d fr' up' w' es, Moves P Z fr up (rt T d w) fr' up' w' es → Wins fr' up' w') : Wins fr up w

theorem lockstep (hQ : ∀ fr w T d, Q fr w → Q fr (rt T d w)) : ∀ {n : Nat} {fr : Frame} {up : List Frame} {w : World}, ReachN P Z Q E n fr up w → ∀ T d, (∀ k, T (d + k) = w.tape (w.drawn + k)) → ReachN P Z Q E n fr up (rt T d w) := by
  intro n
  induction n with
  | zero => exact fun h T d _ => ⟨h.1, h.2.1, hQ _ _ _ _ h.2.2⟩
  | succ n ih =>
    intro fr up w h T d ha
    rcases h with h | ⟨ho, fr', up', w', es, hm, hr⟩
    · exact .inl ⟨h.1, h.2.1, hQ _ _ _ _ h.2.2⟩
    · refine .inr ⟨ho, fr', up', _, es, hm.retape T d (fun k _ => ha k), ih hr _ _ fun k => ?_⟩
      have hg := hm.grows
      rw [hm.tape, show d + (w'.drawn - w.drawn) + k = d + (w'.drawn - w.drawn + k) by omega, ha]
      congr 1
      omega

/-- What a lone run on every tape comes to is so behind each step on each tape. -/
theorem Lone.next (hQ : ∀ fr w T d, Q fr w → Q fr (rt T d w)) {fr fr' : Frame} {up up' : List Frame} {w w' : World} {es : Array Event} {T : Nat → Question → Nat} {d : Nat} (hL : Lone P Z Q E fr up w) (ho : On E fr up) (hm : Moves P Z fr up (rt T d w) fr' up' w' es) : Lone P Z Q E fr' up' w' := by
  intro T' d'
  let c := w'.drawn - d
  let T2 : Nat → Question → Nat := fun j => if j < c then T (d + j) else T' (d' + (j - c))
  have hg : d ≤ w'.drawn := hm.grows
  obtain ⟨n, hn⟩ := hL T2 0
  have hm2 := hm.retape T2 0 (fun k hk => by
    have hk' : k < c := by have : d + k < w'.drawn := hk; omega
    show (if 0 + k < c then T (d + (0 + k)) else _) = T (d + k)
    rw [Nat.zero_add, if_pos hk'])
  rw [rt_rt] at hm2
  cases n with
  | zero => exact (on_not_done ho hn).elim
  | succ n =>
    rcases hn with hn | ⟨_, f1, u1, w1, e1, hm1, hr⟩
    · exact (on_not_done ho hn).elim
    · obtain ⟨rfl, rfl, rfl⟩ := hm1.det hm2
      refine ⟨n, ?_⟩
      have := lockstep hQ hr T' d' (fun k => ?_)
      · exact this
      · show T' (d' + k) = (if 0 + (w'.drawn - d) + k < c then _ else T' (d' + (0 + (w'.drawn - d) + k - c)))
        rw [if_neg (by omega)]
        congr 1
        omega

structure Bad (P : Program) (Z : Sig) (E : Frame → Bool) (Q : Frame → World → Prop) where
  fr : Frame
  up : List Frame
  w : World
  lone : Lone P Z Q E fr up w
  bad : ¬ Wins P Z Q E fr up w

theorem Bad.next (hQ : ∀ fr w T d, Q fr w → Q fr (rt T d w)) (b : Bad P Z E Q) : ∃ (T : Nat → Question → Nat) (d : Nat) (b' : Bad P Z E Q) (es : Array Event), Moves P Z b.fr b.up (rt T d b.w) b'.fr b'.up b'.w es := by
  have nd : ∀ T d, ¬ Done E Q b.fr b.up (rt T d b.w) := fun T d h => b.bad (.stop ⟨h.1, h.2.1, by have := hQ _ _ b.w.tape b.w.drawn h.2.2; exact this⟩)
  have hstep : ∀ T d, On E b.fr b.up ∧ ∃ fr' up' w' es, Moves P Z b.fr b.up (rt T d b.w) fr' up' w' es := by
    intro T d
    obtain ⟨n, hn⟩ := b.lone T d
    cases n with
    | zero => exact (nd T d hn).elim
    | succ n =>
      rcases hn with hn | ⟨ho, f1, u1, w1, e1, hm1, hr⟩
      · exact (nd T d hn).elim
      · exact ⟨ho, f1, u1, w1, e1, hm1⟩
  have ho := (hstep b.w.tape b.w.drawn).1
  refine Classical.byContradiction fun hno => b.bad (.step ho (fun T d => (hstep T d).2) fun T d f1 u1 w1 e1 hm => ?_)
  exact Classical.byContradiction fun hw => hno ⟨T, d, ⟨f1, u1, w1, b.lone.next hQ ho hm, hw⟩, e1, hm⟩

/-! ### the splice -/
section
variable (tk : Nat → Nat → Question → Nat) (dk cn : Nat → Nat)
def posn : Nat → Nat
  | 0 => 0
  | n + 1 => posn n + cn n
theorem posn_mono {a b : Nat} (h : a ≤ b) : posn cn a ≤ posn cn b := by
  induction h with
  | refl => exact Nat.le_refl _
  | step h ih => exact Nat.le_trans ih (Nat.le_add_right _ _)
open Classical in
/-- The tape on which the n-th step reads what it read on its own. -/
noncomputable def splice (j : Nat) : Question → Nat :=
  if h : ∃ n, posn cn n ≤ j ∧ j < posn cn (n + 1) then tk (Classical.choose h) (dk (Classical.choose h) + (j - posn cn (Classical.choose h))) else fun _ => 0
theorem splice_at (n k : Nat) (h : k < cn n) : splice tk dk cn (posn cn n + k) = tk n (dk n + k) := by
  have hx : ∃ m, posn cn m ≤ posn cn n + k ∧ posn cn n + k < posn cn (m + 1) := ⟨n, Nat.le_add_right _ _, by show _ < posn cn n + cn n; omega⟩
  have hm := Classical.choose_spec hx
  have e : Classical.choose hx = n := by
    rcases Nat.lt_trichotomy (Classical.choose hx) n with hlt | he | hgt
    · have := posn_mono cn (show Classical.choose hx + 1 ≤ n from hlt)
      omega
    · exact he
    · have := posn_mono cn (show n + 1 ≤ Classical.choose hx from hgt)
      have e2 : posn cn (n + 1) = posn cn n + cn n := rfl
      omega
  unfold splice
  rw [dif_pos hx]
  simp only [e]
  rw [Nat.add_sub_cancel_left]
end

/-- ████ WHAT ENDS ON EVERY TAPE ENDS WHATEVER IS ANSWERED, STEP BY STEP. ████ -/
theorem wins_of_lone (hQ : ∀ fr w T d, Q fr w → Q fr (rt T d w)) {fr : Frame} {up : List Frame} {w : World} (hL : Lone P Z Q E fr up w) : Wins P Z Q E fr up w := by
  refine Classical.byContradiction fun hbad => ?_
  have nx : ∀ b : Bad P Z E Q, ∃ x : (Nat → Question → Nat) × Nat × Bad P Z E Q × Array Event, Moves P Z b.fr b.up (rt x.1 x.2.1 b.w) x.2.2.1.fr x.2.2.1.up x.2.2.1.w x.2.2.2 := fun b =>
    let ⟨T, d, b', es, h⟩ := b.next hQ
    ⟨(T, d, b', es), h⟩
  obtain ⟨f, hm⟩ := Classical.axiomOfChoice nx
  let T := fun b => (f b).1
  let d := fun b => (f b).2.1
  let nb := fun b => (f b).2.2.1
  let sq : Nat → Bad P Z E Q := fun n => Nat.rec ⟨fr, up, w, hL, hbad⟩ (fun _ b => nb b) n
  have sq1 : ∀ n, sq (n + 1) = nb (sq n) := fun n => rfl
  let cn : Nat → Nat := fun n => (sq (n + 1)).w.drawn - d (sq n)
  let tk : Nat → Nat → Question → Nat := fun n => T (sq n)
  let dk : Nat → Nat := fun n => d (sq n)
  have key : ∀ m n, ¬ ReachN P Z Q E m (sq n).fr (sq n).up (rt (splice tk dk cn) (posn cn n) (sq n).w) := by
    intro m
    induction m with
    | zero => exact fun n h => (sq n).bad (.stop ⟨h.1, h.2.1, by have := hQ _ _ (sq n).w.tape (sq n).w.drawn h.2.2; exact this⟩)
    | succ m ih =>
      intro n h
      rcases h with h | ⟨ho, f1, u1, w1, e1, hm1, hr⟩
      · exact (sq n).bad (.stop ⟨h.1, h.2.1, by have := hQ _ _ (sq n).w.tape (sq n).w.drawn h.2.2; exact this⟩)
      · have hm2 := (hm (sq n)).retape (splice tk dk cn) (posn cn n) (fun k hk => by
          have hk' : d (sq n) + k < (nb (sq n)).w.drawn := hk
          exact splice_at tk dk cn n k (by show k < (sq (n + 1)).w.drawn - d (sq n); rw [sq1]; omega))
        rw [rt_rt] at hm2
        obtain ⟨rfl, rfl, rfl⟩ := hm1.det hm2
        exact ih (n + 1) hr
  obtain ⟨n, hn⟩ := hL (splice tk dk cn) 0
  exact key n 0 hn

/-- A caller behind which the run ends at once, whether it is returned to or a panic comes to it. -/
def nobody : String := "fmt's door"
theorem nobody_starts : nobody.startsWith "fmt's door" = true := by
  first | rfl | simp [nobody] | (rw [String.startsWith_string_iff]; simp [nobody])
theorem nobody_row : Extern.next nobody = none := by
  unfold Extern.next
  rw [show Extern.allNextRows.lookup nobody = none from by rfl]
  rfl
def c0 (P : Program) : Frame := { fn := P.funcs.size, tmps := #[], todo := [.call { target := .nil, args := #[] } false nobody #[]], defers := [], mode := .run, kind := .normal }

theorem c0_ret (v : Value) (w : World) : ∃ o w', step P (lone ((c0 P).finish v) [] w) = .ended o w' := by
  refine ⟨.stuck ("no extern row " ++ nobody) (((c0 P).finish v).pos P), w, step_lone_ended ?_⟩
  simp [stepG, stepG.exec, c0, Frame.finish, nobody_row, GStep.bare]
theorem c0_raise (ch : List PanicEntry) (w : World) : ∃ o w', step P (lone ((c0 P).raise ch) [] w) = .ended o w' := by
  have hc : Frame.catches P { c0 P with mode := .panicking ch } = true := by simp [Frame.catches, c0, nobody_starts]
  have hs : ∃ o, stepG P true { frame := (c0 P).raise ch, callers := [], status := .running, dying := none } w = .ended o w := by
    have e : (c0 P).raise ch = { c0 P with mode := .panicking ch } := rfl
    rw [e]
    simp only [stepG, unwind]
    rw [show (c0 P).defers = [] from rfl]
    exact ⟨_, if_pos hc⟩
  obtain ⟨o, hs⟩ := hs
  exact ⟨o, w, step_lone_ended (by rw [hs]; rfl)⟩

theorem runN_ended {n : Nat} {m m' : Machine} {o : Outcome} {w : World} (h : step P m = .ended o w) : runN P (n + 1) m ≠ .next m' := by
  simp [runN, h]

theorem lone_inj {fr fr' : Frame} {cs cs' : List Frame} {w w' : World} (h : lone fr cs w = lone fr' cs' w') : fr = fr' ∧ cs = cs' ∧ w = w' := by
  simp only [lone, Machine.mk.injEq, Array.mk.injEq, List.cons.injEq, Goroutine.mk.injEq, and_true, true_and] at h
  obtain ⟨h1, h2⟩ := h
  simp_all

/-- the run is over once the lowest frame has ended -/
theorem reach_of_run (hF : SetOk P Z) {fin : Frame} {wf : World} (hE : E fin = true) (hq : Q fin wf)
    (hEs : ∀ fr, OkF P Z fr → (E fr = true ∨ fr.mode ≠ .run) → ∀ (n : Nat) (w : World), runN P (n + 1) (lone fr [c0 P] w) ≠ .next (lone fin [c0 P] wf)) :
    ∀ (n : Nat) (fr : Frame) (up : List Frame) (w : World), OkF P Z fr → (∀ f ∈ up, UpOk P Z f) → GC P w → runN P n (lone fr (up ++ [c0 P]) w) = .next (lone fin [c0 P] wf) → ∃ m, ReachN P Z Q E m fr up w := by
  intro n
  induction n with
  | zero =>
    intro fr up w h hu hg hr
    simp only [runN, Stepped.next.injEq] at hr
    obtain ⟨rfl, h2, rfl⟩ := lone_inj hr
    have : up = [] := by
      cases up with
      | nil => rfl
      | cons x up => simp at h2
    exact ⟨0, this, hE, hq⟩
  | succ n ih =>
    intro fr up w h hu hg hr
    by_cases ho : On E fr up
    · rcases step_ok hF h hu hg (ho.imp id fun x => x.1) with ⟨fr', up', w', es, mv⟩ | hh
      · have hs := mv.same [c0 P] w.tape w.drawn (fun _ _ => rfl)
        have hg' := mv.grows
        rw [rt_self, show w.drawn + (w'.drawn - w.drawn) = w'.drawn by omega, ← mv.tape, rt_self] at hs
        have hst : step P (lone fr (up ++ [c0 P]) w) = .next (lone fr' (up' ++ [c0 P]) w') := step_lone_go (by
          have : stepG P true { frame := fr, callers := up ++ [c0 P], status := .running, dying := none } w = _ := hs
          rw [this]; rfl)
        rw [runN, hst] at hr
        obtain ⟨m, hmm⟩ := ih fr' up' w' mv.ok mv.ups mv.gc hr
        exact ⟨m + 1, .inr ⟨ho, fr', up', w', es, mv, hmm⟩⟩
      · obtain ⟨o, w', es, he⟩ := hh [c0 P]
        refine absurd hr (runN_ended (o := o) (w := w') (step_lone_ended ?_))
        have : stepG P true { frame := fr, callers := up ++ [c0 P], status := .running, dying := none } w = _ := he
        rw [this]; rfl
    · have hup : up = [] := Classical.byContradiction fun x => ho (.inl x)
      subst hup
      refine absurd hr (hEs fr h ?_ n w)
      cases hx : E fr with
      | true => exact .inl rfl
      | false => exact .inr fun hm => ho (.inr ⟨hm, hx⟩)

/-- .. that of a frame that returns or panics -/
theorem over_of {fr : Frame} (h : OkF P Z fr) (hm : fr.mode ≠ .run) {fin : Frame} {wf : World} (n : Nat) (w : World) : runN P (n + 1) (lone fr [c0 P] w) ≠ .next (lone fin [c0 P] wf) := by
  intro hr
  obtain ⟨f, hf⟩ := h.fn
  have tail : ∀ (x : Frame) (w1 : World), (∃ o w', step P (lone x [] w1) = .ended o w') → runN P n (lone x [] w1) ≠ .next (lone fin [c0 P] wf) := by
    intro x w1 ⟨o, w', hx⟩ hn
    cases n with
    | zero =>
      simp only [runN, Stepped.next.injEq] at hn
      have := (lone_inj hn).2.1
      cases this
    | succ n => exact runN_ended hx hn
  have fin' : ∀ (x : Frame) (w1 : World) (es : Array Event), (∃ o w', step P (lone x [] w1) = .ended o w') → stepG P true { frame := fr, callers := [c0 P], status := .running, dying := none } w = .go { frame := x, callers := [], status := .running, dying := none } w1 es → False := by
    intro x w1 es hx hs
    have hst : step P (lone fr [c0 P] w) = .next (lone x [] w1) := step_lone_go (by rw [hs]; rfl)
    rw [runN, hst] at hr
    exact tail x w1 hx hr
  have fin2 : ∀ o w1 es, stepG P true { frame := fr, callers := [c0 P], status := .running, dying := none } w = .ended o w1 es → False := by
    intro o w1 es hs
    exact runN_ended (step_lone_ended (by rw [hs]; rfl)) hr
  obtain ⟨fn, tmps, todo, defers, mode, kind, roundOf⟩ := fr
  obtain ⟨h1, h2, h3, h4, h5, h6⟩ := h
  simp only at h1 h2 h3 hf
  subst h1 h2 h3
  cases mode with
  | run => exact absurd rfl hm
  | panicking ch => exact (fin' _ _ #[] (c0_raise ch w) (by simp [stepG, unwind, Frame.catches, hf])).elim
  | returning =>
    cases hx : (results f tmps).runT P w #[] with
    | mk r es =>
      cases r with
      | ok v w' => exact (fin' _ _ _ (c0_ret v w') (by simp only [stepG, unwind, hf, hx, doReturn, GStep.after]; rfl)).elim
      | halt x w' =>
        exfalso
        cases x <;> exact fin2 _ _ _ (by simp only [stepG, unwind, hf, hx, GStep.after]; rfl)
theorem over_call {fin : Frame} {wf : World} (fr : Frame) (h : OkF P Z fr) (hE : eCall fr = true ∨ fr.mode ≠ .run) (n : Nat) (w : World) : runN P (n + 1) (lone fr [c0 P] w) ≠ .next (lone fin [c0 P] wf) :=
  over_of h (hE.elim (fun e hm => by rw [eCall, hm] at e; cases e) id) n w
theorem over_code {fin : Frame} {wf : World} (hfin : fin.mode = .run) (fr : Frame) (h : OkF P Z fr) (hE : eCode fr = true ∨ fr.mode ≠ .run) (n : Nat) (w : World) : runN P (n + 1) (lone fr [c0 P] w) ≠ .next (lone fin [c0 P] wf) := by
  by_cases hm : fr.mode = .run
  · intro hr
    have ht : fr.todo = [] := by
      rcases hE with e | e
      · rw [eCode, hm] at e; exact List.isEmpty_iff.1 e
      · exact absurd hm e
    have hst : step P (lone fr [c0 P] w) = .next (lone { fr with mode := .returning } [c0 P] w) := step_lone_go (by
      have hro := h.round
      obtain ⟨fn, tmps, todo, defers, mode, kind, roundOf⟩ := fr
      simp only at hm ht hro
      subst hm ht hro
      simp [stepG, stepG.exec, GStep.bare])
    rw [runN, hst] at hr
    have hok : OkF P Z { fr with mode := .returning } := ⟨h.defers, h.kind, h.round, h.fn, h.todo, h.ks⟩
    cases n with
    | zero =>
      simp only [runN, Stepped.next.injEq] at hr
      have := (lone_inj hr).1
      rw [← this] at hfin
      cases hfin
    | succ n => exact over_of hok (by simp) n w hr
  · exact over_of h hm n w

/-- The frame of f leaves with a value of which R holds. -/
def QR (P : Program) (f : FuncId) (R : Value → World → Prop) (fr : Frame) (w : World) : Prop := fr.fn = f ∧ ∃ v, fr.leaving P w (.returned v) ∧ R v w

theorem leaving_rt {fr : Frame} {w : World} {v : Value} (h : fr.leaving P w (.returned v)) (T : Nat → Question → Nat) (d : Nat) : fr.leaving P (rt T d w) (.returned v) := by
  obtain ⟨h1, h2, h3, fn, h4, h5⟩ := h
  refine ⟨h1, h2, h3, fn, h4, ?_⟩
  rw [← Sem.runT_fst P _ _ #[]] at h5 ⊢
  have := run_rt P (ns_results (P := P) fn fr.tmps) w #[] T d (fun k hk => by
    rw [h5] at hk
    simp only [wof] at hk
    omega)
  rw [this]
  simp only [h5, mapW]
  rw [Nat.sub_self, Nat.add_zero]

/-- ████ THE BRIDGE: a contract of the lone machine, on every tape, is one whatever is answered, step by step. ████ -/
theorem wins_of_calls (hF : SetOk P Z) {f : FuncId} {args : Array Value} {w : World} (hf : Z.F f = true) (hka : ∀ s ∈ Z.K f, ∀ v, args[s]? = some v → Fv Z v) (hg : GC P w) {R : Value → World → Prop} (hR : ∀ v w T d, R v w → R v (rt T d w))
    (hC : ∀ T d, Calls P f args (rt T d w) fun e w' => ∃ v, e = .returned v ∧ R v w') : Wins P Z (QR P f R) eCall (Frame.enter P f args .normal) [] w := by
  refine wins_of_lone (fun fr w T d ⟨h1, v, h2, h3⟩ => ⟨h1, v, leaving_rt h2 T d, hR _ _ _ _ h3⟩) fun T d => ?_
  obtain ⟨e, w', fin, ⟨v, rfl, hr⟩, ⟨n, hn⟩, h1, h2⟩ := hC T d [c0 P]
  exact reach_of_run hF (by rw [eCall, h2.1]) ⟨h1, v, h2, hr⟩ over_call n _ [] _ (ok_enter hF hf args hka).1 (fun f hf => by cases hf) hg hn
end Go.Proofs.Ytpmmimcafkillaa.Br
