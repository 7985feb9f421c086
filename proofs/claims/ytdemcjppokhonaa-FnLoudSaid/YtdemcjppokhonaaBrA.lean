/-
  What ends on every tape ends whatever is answered, step by step. It names no program; no conditions.
-/
import Derived.Test.YtdemcjppokhonaaBr9
set_option linter.unusedVariables false
set_option linter.unusedSimpArgs false
namespace Go.Proofs.Ytdemcjppokhonaa
open Go Go.Conc
variable {P : Program} {F : FuncId → Bool} {Q : Frame → World → Prop}

theorem rt_rt (T T' : Nat → Question → Nat) (d d' : Nat) (w : World) : rt T d (rt T' d' w) = rt T d w := rfl

theorem Moves.retape {fr fr' : Frame} {up up' : List Frame} {w w' : World} {es : Array Event} (h : Moves P F fr up w fr' up' w' es) (T : Nat → Question → Nat) (d : Nat) (ha : ∀ k, w.drawn + k < w'.drawn → T (d + k) = w.tape (w.drawn + k)) :
    Moves P F fr up (rt T d w) fr' up' (rt T (d + (w'.drawn - w.drawn)) w') es := by
  refine ⟨h.ok, h.ups, h.gc, Nat.le_add_right _ _, rfl, h.evs, fun cs T2 d2 hag => ?_⟩
  have hg := h.grows
  have := h.same cs T2 d2 (fun k hk => by
    rw [← ha k hk]
    exact hag k (by show d + k < d + (w'.drawn - w.drawn); omega))
  rw [rt_rt, this]
  show GStep.go _ (rt T2 (d2 + (w'.drawn - w.drawn)) w') es = GStep.go _ (rt T2 (d2 + (d + (w'.drawn - w.drawn) - d)) w') es
  rw [Nat.add_sub_cancel_left]

theorem Moves.det {fr f1 f2 : Frame} {up u1 u2 : List Frame} {w w1 w2 : World} {e1 e2 : Array Event} (h : Moves P F fr up w f1 u1 w1 e1) (h' : Moves P F fr up w f2 u2 w2 e2) : f1 = f2 ∧ u1 = u2 ∧ w1 = w2 := by
  have a := h.same [] w.tape w.drawn (fun _ _ => rfl)
  have b := h'.same [] w.tape w.drawn (fun _ _ => rfl)
  rw [a] at b
  have hg := h.grows
  have hg' := h'.grows
  have ht := h.tape
  have ht' := h'.tape
  simp only [GStep.go.injEq, G, Goroutine.mk.injEq, List.append_nil, and_true] at b
  obtain ⟨⟨b1, b2⟩, b3, _⟩ := b
  refine ⟨b1, b2, ?_⟩
  have e1 : rt w.tape (w.drawn + (w1.drawn - w.drawn)) w1 = w1 := by
    rw [← ht, show w.drawn + (w1.drawn - w.drawn) = w1.drawn by omega]; rfl
  have e2 : rt w.tape (w.drawn + (w2.drawn - w.drawn)) w2 = w2 := by
    rw [← ht', show w.drawn + (w2.drawn - w.drawn) = w2.drawn by omega]; rfl
  rw [e1, e2] at b3
  exact b3

def Done (Q : Frame → World → Prop) (fr : Frame) (up : List Frame) (w : World) : Prop := up = [] ∧ fr.mode = .returning ∧ Q fr w
def On (fr : Frame) (up : List Frame) : Prop := up ≠ [] ∨ fr.mode = .run
theorem on_not_done {fr : Frame} {up : List Frame} {w : World} (h : On fr up) (h' : Done Q fr up w) : False := by
  rcases h with h | h
  · exact h h'.1
  · rw [h'.2.1] at h; cases h

variable (P F Q) in
def ReachN : Nat → Frame → List Frame → World → Prop
  | 0, fr, up, w => Done Q fr up w
  | n + 1, fr, up, w => Done Q fr up w ∨ (On fr up ∧ ∃ fr' up' w' es, Moves P F fr up w fr' up' w' es ∧ ReachN n fr' up' w')

variable (P F Q) in
def Lone (fr : Frame) (up : List Frame) (w : World) : Prop := ∀ T d, ∃ n, ReachN P F Q n fr up (rt T d w)

variable (P F Q) in
inductive Wins : Frame → List Frame → World → Prop
  | stop {fr : Frame} {up : List Frame} {w : World} (h : Done Q fr up w) : Wins fr up w
  | step {fr : Frame} {up : List Frame} {w : World} (h : On fr up) (hs : ∀ T d, ∃ fr' up' w' es, Moves P F fr up (rt T d w) fr' up' w' es)
    (hn : ∀ T d fr' up' w' es, Moves P F fr up (rt T d w) fr' up' w' es → Wins fr' up' w') : Wins fr up w

theorem lockstep (hQ : ∀ fr w T d, Q fr w → Q fr (rt T d w)) : ∀ {n : Nat} {fr : Frame} {up : List Frame} {w : World}, ReachN P F Q n fr up w → ∀ T d, (∀ k, T (d + k) = w.tape (w.drawn + k)) → ReachN P F Q n fr up (rt T d w) := by
  intro n
  induction n with
  | zero => exact fun h T d _ => ⟨h.1, h.2.1, hQ _ _ _ _ h.2.2⟩
  | succ n ih =>
    intro fr up w h T d ha
    rcases h with h | ⟨ho, fr', up', w', es, hm, hr⟩
    · exact .inl ⟨h.1, h.2.1, hQ _ _ _ _ h.2.2⟩
    · refine .inr ⟨ho, fr', up', _, es, hm.retape T d (fun k _ => ha k), ih hr _ _ fun k => ?_⟩
      have hg := hm.grows
      rw [hm.tape, show d + (w'.drawn - w.drawn) + k = d + (w'.drawn - w.drawn + k) by omega, ha]
      congr 1
      omega

/-- What a lone run on every tape comes to is so behind each step on each tape. -/
theorem Lone.next (hQ : ∀ fr w T d, Q fr w → Q fr (rt T d w)) {fr fr' : Frame} {up up' : List Frame} {w w' : World} {es : Array Event} {T : Nat → Question → Nat} {d : Nat} (hL : Lone P F Q fr up w) (ho : On fr up) (hm : Moves P F fr up (rt T d w) fr' up' w' es) : Lone P F Q fr' up' w' := by
  intro T' d'
  let c := w'.drawn - d
  let T2 : Nat → Question → Nat := fun j => if j < c then T (d + j) else T' (d' + (j - c))
  have hg : d ≤ w'.drawn := hm.grows
  obtain ⟨n, hn⟩ := hL T2 0
  have hm2 := hm.retape T2 0 (fun k hk => by
    have hk' : k < c := by have : d + k < w'.drawn := hk; omega
    show (if 0 + k < c then T (d + (0 + k)) else _) = T (d + k)
    rw [Nat.zero_add, if_pos hk'])
  rw [rt_rt] at hm2
  cases n with
  | zero => exact (on_not_done ho hn).elim
  | succ n =>
    rcases hn with hn | ⟨_, f1, u1, w1, e1, hm1, hr⟩
    · exact (on_not_done ho hn).elim
    · obtain ⟨rfl, rfl, rfl⟩ := hm1.det hm2
      refine ⟨n, ?_⟩
      have := lockstep hQ hr T' d' (fun k => ?_)
      · exact this
      · show T' (d' + k) = (if 0 + (w'.drawn - d) + k < c then _ else T' (d' + (0 + (w'.drawn - d) + k - c)))
        rw [if_neg (by omega)]
        congr 1
        omega

structure Bad (P : Program) (F : FuncId → Bool) (Q : Frame → World → Prop) where
  fr : Frame
  up : List Frame
  w : World
  lone : Lone P F Q fr up w
  bad : ¬ Wins P F Q fr up w

theorem Bad.next (hQ : ∀ fr w T d, Q fr w → Q fr (rt T d w)) (b : Bad P F Q) : ∃ (T : Nat → Question → Nat) (d : Nat) (b' : Bad P F Q) (es : Array Event), Moves P F b.fr b.up (rt T d b.w) b'.fr b'.up b'.w es := by
  have nd : ∀ T d, ¬ Done Q b.fr b.up (rt T d b.w) := fun T d h => b.bad (.stop ⟨h.1, h.2.1, by have := hQ _ _ b.w.tape b.w.drawn h.2.2; exact this⟩)
  have hstep : ∀ T d, On b.fr b.up ∧ ∃ fr' up' w' es, Moves P F b.fr b.up (rt T d b.w) fr' up' w' es := by
    intro T d
    obtain ⟨n, hn⟩ := b.lone T d
    cases n with
    | zero => exact (nd T d hn).elim
    | succ n =>
      rcases hn with hn | ⟨ho, f1, u1, w1, e1, hm1, hr⟩
      · exact (nd T d hn).elim
      · exact ⟨ho, f1, u1, w1, e1, hm1⟩
  have ho := (hstep b.w.tape b.w.drawn).1
  refine Classical.byContradiction fun hno => b.bad (.step ho (fun T d => (hstep T d).2) fun T d f1 u1 w1 e1 hm => ?_)
  exact Classical.byContradiction fun hw => hno ⟨T, d, ⟨f1, u1, w1, b.lone.next hQ ho hm, hw⟩, e1, hm⟩

/-! ### the splice -/
section
variable (tk : Nat → Nat → Question → Nat) (dk cn : Nat → Nat)
def posn : Nat → Nat
  | 0 => 0
  | n + 1 => posn n + cn n
theorem posn_mono {a b : Nat} (h : a ≤ b) : posn cn a ≤ posn cn b := by
  induction h with
  | refl => exact Nat.le_refl _
  | step h ih => exact Nat.le_trans ih (Nat.le_add_right _ _)
open Classical in
/-- The tape on which the n-th step reads what it read on its own. -/
noncomputable def splice (j : Nat) : Question → Nat :=
  if h : ∃ n, posn cn n ≤ j ∧ j < posn cn (n + 1) then tk (Classical.choose h) (dk (Classical.choose h) + (j - posn cn (Classical.choose h))) else fun _ => 0
theorem splice_at (n k : Nat) (h : k < cn n) : splice tk dk cn (posn cn n + k) = tk n (dk n + k) := by
  have hx : ∃ m, posn cn m ≤ posn cn n + k ∧ posn cn n + k < posn cn (m + 1) := ⟨n, Nat.le_add_right _ _, by show _ < posn cn n + cn n; omega⟩
  have hm := Classical.choose_spec hx
  have e : Classical.choose hx = n := by
    rcases Nat.lt_trichotomy (Classical.choose hx) n with hlt | he | hgt
    · have := posn_mono cn (show Classical.choose hx + 1 ≤ n from hlt)
      omega
    · exact he
    · have := posn_mono cn (show n + 1 ≤ Classical.choose hx from hgt)
      have e2 : posn cn (n + 1) = posn cn n + cn n := rfl
      omega
  unfold splice
  rw [dif_pos hx]
  simp only [e]
  rw [Nat.add_sub_cancel_left]
end

/-- ████ WHAT ENDS ON EVERY TAPE ENDS WHATEVER IS ANSWERED, STEP BY STEP. ████ -/
theorem wins_of_lone (hQ : ∀ fr w T d, Q fr w → Q fr (rt T d w)) {fr : Frame} {up : List Frame} {w : World} (hL : Lone P F Q fr up w) : Wins P F Q fr up w := by
  refine Classical.byContradiction fun hbad => ?_
  have nx : ∀ b : Bad P F Q, ∃ x : (Nat → Question → Nat) × Nat × Bad P F Q × Array Event, Moves P F b.fr b.up (rt x.1 x.2.1 b.w) x.2.2.1.fr x.2.2.1.up x.2.2.1.w x.2.2.2 := fun b =>
    let ⟨T, d, b', es, h⟩ := b.next hQ
    ⟨(T, d, b', es), h⟩
  obtain ⟨f, hm⟩ := Classical.axiomOfChoice nx
  let T := fun b => (f b).1
  let d := fun b => (f b).2.1
  let nb := fun b => (f b).2.2.1
  let sq : Nat → Bad P F Q := fun n => Nat.rec ⟨fr, up, w, hL, hbad⟩ (fun _ b => nb b) n
  have sq1 : ∀ n, sq (n + 1) = nb (sq n) := fun n => rfl
  let cn : Nat → Nat := fun n => (sq (n + 1)).w.drawn - d (sq n)
  let tk : Nat → Nat → Question → Nat := fun n => T (sq n)
  let dk : Nat → Nat := fun n => d (sq n)
  have key : ∀ m n, ¬ ReachN P F Q m (sq n).fr (sq n).up (rt (splice tk dk cn) (posn cn n) (sq n).w) := by
    intro m
    induction m with
    | zero => exact fun n h => (sq n).bad (.stop ⟨h.1, h.2.1, by have := hQ _ _ (sq n).w.tape (sq n).w.drawn h.2.2; exact this⟩)
    | succ m ih =>
      intro n h
      rcases h with h | ⟨ho, f1, u1, w1, e1, hm1, hr⟩
      · exact (sq n).bad (.stop ⟨h.1, h.2.1, by have := hQ _ _ (sq n).w.tape (sq n).w.drawn h.2.2; exact this⟩)
      · have hm2 := (hm (sq n)).retape (splice tk dk cn) (posn cn n) (fun k hk => by
          have hk' : d (sq n) + k < (nb (sq n)).w.drawn := hk
          exact splice_at tk dk cn n k (by show k < (sq (n + 1)).w.drawn - d (sq n); rw [sq1]; omega))
        rw [rt_rt] at hm2
        obtain ⟨rfl, rfl, rfl⟩ := hm1.det hm2
        exact ih (n + 1) hr
  obtain ⟨n, hn⟩ := hL (splice tk dk cn) 0
  exact key n 0 hn
end Go.Proofs.Ytdemcjppokhonaa
