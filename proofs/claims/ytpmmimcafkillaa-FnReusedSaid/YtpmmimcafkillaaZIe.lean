/-
  Beside goroutines that only leave, in a world some of whose blocks are not to be touched: goroutine 0's steps, and a contract of the lone machine. It names no program; no conditions.
-/
import Derived.Test.YtpmmimcafkillaaZId
import Derived.Conc.Beside
set_option linter.unusedVariables false
set_option linter.unusedSimpArgs false
namespace Go.Proofs.Ytpmmimcafkillaa.Br
open Go Go.Conc
open Go.ConcN (sumTo upd sumTo_upd upd_ne upd_same)
variable {P : Program} {Z : Sig}

/-- the cells of the blocks of S -/
def Shn (S : Nat → Prop) : Loc → Prop := fun l => ∃ a, l = .cell a ∧ S a.block
/-- what is held of the trace; goroutine 0 is d deep deaf -/
structure Pst (S : Nat → Prop) (d : Nat) (t : Trace) : Prop where
  clean : ∀ said, ¬ Race said t
  known : ∀ i a, touchAt t i = some a → a.loc.isMemory = true → Knows t 0 i ∨ (Shn S a.loc ∧ a.kind = .atomic)
  over : t.HandedOver
  hears : Deaf t 0 = d
theorem Pst.mono {S S' : Nat → Prop} {d : Nat} {t : Trace} (h : Pst S d t) (hs : ∀ b, S b → S' b) : Pst S' d t :=
  ⟨h.clean, fun i a h1 h2 => (h.known i a h1 h2).imp id fun ⟨⟨x, e, hx⟩, k⟩ => ⟨⟨x, e, hs _ hx⟩, k⟩, h.over, h.hears⟩
/-- What goroutine 0 may list: no place that is not to be touched, but atomically. -/
def EvN (S : Nat → Prop) (e : Event) : Prop := ∀ x, (MemAct.ofEvent e).touch? = some x → Shn S x.loc → x.kind ≠ .plain
theorem Pst.own {S : Nat → Prop} {d : Nat} {t : Trace} (h : Pst S d t) (fn : FuncId) (pos : String) {es : Array Event} (hes : ∀ e ∈ es, EvN S e) : Pst S (deafBehind d es) (t ++ MemOp.ofEvents 0 fn pos es) := by
  have h0 : ∀ op ∈ MemOp.ofEvents 0 fn pos es, op.g = 0 := fun op hop => by obtain ⟨e, _, rfl⟩ := Go.Conc.mem_ofEvents hop; rfl
  have hs : ∀ op ∈ MemOp.ofEvents 0 fn pos es, ∀ b, op.act.touch? = some b → Shn S b.loc → b.kind ≠ .plain := fun op hop b hb => by
    obtain ⟨e, he, rfl⟩ := Go.Conc.mem_ofEvents hop
    exact hes e he b hb
  refine ⟨fun said => noRace_append (h.clean said) h0 fun i a ha op hop b hb hc => ?_, fun i a ha hm => ?_, handedOver_app h.over fun op hop => .inl (h0 op hop), by rw [Deaf_own, h.hears]⟩
  · rcases h.known i a ha hc.2.1 with hk | ⟨hsa, hka⟩
    · exact hk
    · exfalso
      have hkb := hs op hop b hb (hc.1 ▸ hsa)
      obtain ⟨_, _, _, hcase⟩ := hc
      rw [hka] at hcase
      rcases hcase with x | x | ⟨_, x, _⟩
      · cases x
      · exact hkb x
      · cases x
  · obtain ⟨x, hx, hxa⟩ := touch_of ha
    rcases getElem?_append_cases hx with ⟨_, hx'⟩ | ⟨_, hxu⟩
    · exact (h.known i a (by rw [touchAt_of hx']; exact hxa) hm).imp (·.app _) id
    · have := knows_own hx
      rw [h0 x hxu] at this
      exact .inl this
theorem Pst.mute {S : Nat → Prop} {d : Nat} {t : Trace} (h : Pst S d t) {g : Nat} (hg : g ≠ 0) (fn : FuncId) (pos : String) {es : Array Event} (hm : ∀ e ∈ es, e.mute = true) : Pst S d (t ++ MemOp.ofEvents g fn pos es) := by
  have h0 : ∀ op ∈ MemOp.ofEvents g fn pos es, op.g = g := fun op hop => by obtain ⟨e, _, rfl⟩ := Go.Conc.mem_ofEvents hop; rfl
  have hn : ∀ op ∈ MemOp.ofEvents g fn pos es, op.act.touch? = none := fun op hop => by obtain ⟨e, he, rfl⟩ := Go.Conc.mem_ofEvents hop; exact touch_mute (hm e he)
  refine ⟨fun said => noRace_append (h.clean said) h0 fun i a _ op hop b hb _ => (by rw [hn op hop] at hb; cases hb), fun i a ha hm => ?_, handedOver_app h.over fun op hop => .inr (hn op hop), (Deaf_other t hg _ h0).trans h.hears⟩
  obtain ⟨x, hx, hxa⟩ := touch_of ha
  rcases getElem?_append_cases hx with ⟨_, hx'⟩ | ⟨_, hxu⟩
  · exact (h.known i a (by rw [touchAt_of hx']; exact hxa) hm).imp (·.app _) id
  · rw [hn x hxu] at hxa; cases hxa

class Thr where
  N : Nat
/-- W is w, but for the emptied blocks and the count of draws. -/
structure Hd [Thr] (S : Nat → Prop) (w W : World) : Prop extends Hid S (w.at W.drawn) W where
  thr : ∀ b, S b → Thr.N ≤ b
theorem Hd.at [Thr] {S : Nat → Prop} {w W : World} (h : Hd S w W) (d : Nat) : Hd S w (W.at d) := ⟨⟨h.tape, rfl, h.os, h.output, h.size, h.out, h.inn⟩, h.thr⟩
theorem Hd.of [Thr] {S : Nat → Prop} {w W : World} (h : Hid S w W) (ht : ∀ b, S b → Thr.N ≤ b) : Hd S w W := ⟨⟨h.tape, rfl, h.os, h.output, h.size, h.out, h.inn⟩, ht⟩
theorem Hd.at' [Thr] {S : Nat → Prop} {w W : World} (h : Hd S w W) (d : Nat) : Hd S (w.at d) W := ⟨h.toHid, h.thr⟩

/-- BESIDE LEAVERS, S not to be touched, d deep deaf, goroutine 0 comes from g, w to where Q holds; there it hears. -/
def BTS [Thr] (P : Program) (Q : Goroutine → World → Prop) (S : Nat → Prop) (d : Nat) (g : Goroutine) (w : World) : Prop :=
  ∀ (W : World) (gs : Array Goroutine) (sl : Option (Nat × Nat)) (t : Trace) (q : Nat → Nat), Hd S w W → gs[0]? = some g → Leavers P t gs q → Pst S d t →
    ∃ (N : Nat) (gs' : Array Goroutine) (g' : Goroutine) (w' W' : World) (S' : Nat → Prop) (sl' : Option (Nat × Nat)) (t' : Trace) (q' : Nat → Nat),
      runNT P N (crowd gs W sl) t = (.next (crowd gs' W' sl'), t') ∧ gs'[0]? = some g' ∧ Leavers P t' gs' q' ∧ Pst S' 0 t' ∧ Hd S' w' W' ∧ Q g' w'
def BT [Thr] (P : Program) (Q : Goroutine → World → Prop) (g : Goroutine) (w : World) : Prop := ∀ S, BTS P Q S 0 g w

section
variable {Q Q' : Goroutine → World → Prop} {S : Nat → Prop} {d : Nat}
theorem BTS.done [Thr] {g : Goroutine} {w : World} (h : Q g w) : BTS P Q S 0 g w := fun W gs sl t q hh h0 hL hP => ⟨0, gs, g, w, W, S, sl, t, q, rfl, h0, hL, hP, hh, h⟩
theorem BT.done [Thr] {g : Goroutine} {w : World} (h : Q g w) : BT P Q g w := fun S => BTS.done h
theorem BTS.trans [Thr] {g : Goroutine} {w : World} (h : BTS P (BT P Q) S d g w) : BTS P Q S d g w := by
  intro W gs sl t q hh h0 hL hP
  obtain ⟨N, gs1, g1, w1, W1, S1, sl1, t1, q1, r1, h1, L1, P1, hh1, hB⟩ := h W gs sl t q hh h0 hL hP
  obtain ⟨N2, gs2, g2, w2, W2, S2, sl2, t2, q2, r2, h2, L2, P2, hh2, hQ⟩ := hB S1 W1 gs1 sl1 t1 q1 hh1 h1 L1 P1
  exact ⟨N + N2, gs2, g2, w2, W2, S2, sl2, t2, q2, by rw [runNT_add, r1]; exact r2, h2, L2, P2, hh2, hQ⟩
theorem BT.trans [Thr] {g : Goroutine} {w : World} (h : BT P (BT P Q) g w) : BT P Q g w := fun S => (h S).trans
theorem BTS.mono [Thr] {g : Goroutine} {w : World} (h : BTS P Q S d g w) (hq : ∀ g w, Q g w → Q' g w) : BTS P Q' S d g w := by
  intro W gs sl t q hh h0 hL hP
  obtain ⟨N, gs1, g1, w1, W1, S1, sl1, t1, q1, r1, h1, L1, P1, hh1, hB⟩ := h W gs sl t q hh h0 hL hP
  exact ⟨N, gs1, g1, w1, W1, S1, sl1, t1, q1, r1, h1, L1, P1, hh1, hq _ _ hB⟩
theorem BT.mono [Thr] {g : Goroutine} {w : World} (h : BT P Q g w) (hq : ∀ g w, Q g w → Q' g w) : BT P Q' g w := fun S => (h S).mono hq
theorem BTS.at [Thr] {g : Goroutine} {w : World} {k : Nat} (h : BTS P Q S d g (w.at k)) : BTS P Q S d g w := fun W gs sl t q hh => h W gs sl t q (hh.at' k)
theorem BT.at [Thr] {g : Goroutine} {w : World} {k : Nat} (h : BT P Q g (w.at k)) : BT P Q g w := fun S => (h S).at

/-- goroutine 0's own step, and those of the leavers that come first -/
theorem BTS.step [Thr] {g : Goroutine} (hrun : g.status = .running) {w : World} (h : ∀ W, Hd S w W → ∃ g' w' W' es, stepG P true g W = .go g' W' es ∧ Hd S w' W' ∧ (∀ e ∈ es, EvN S e) ∧ BTS P Q S (deafBehind d es) g' w') : BTS P Q S d g w := by
  have key : ∀ (M : Nat) (W : World) (gs : Array Goroutine) (sl : Option (Nat × Nat)) (t : Trace) (q : Nat → Nat), sumTo gs.size q < M → Hd S w W → gs[0]? = some g → Leavers P t gs q → Pst S d t →
      ∃ (N : Nat) (gs' : Array Goroutine) (g' : Goroutine) (w' W' : World) (S' : Nat → Prop) (sl' : Option (Nat × Nat)) (t' : Trace) (q' : Nat → Nat),
        runNT P N (crowd gs W sl) t = (.next (crowd gs' W' sl'), t') ∧ gs'[0]? = some g' ∧ Leavers P t' gs' q' ∧ Pst S' 0 t' ∧ Hd S' w' W' ∧ Q g' w' := by
    intro M
    induction M with
    | zero => intro W gs sl t q hM; omega
    | succ M ih =>
      intro W gs sl t q hM hh h0 hL hP
      have haw : ∀ g ∈ gs, awake g := by
        intro x hx
        obtain ⟨i, hi, rfl⟩ := Array.mem_iff_getElem.1 hx
        rcases Nat.eq_zero_or_pos i with rfl | hpos
        · have : gs[0] = g := by simpa [Array.getElem?_eq_getElem hi] using h0
          rw [this]; exact awake_of (.inl hrun)
        · exact awake_of ((hL.old i _ hpos (Array.getElem?_eq_getElem hi)).status.elim .inl fun x => .inr (.inr x))
      obtain ⟨i, x, d', sl', hi, hx, hst⟩ := crowd_pick (P := P) (w := W) (sl := sl) haw ⟨0, g, h0, hrun⟩
      rcases Nat.eq_zero_or_pos i with rfl | hpos
      · obtain rfl : x = g := by rw [h0] at hi; exact (Option.some.inj hi).symm
        obtain ⟨g', w', W', es, hgo, hh', hez, hB⟩ := h (W.at d') (hh.at d')
        have hrunT := runT_crowd_go (P := P) (sl := sl') (i := 0) hi (show stepG P (0 == 0) x (W.at d') = _ from hgo)
        have hlt : 0 < gs.size := (Array.getElem?_eq_some_iff.1 h0).1
        obtain ⟨N, gs', a', w2, W2, S2, sl2, t', q', hr, h0', hL', hP', hh2, hQ⟩ := hB W' ((gs.map (woken P x g' W')).setIfInBounds 0 g') sl' (t ++ MemOp.ofEvents 0 x.frame.fn x.frame.place es) q hh' (by simp [hlt])
          ⟨fun j y hj hy => by
            have hne : 0 ≠ j := by omega
            rw [Array.getElem?_setIfInBounds_ne hne, Array.getElem?_map] at hy
            obtain ⟨z, hz, rfl⟩ := Option.map_eq_some_iff.1 hy
            have hq := hL.old j z hj hz
            rw [woken_quitsD hq, Deaf_other t (by omega) _ (fun op hop => by obtain ⟨e, _, rfl⟩ := Go.Conc.mem_ofEvents hop; rfl)]
            exact hq, fun j hj => by
            rw [Deaf_other t (g' := 0) (by simp at hj; omega) _ (fun op hop => by obtain ⟨e, _, rfl⟩ := Go.Conc.mem_ofEvents hop; rfl)]
            exact hL.above j (by simpa using hj)⟩
          (hP.own _ _ hez)
        exact ⟨N + 1, gs', a', w2, W2, S2, sl2, t', q', by simp only [runNT, hst, hrunT]; exact hr, h0', hL', hP', hh2, hQ⟩
      · have hq := hL.old i x hpos hi
        have hi0 : (i == 0) = false := by simp; omega
        have hlt : i < gs.size := (Array.getElem?_eq_some_iff.1 hi).1
        cases hqi : q i with
        | zero => rw [hqi] at hq; rw [hq.1] at hx; cases hx
        | succ k =>
          rw [hqi] at hq
          rcases hq with ⟨hf, _⟩ | ⟨_, g', es, hm, hstp, hq'⟩
          · rw [hf] at hx; cases hx
          have hrunT := runT_crowd_go (P := P) (sl := sl') (i := i) hi (by rw [hi0]; exact hstp (W.at d'))
          have hsz : ((gs.map (woken P x g' (W.at d'))).setIfInBounds i g').size = gs.size := by simp
          have hsum : sumTo gs.size (upd q i k) + (k + 1) = sumTo gs.size q + k := by
            have := sumTo_upd q k id hlt
            simpa [hqi] using this
          obtain ⟨N, gs', a', w2, W2, S2, sl2, t', q', hr, h0', hL', hP', hh2, hQ⟩ := ih (W.at d') ((gs.map (woken P x g' (W.at d'))).setIfInBounds i g') sl' (t ++ MemOp.ofEvents i x.frame.fn x.frame.place es) (upd q i k) (by rw [hsz]; omega) (hh.at d')
            (by
              have hne : i ≠ 0 := by omega
              rw [Array.getElem?_setIfInBounds_ne hne, Array.getElem?_map, h0]
              simp [woken_run hrun])
            ⟨fun j y hj hy => by
              by_cases hji : i = j
              · subst hji
                rw [Array.getElem?_setIfInBounds_self_of_lt (by simpa using hlt)] at hy
                obtain rfl := Option.some.inj hy
                rw [upd_same, Deaf_own]
                exact hq'
              · rw [Array.getElem?_setIfInBounds_ne hji, Array.getElem?_map] at hy
                obtain ⟨z, hz, rfl⟩ := Option.map_eq_some_iff.1 hy
                have hqj := hL.old j z hj hz
                rw [woken_quitsD hqj, upd_ne q k (Ne.symm hji), Deaf_other t hji _ (fun op hop => by obtain ⟨e, _, rfl⟩ := Go.Conc.mem_ofEvents hop; rfl)]
                exact hqj, fun j hj => by
              rw [Deaf_other t (g' := i) (by simp at hj; omega) _ (fun op hop => by obtain ⟨e, _, rfl⟩ := Go.Conc.mem_ofEvents hop; rfl)]
              exact hL.above j (by simpa using hj)⟩
            (hP.mute (by omega) _ _ hm)
          exact ⟨N + 1, gs', a', w2, W2, S2, sl2, t', q', by simp only [runNT, hst, hrunT]; exact hr, h0', hL', hP', hh2, hQ⟩
  exact fun W gs sl t q hh h0 hL hP => key _ W gs sl t q (Nat.lt_succ_self _) hh h0 hL hP
end

theorem evN_of {S : Nat → Prop} {e : Event} (h1 : EvZ e) (h2 : EvS S e) : EvN S e := by
  obtain ⟨loc, wr, sy⟩ := e
  rintro x hx ⟨a, ha, hb⟩
  cases loc with
  | cell a' =>
    simp only [MemAct.ofEvent, MemAct.touch?, Option.some.injEq] at hx
    subst hx
    simp only [Loc.cell.injEq] at ha
    subst ha
    exact absurd hb (h2 a' rfl)
  | obj r =>
    exfalso
    have := h1.2 r rfl
    simp only at this
    subst this
    cases sy <;> simp [MemAct.ofEvent, MemAct.touch?] at hx <;> subst hx <;> cases ha
  | mark m =>
    have := h1.1 m rfl
    subst this
    simp [MemAct.ofEvent, MemAct.touch?] at hx
  | output => 
    simp [MemAct.ofEvent, MemAct.touch?] at hx
    subst hx
    cases ha
  | goroutines => 
    simp [MemAct.ofEvent, MemAct.touch?] at hx
    subst hx
    cases ha
theorem still_of {es : Array Event} (h : ∀ e ∈ es, EvZ e) (d : Nat) : deafBehind d es = d :=
  deafBehind_still (fun e he => ⟨fun x => (by have := (h e he).1 _ x; cases this), fun x => (by have := (h e he).1 _ x; cases this)⟩) d

/-- blocks that are empty at the end were so all the way -/
theorem wins_pz {E : Frame → Bool} {Q : Frame → World → Prop} {fr : Frame} {up : List Frame} {w : World} (h : Wins P Z Q E fr up w) {B : Nat → Prop} (hQ : ∀ fr w', Q fr w' → ∀ b, B b → Pz w' b) : ∀ b, B b → b < w.heap.size → Pz w b := by
  induction h with
  | stop h => exact fun b hb _ => hQ _ _ h.2.2 b hb
  | @step fr up w ho hs hn ih =>
    intro b hb hlt
    obtain ⟨fr', up', w', es, hm⟩ := hs w.tape w.drawn
    exact hm.left b hlt (ih _ _ _ _ _ _ hm b hb (Nat.lt_of_lt_of_le hlt hm.size))

/-- what ends whatever is answered ends beside leavers, and the lowest frame may have more to do -/
theorem wins_bts [Thr] {E : Frame → Bool} {Q : Frame → World → Prop} {fr : Frame} {up : List Frame} {w : World} (h : Wins P Z Q E fr up w) {S : Nat → Prop} (hlt : ∀ b, S b → b < w.heap.size) (hQ : ∀ fr w', Q fr w' → ∀ b, S b → Pz w' b) (cs : List Frame) (k : List Item)
    (hk : k = [] ∨ ∀ fr, fr.mode = .run → E fr = false → fr.todo ≠ []) :
    BTS P (fun g' w' => ∃ fr', g' = G (ex k fr') cs ∧ E fr' = true ∧ Q fr' w') S 0 (G (bot k fr up).1 ((bot k fr up).2 ++ cs)) w := by
  induction h with
  | stop h => obtain ⟨rfl, he, h⟩ := h; exact BTS.done ⟨_, rfl, he, h⟩
  | @step fr up w ho hs hn ih =>
    refine BTS.step rfl fun W hh => ?_
    obtain ⟨fr', up', w', es, hm⟩ := hs w.tape W.drawn
    have hlt' : ∀ b, S b → b < w'.heap.size := fun b hb => Nat.lt_of_lt_of_le (hlt b hb) hm.size
    rcases hm.hidK S W hh.toHid with hl | ⟨W', hh', he, hst⟩
    · exfalso
      obtain ⟨b, hb, h1, h2⟩ := hl
      exact h2 (wins_pz (hn _ _ _ _ _ _ hm) hQ b hb h1)
    · have hmore : More k fr up := hk.imp id fun h => ho.imp id fun x => ⟨x.1, h fr x.1 x.2⟩
      have h1 := hst cs k W.tape W.drawn hmore (fun k hk => by rw [hh.tape]; rfl)
      have hg : W.drawn ≤ w'.drawn := hm.grows
      have ht : W'.tape = W.tape := by rw [hh'.tape, hm.tape]; exact hh.tape.symm
      have e1 : rt W.tape W.drawn W = W := rfl
      have e2 : rt W.tape (W.drawn + (w'.drawn - (rt w.tape W.drawn w).drawn)) W' = W' := by
        show rt W.tape (W.drawn + (w'.drawn - W.drawn)) W' = W'
        rw [show W.drawn + (w'.drawn - W.drawn) = w'.drawn by omega, ← ht, ← hh'.drawn]; rfl
      rw [e1, e2] at h1
      refine ⟨_, w', W', es, h1, Hd.of hh' hh.thr, fun e h => evN_of (hm.evs e h) (he e h), ?_⟩
      rw [still_of hm.evs]
      exact ih _ _ _ _ _ _ hm hlt'

/-- ████ A LONE CONTRACT, BESIDE LEAVERS, S not to be touched. ████ -/
theorem BT.calls [Thr] (hF : SetOk P Z) {f : FuncId} {args : Array Value} {w : World} (hf : Z.F f = true) (hka : ∀ s ∈ Z.K f, ∀ v, args[s]? = some v → Fv Z v) (hg : GC P w) {R : Value → World → Prop} (hR : ∀ v w T d, R v w → R v (rt T d w))
    (hC : ∀ T d, Calls P f args (rt T d w) fun e w' => ∃ v, e = .returned v ∧ R v w') (hE : ∀ v w', R v w' → ∀ b, Pz w b → Pz w' b) (cs : List Frame) :
    BT P (fun g' w' => ∃ fr, g' = G fr cs ∧ fr.fn = f ∧ ∃ v, fr.leaving P w' (.returned v) ∧ R v w') (G (Frame.enter P f args .normal) cs) w := by
  intro S W gs sl t q hh h0 hL hP
  have hlt : ∀ b, S b → b < w.heap.size := fun b hb => hh.lt hb
  have hpz : ∀ b, S b → Pz w b := fun b hb => hh.pz hb
  have hw := wins_bts (wins_of_calls hF hf hka hg hR hC) hlt (fun fr w' ⟨_, v, _, hr⟩ b hb => hE v w' hr b (hpz b hb)) cs [] (.inl rfl)
  rw [bot_nil] at hw
  refine (hw.mono (Q' := fun g' w' => ∃ fr, g' = G fr cs ∧ fr.fn = f ∧ ∃ v, fr.leaving P w' (.returned v) ∧ R v w') fun g w ⟨fr, h1, _, h2, h3⟩ => ⟨fr, by rw [h1, ex_nil], h2, h3⟩) W gs sl t q hh h0 hL hP
end Go.Proofs.Ytpmmimcafkillaa.Br
