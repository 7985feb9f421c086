/-
  Beside goroutines that only leave, a lone contract holds; what the trace may bear. It names no program; no conditions.
-/
import Derived.Test.YtdemcjppokhonaaBrC
import Derived.Conc.Know
set_option linter.unusedVariables false
set_option linter.unusedSimpArgs false
namespace Go.Proofs.Ytdemcjppokhonaa
open Go Go.Conc
open Go.ConcN (sumTo upd sumTo_upd upd_ne upd_same)
variable {P : Program} {F : FuncId → Bool}

/-- No word of the library's; nobody writes a whole block plainly. -/
def Wd (t : Trace) : Prop := Wordless t ∧ ∀ op ∈ t, ∀ r, op.act.touch? ≠ some ⟨.obj r, true, .plain⟩
def Over (t : Trace) (i : Nat) : Prop := ∃ j, t.g? j = some 0 ∧ HappensBefore t i j
/-- No goroutine but 0 touches memory but by looking at a channel, and that is handed over. -/
def Hush (t : Trace) : Prop := Wd t ∧ ∀ i op, t[i]? = some op → op.g ≠ 0 → op.act.touch? = none ∨ ((∃ c, op.act = .access ⟨.obj c, false, true⟩) ∧ Over t i)
/-- .. or is handed over once goroutine 0 has found channel c closed. -/
def Pend (c : Nat) (t : Trace) : Prop := Wd t ∧ ∀ i op, t[i]? = some op → op.g ≠ 0 → op.act.touch? = none ∨ ((∃ c, op.act = .access ⟨.obj c, false, true⟩) ∧ (Over t i ∨ ∃ pc y, i < pc ∧ t[pc]? = some y ∧ y.g = op.g ∧ y.act = .close c))
def Mild (u : Trace) : Prop := ∀ op ∈ u, (∀ m, op.act = .mark m → Neutral m) ∧ (∀ r, op.act.touch? ≠ some ⟨.obj r, true, .plain⟩) ∧ (op.g ≠ 0 → op.act.touch? = none)
theorem mild_app {u v : Trace} (h : Mild u) (h' : Mild v) : Mild (u ++ v) := fun op hop => (Array.mem_append.1 hop).elim (h op) (h' op)
theorem over_app {t : Trace} {i : Nat} (u : Trace) (h : Over t i) : Over (t ++ u) i := by
  obtain ⟨j, h1, h2⟩ := h
  refine ⟨j, ?_, hb_app u h2⟩
  unfold Trace.g? at h1 ⊢
  obtain ⟨op, ho, hg⟩ := Option.map_eq_some_iff.1 h1
  rw [getElem?_append_old (lt_size_of_getElem? ho), ho]
  simp [hg]
theorem wd_app {t u : Trace} (h : Wd t) (h1 : Wordless u) (h2 : ∀ op ∈ u, ∀ r, op.act.touch? ≠ some ⟨.obj r, true, .plain⟩) : Wd (t ++ u) :=
  ⟨h.1.append h1, fun op hop => (Array.mem_append.1 hop).elim (h.2 op) (h2 op)⟩
theorem wd_mild {t u : Trace} (h : Wd t) (hu : Mild u) : Wd (t ++ u) := wd_app h (fun op hop => (hu op hop).1) (fun op hop => (hu op hop).2.1)
theorem hush_app {t u : Trace} (h : Hush t) (hu : Mild u) : Hush (t ++ u) := by
  refine ⟨wd_mild h.1 hu, fun i op hi hne => ?_⟩
  rcases getElem?_append_cases hi with ⟨_, hi'⟩ | ⟨_, hm⟩
  · rcases h.2 i op hi' hne with x | ⟨x, y⟩
    · exact .inl x
    · exact .inr ⟨x, over_app u y⟩
  · exact .inl ((hu op hm).2.2 hne)
theorem pend_app {c : Nat} {t u : Trace} (h : Pend c t) (hu : Mild u) : Pend c (t ++ u) := by
  refine ⟨wd_mild h.1 hu, fun i op hi hne => ?_⟩
  rcases getElem?_append_cases hi with ⟨_, hi'⟩ | ⟨_, hm⟩
  · rcases h.2 i op hi' hne with x | ⟨x, y | ⟨pc, y, h1, h2, h3, h4⟩⟩
    · exact .inl x
    · exact .inr ⟨x, .inl (over_app u y)⟩
    · exact .inr ⟨x, .inr ⟨pc, y, h1, by rw [getElem?_append_old (lt_size_of_getElem? h2)]; exact h2, h3, h4⟩⟩
  · exact .inl ((hu op hm).2.2 hne)
/-- Goroutine 0 finds the channel closed. -/
theorem pend_over {c : Nat} {t : Trace} {x : MemOp} (h : Pend c t) (hx : x.g = 0) (ha : x.act = .recvClosed c) : Hush (t ++ #[x]) := by
  have hm : Mild #[x] := fun op hop => by
    obtain rfl : op = x := by simpa using hop
    rw [ha]
    exact ⟨fun m h => (by cases h), fun r h => (by cases h), fun _ => rfl⟩
  have hw := wd_mild h.1 hm
  have hlast : (t ++ #[x])[t.size]? = some x := by simp
  refine ⟨hw, fun i op hi hne => ?_⟩
  rcases getElem?_append_cases hi with ⟨hlt, hi'⟩ | ⟨_, hmm⟩
  · rcases h.2 i op hi' hne with z | ⟨z, y | ⟨pc, y, h1, h2, h3, h4⟩⟩
    · exact .inl z
    · exact .inr ⟨z, over_app _ y⟩
    · refine .inr ⟨z, t.size, by simp [Trace.g?, hx], ?_⟩
      have hpc : (t ++ #[x])[pc]? = some y := by rw [getElem?_append_old (lt_size_of_getElem? h2)]; exact h2
      have e1 : HappensBefore (t ++ #[x]) i pc := hb_po h1 hi hpc h3.symm
      have e2 : HappensBefore (t ++ #[x]) pc t.size := .single (.inr ⟨.closed (c := c) (by simp only [Trace.act?, hpc, Option.map_some, h4]) (by simp only [Trace.act?, hlast, Option.map_some, ha]), hw.1.heard hpc, hw.1.heard hlast⟩)
      exact e1.trans e2
  · exact .inl ((hm op hmm).2.2 hne)
/-- The child looks at the channel and closes it. -/
theorem pend_close {c i : Nat} {t : Trace} {fn : FuncId} {pos : String} (h : Hush t) : Pend c (t ++ MemOp.ofEvents i fn pos #[⟨.obj c, false, true⟩, ⟨.obj c, true, true⟩]) := by
  have e : MemOp.ofEvents i fn pos #[⟨.obj c, false, true⟩, ⟨.obj c, true, true⟩] = #[⟨i, fn, pos, .access ⟨.obj c, false, true⟩⟩, ⟨i, fn, pos, .close c⟩] := by
    rw [ofEvents_eq]; simp [MemAct.ofEvent]
  rw [e]
  refine ⟨wd_app h.1 (fun op hop m hm => ?_) (fun op hop r hr => ?_), fun j op hj hne => ?_⟩
  · simp only [List.mem_toArray, List.mem_cons, List.not_mem_nil, or_false] at hop
    rcases hop with rfl | rfl <;> cases hm
  · simp only [List.mem_toArray, List.mem_cons, List.not_mem_nil, or_false] at hop
    rcases hop with rfl | rfl
    · simp [MemAct.touch?] at hr
    · cases hr
  · rw [Array.getElem?_append] at hj
    split at hj
    · rcases h.2 j op hj hne with x | ⟨x, y⟩
      · exact .inl x
      · exact .inr ⟨x, .inl (over_app _ y)⟩
    · rename_i hlt
      have hk : j - t.size = 0 ∨ j - t.size = 1 ∨ 2 ≤ j - t.size := by omega
      rcases hk with hk | hk | hk
      · rw [hk] at hj
        simp at hj
        subst hj
        refine .inr ⟨⟨c, rfl⟩, .inr ⟨t.size + 1, ⟨i, fn, pos, .close c⟩, by omega, ?_, rfl, rfl⟩⟩
        rw [Array.getElem?_append, if_neg (by omega)]
        simp
      · rw [hk] at hj
        simp at hj
        subst hj
        exact .inl rfl
      · rw [Array.getElem?_eq_none (by simpa using hk)] at hj
        cases hj
theorem mild0 {fn : FuncId} {pos : String} {es : Array Event} (h : ∀ e ∈ es, EvZ e) : Mild (MemOp.ofEvents 0 fn pos es) := fun op hop => by
  obtain ⟨e, he, rfl⟩ := Go.Conc.mem_ofEvents hop
  obtain ⟨h1, h2⟩ := h e he
  refine ⟨ofEvent_noMark fun m hm => h1 m hm, fun r hr => ?_, fun hne => absurd rfl hne⟩
  have := ofEvent_touch (fun m hm => h1 m hm) hr
  simp only at this
  have h3 := h2 r this.1.symm
  rw [← this.2] at h3
  cases h3
theorem mild_none (g : Nat) (fn : FuncId) (pos : String) : Mild (MemOp.ofEvents g fn pos #[]) := fun op hop => by
  obtain ⟨e, he, rfl⟩ := Go.Conc.mem_ofEvents hop
  simp at he
theorem mild_comm {u : Trace} (h : ∀ op ∈ u, op.act.touch? = none ∧ ∀ m, op.act ≠ .mark m) : Mild u := fun op hop =>
  ⟨fun m hm => absurd hm ((h op hop).2 m), fun r hr => (by rw [(h op hop).1] at hr; cases hr), fun _ => (h op hop).1⟩

/-- All but goroutine 0 are only leaving. -/
def Lvs (P : Program) (gs : Array Goroutine) (q : Nat → Nat) : Prop := ∀ i g, 0 < i → gs[i]? = some g → QuitsIn P (q i) g

/-- BESIDE LEAVERS goroutine 0 comes from here to where Q holds. -/
def BTo (P : Program) (Q : Goroutine → World → Prop) (g : Goroutine) (w : World) : Prop :=
  ∀ (gs : Array Goroutine) (sl : Option (Nat × Nat)) (t : Trace) (q : Nat → Nat), gs[0]? = some g → Lvs P gs q → Hush t →
    ∃ (N : Nat) (gs' : Array Goroutine) (g' : Goroutine) (w' : World) (sl' : Option (Nat × Nat)) (t' : Trace) (q' : Nat → Nat),
      runNT P N (crowd gs w sl) t = (.next (crowd gs' w' sl'), t') ∧ gs.size ≤ gs'.size ∧ gs'[0]? = some g' ∧ Lvs P gs' q' ∧ Hush t' ∧ Q g' w'

/-- The same from a trace of which H holds. -/
def BToH (P : Program) (H : Trace → Prop) (Q : Goroutine → World → Prop) (g : Goroutine) (w : World) : Prop :=
  ∀ (gs : Array Goroutine) (sl : Option (Nat × Nat)) (t : Trace) (q : Nat → Nat), gs[0]? = some g → Lvs P gs q → H t →
    ∃ (N : Nat) (gs' : Array Goroutine) (g' : Goroutine) (w' : World) (sl' : Option (Nat × Nat)) (t' : Trace) (q' : Nat → Nat),
      runNT P N (crowd gs w sl) t = (.next (crowd gs' w' sl'), t') ∧ gs.size ≤ gs'.size ∧ gs'[0]? = some g' ∧ Lvs P gs' q' ∧ Hush t' ∧ Q g' w'

section
variable {Q Q' : Goroutine → World → Prop}
theorem BTo.done {g : Goroutine} {w : World} (h : Q g w) : BTo P Q g w := fun gs sl t q h0 hL hH => ⟨0, gs, g, w, sl, t, q, rfl, Nat.le_refl _, h0, hL, hH, h⟩
theorem BTo.trans {g : Goroutine} {w : World} (h : BTo P (BTo P Q) g w) : BTo P Q g w := by
  intro gs sl t q h0 hL hH
  obtain ⟨N, gs', g', w', sl', t', q', hr, hs, h0', hL', hH', hQ⟩ := h gs sl t q h0 hL hH
  obtain ⟨N2, gs2, g2, w2, sl2, t2, q2, hr2, hs2, h02, hL2, hH2, hQ2⟩ := hQ gs' sl' t' q' h0' hL' hH'
  exact ⟨N + N2, gs2, g2, w2, sl2, t2, q2, by rw [runNT_add, hr]; exact hr2, Nat.le_trans hs hs2, h02, hL2, hH2, hQ2⟩
theorem BTo.mono {g : Goroutine} {w : World} (h : BTo P Q g w) (hq : ∀ g w, Q g w → Q' g w) : BTo P Q' g w := by
  intro gs sl t q h0 hL hH
  obtain ⟨N, gs', g', w', sl', t', q', hr, hs, h0', hL', hH', hQ⟩ := h gs sl t q h0 hL hH
  exact ⟨N, gs', g', w', sl', t', q', hr, hs, h0', hL', hH', hq _ _ hQ⟩

/-- ONE STEP OF GOROUTINE 0's, at whatever count of draws. -/
theorem BToH.step {H : Trace → Prop} (hK : ∀ t u, H t → Mild u → H (t ++ u)) {g : Goroutine} {w : World} (hrun : g.status = .running) (h : ∀ d, ∃ g' w' es, stepG P true g (w.at d) = .go g' w' es ∧ (∀ e ∈ es, EvZ e) ∧ BToH P H Q g' w') : BToH P H Q g w := by
  suffices H : ∀ (M : Nat) (w : World), (∀ d, ∃ g' w' es, stepG P true g (w.at d) = .go g' w' es ∧ (∀ e ∈ es, EvZ e) ∧ BToH P H Q g' w') → ∀ (gs : Array Goroutine) (sl : Option (Nat × Nat)) (t : Trace) (q : Nat → Nat), sumTo gs.size q < M → gs[0]? = some g → Lvs P gs q → H t →
      ∃ (N : Nat) (gs' : Array Goroutine) (g' : Goroutine) (w' : World) (sl' : Option (Nat × Nat)) (t' : Trace) (q' : Nat → Nat),
        runNT P N (crowd gs w sl) t = (.next (crowd gs' w' sl'), t') ∧ gs.size ≤ gs'.size ∧ gs'[0]? = some g' ∧ Lvs P gs' q' ∧ Hush t' ∧ Q g' w' from
    fun gs sl t q h0 hL hH => H _ w h gs sl t q (Nat.lt_succ_self _) h0 hL hH
  intro M
  induction M with
  | zero => intro w h gs sl t q hM; omega
  | succ M ih =>
    intro w h gs sl t q hM h0 hL hH
    have haw : ∀ g ∈ gs, awake g := by
      intro x hx
      obtain ⟨i, hi, rfl⟩ := Array.mem_iff_getElem.1 hx
      rcases Nat.eq_zero_or_pos i with rfl | hpos
      · have : gs[0] = g := by simpa [Array.getElem?_eq_getElem hi] using h0
        rw [this]; exact awake_of (.inl hrun)
      · exact awake_of ((hL i _ hpos (Array.getElem?_eq_getElem hi)).status.elim .inl fun x => .inr (.inr x))
    obtain ⟨i, x, d, sl', hi, hx, hst⟩ := crowd_pick (P := P) (w := w) (sl := sl) haw ⟨0, g, h0, hrun⟩
    rcases Nat.eq_zero_or_pos i with rfl | hpos
    · obtain rfl : x = g := by rw [h0] at hi; exact (Option.some.inj hi).symm
      obtain ⟨g', w', es, hgo, hez, hB⟩ := h d
      have hrunT := runT_crowd_go (P := P) (sl := sl') (i := 0) hi (show stepG P (0 == 0) x (w.at d) = _ from hgo)
      have hsz : ((gs.map (woken P x g' w')).setIfInBounds 0 g').size = gs.size := by simp
      have hlt : 0 < gs.size := (Array.getElem?_eq_some_iff.1 h0).1
      obtain ⟨N, gs', a', w2, sl2, t', q', hr, hs', h0', hL', hH', hQ⟩ := hB ((gs.map (woken P x g' w')).setIfInBounds 0 g') sl' (t ++ MemOp.ofEvents 0 x.frame.fn x.frame.place es) q (by simp [hlt])
        (fun j y hj hy => by
          have hne : 0 ≠ j := by omega
          rw [Array.getElem?_setIfInBounds_ne hne, Array.getElem?_map] at hy
          obtain ⟨z, hz, rfl⟩ := Option.map_eq_some_iff.1 hy
          rw [woken_quits (hL j z hj hz)]
          exact hL j z hj hz) (hK _ _ hH (mild0 hez))
      exact ⟨N + 1, gs', a', w2, sl2, t', q', by simp only [runNT, hst, hrunT]; exact hr, Nat.le_trans (Nat.le_of_eq hsz.symm) hs', h0', hL', hH', hQ⟩
    · have hq := hL i x hpos hi
      have hi0 : (i == 0) = false := by simp; omega
      have hlt : i < gs.size := (Array.getElem?_eq_some_iff.1 hi).1
      cases hqi : q i with
      | zero => rw [hqi] at hq; have : x.status = .finished := hq; rw [this] at hx; cases hx
      | succ k =>
        rw [hqi] at hq
        rcases hq with hf | ⟨_, g', hstp, hq'⟩
        · rw [hf] at hx; cases hx
        have hrunT := runT_crowd_go (P := P) (sl := sl') (i := i) hi (by rw [hi0]; exact hstp (w.at d))
        have hsz : ((gs.map (woken P x g' (w.at d))).setIfInBounds i g').size = gs.size := by simp
        have hsum : sumTo gs.size (upd q i k) + (k + 1) = sumTo gs.size q + k := by
          have := sumTo_upd q k id hlt
          simpa [hqi] using this
        obtain ⟨N, gs', a', w2, sl2, t', q', hr, hs', h0', hL', hH', hQ⟩ := ih (w.at d) (fun d' => h d') ((gs.map (woken P x g' (w.at d))).setIfInBounds i g') sl' (t ++ MemOp.ofEvents i x.frame.fn x.frame.place #[]) (upd q i k) (by rw [hsz]; omega)
          (by
            have hne : i ≠ 0 := by omega
            rw [Array.getElem?_setIfInBounds_ne hne, Array.getElem?_map, h0]
            simp [woken_run hrun])
          (fun j y hj hy => by
            by_cases hji : i = j
            · subst hji
              rw [Array.getElem?_setIfInBounds_self_of_lt (by simpa using hlt)] at hy
              obtain rfl := Option.some.inj hy
              rw [upd_same]
              exact hq'
            · rw [Array.getElem?_setIfInBounds_ne hji, Array.getElem?_map] at hy
              obtain ⟨z, hz, rfl⟩ := Option.map_eq_some_iff.1 hy
              rw [woken_quits (hL j z hj hz), upd_ne q k (Ne.symm hji)]
              exact hL j z hj hz) (hK _ _ hH (mild_none _ _ _))
        exact ⟨N + 1, gs', a', w2, sl2, t', q', by simp only [runNT, hst, hrunT]; exact hr, Nat.le_trans (Nat.le_of_eq hsz.symm) hs', h0', hL', hH', hQ⟩
theorem BTo.step {g : Goroutine} {w : World} (hrun : g.status = .running) (h : ∀ d, ∃ g' w' es, stepG P true g (w.at d) = .go g' w' es ∧ (∀ e ∈ es, EvZ e) ∧ BTo P Q g' w') : BTo P Q g w :=
  BToH.step (H := Hush) (fun _ _ => hush_app) hrun h
end

/-- What ends whatever is answered ends beside leavers. -/
theorem wins_beside {Q : Frame → World → Prop} {fr : Frame} {up : List Frame} {w : World} (h : Wins P F Q fr up w) (cs : List Frame) : BTo P (fun g' w' => ∃ fr', g' = G fr' cs ∧ Q fr' w') (G fr (up ++ cs)) w := by
  induction h with
  | stop h => obtain ⟨rfl, _, h⟩ := h; exact BTo.done ⟨_, rfl, h⟩
  | @step fr up w ho hs hn ih =>
    refine BTo.step rfl fun d => ?_
    obtain ⟨fr', up', w', es, hm⟩ := hs w.tape d
    have := hm.same cs w.tape d (fun _ _ => rfl)
    have hg : d ≤ w'.drawn := hm.grows
    have ht : w'.tape = w.tape := hm.tape
    have e : rt w.tape (d + (w'.drawn - (rt w.tape d w).drawn)) w' = w' := by
      show rt w.tape (d + (w'.drawn - d)) w' = w'
      rw [show d + (w'.drawn - d) = w'.drawn by omega, ← ht]; rfl
    rw [rt_rt, e] at this
    exact ⟨_, _, _, this, hm.evs, ih _ _ _ _ _ _ hm⟩

/-- ████ A LONE CONTRACT, BESIDE LEAVERS. ████ -/
theorem beside_of_calls (hF : SetOk P F) {f : FuncId} {args : Array Value} {w : World} (hf : F f = true) (hg : GC P w) {R : Value → World → Prop} (hR : ∀ v w T d, R v w → R v (rt T d w))
    (hC : ∀ T d, Calls P f args (rt T d w) fun e w' => ∃ v, e = .returned v ∧ R v w') (cs : List Frame) :
    BTo P (fun g' w' => ∃ fr, g' = G fr cs ∧ fr.fn = f ∧ ∃ v, fr.leaving P w' (.returned v) ∧ R v w') (G (Frame.enter P f args .normal) cs) w :=
  (wins_beside (wins_of_calls hF hf hg hR hC) cs).mono fun g w ⟨fr, h1, h2, h3⟩ => ⟨fr, h1, h2, h3⟩
end Go.Proofs.Ytdemcjppokhonaa
