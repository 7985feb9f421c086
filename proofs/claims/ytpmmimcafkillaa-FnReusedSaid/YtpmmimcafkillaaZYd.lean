/-
  Beside goroutines that only leave: calls by lone contracts, pieces of code by lone walks, single steps, the return. It names no program; no conditions.
  The real machine runs on beside leavers, nothing listed, nothing turned; a world seen with blocks emptied. It names no program; no conditions.
-/
import Derived.Test.YtpmmimcafkillaaZIe
import Derived.Conc.CompanyWords
import Derived.Test.YtpmmimcafkillaaZTj
set_option linter.unusedVariables false
set_option linter.unusedSimpArgs false
namespace Go.Proofs.Ytpmmimcafkillaa.Br
open Go Go.Conc
open Go.ConcN (sumTo upd sumTo_upd upd_ne upd_same)
variable {P : Program} {Z : Sig} {Q : Goroutine → World → Prop}

/-- A frame hands its value back. -/
theorem BT.leave [Thr] {fr c : Frame} {cs : List Frame} {w : World} {v : Value} (h : fr.leaving P w (.returned v)) (hn : BT P Q (G (c.finish v) cs) w) : BT P Q (G fr (c :: cs)) w := by
  intro S
  refine BTS.step rfl fun W hh => ?_
  obtain ⟨hm, hd, hk, fn, hf, hr⟩ := leaving_rt h w.tape W.drawn
  rw [← Sem.runT_fst P _ _ #[]] at hr
  have hl := (run_left (S := S) (ns_results (P := P) fn fr.tmps) (rt w.tape W.drawn w) #[] (fun b hb => (hh.pz hb).em) (by simp)).evs
  have hz := run_evs P (ns_results (P := P) fn fr.tmps) (rt w.tape W.drawn w) #[] (by simp)
  have hs := (sm_results (P := P) fn fr.tmps).2 S (rt w.tape W.drawn w) W #[] hh.toHid
  cases hx : (results fn fr.tmps).runT P (rt w.tape W.drawn w) #[] with
  | mk r es =>
    rw [hx] at hr hl hz hs
    simp only at hr
    subst hr
    rcases hs with hl' | ⟨W', e, hh'⟩
    · exact absurd hl' hh.not_lost
    · refine ⟨G (c.finish v) cs, w, W', seen P fr.fn es, ?_, ⟨⟨hh'.tape, rfl, hh'.os, hh'.output, hh'.size, hh'.out, hh'.inn⟩, hh.thr⟩, fun e he => evN_of (hz e (mem_seen he)) (hl e (mem_seen he)), ?_⟩
      · simp only [G, stepG, unwind, doReturn, hm, hd, hk, hf, e, GStep.after, Array.append_empty]
      · rw [still_of fun e he => hz e (mem_seen he)]
        exact hn S

/-- ████ A CALL BY A LONE CONTRACT. ████ -/
theorem BT.call [Thr] (hF : SetOk P Z) {f : FuncId} {args : Array Value} {w : World} (hf : Z.F f = true) (hka : ∀ s ∈ Z.K f, ∀ v, args[s]? = some v → Fv Z v) (hg : GC P w) {R : Value → World → Prop} (hR : ∀ v w T d, R v w → R v (rt T d w))
    (hC : ∀ T d, Calls P f args (rt T d w) fun e w' => ∃ v, e = .returned v ∧ R v w') (hE : ∀ v w', R v w' → ∀ b, Pz w b → Pz w' b) {c : Frame} {cs : List Frame}
    (hn : ∀ v w', R v w' → BT P Q (G (c.finish v) cs) w') : BT P Q (G (Frame.enter P f args .normal) (c :: cs)) w := by
  refine BT.trans ((BT.calls hF hf hka hg hR hC hE (c :: cs)).mono ?_)
  rintro g' w' ⟨fr, rfl, _, v, hl, hr⟩
  exact BT.leave hl (hn v w' hr)

theorem okF_at {f : FuncId} {fn : Func} {a : Act} {todo : List Item} (hfn : P.funcs[f]? = some fn) (hK : Z.K f = []) (hd : a.defers = []) (ht : todo.all (okIt (okOp Z P [])) = true) : OkF P Z ((base f).at a todo) :=
  ⟨hd, rfl, rfl, ⟨fn, hfn⟩, by show todo.all (okIt (okOp Z P (Z.K f))) = true; rw [hK]; exact ht, fun s hs => by rw [show ((base f).at a todo).fn = f from rfl, hK] at hs; cases hs⟩

/-- ████ A PIECE OF CODE BY A LONE WALK; more may follow. ████ -/
theorem BT.code [Thr] (hF : SetOk P Z) {f : FuncId} {fn : Func} {c : Code} {a : Act} {w : World} (hfn : P.funcs[f]? = some fn) (hK : Z.K f = []) (hc : okC (okOp Z P []) c = true) (hd : a.defers = []) (hg : GC P w)
    {R : Act → World → Prop} (hR : ∀ a w T d, R a w → R a (rt T d w)) (hC : ∀ T d, c.wp P (fun e a' w' => e = .normal ∧ R a' w') a (rt T d w)) (hE : ∀ a' w', R a' w' → ∀ b, Pz w b → Pz w' b) {k : List Item} {cs : List Frame}
    (hn : ∀ a' w', R a' w' → BT P Q (G ((base f).at a' k) cs) w') : BT P Q (G ((base f).at a (.code c :: k)) cs) w := by
  have hW : Wins P Z (fun fr w' => ∃ a', fr = (base f).at a' [] ∧ R a' w') eCode ((base f).at a [.code c]) [] w := by
    refine wins_of_lone (fun fr w T d ⟨a', h1, h2⟩ => ⟨a', h1, hR _ _ _ _ h2⟩) fun T d => ?_
    obtain ⟨e, a', w', ⟨rfl, hr⟩, n, hs⟩ := hC T d (base f) [] [c0 P]
    exact reach_of_run hF (fin := (base f).at a' []) (wf := w') (by rfl) ⟨a', rfl, hr⟩ (over_code rfl) n _ [] _ (okF_at hfn hK hd (by simp [okIt, hc])) (fun f hf => by cases hf) hg hs
  intro S
  refine BTS.trans ?_
  intro W gs sl t q hh h0 hL hP
  have hw := wins_bts (S := S) hW (fun b hb => hh.lt hb) (fun fr w' ⟨a', _, hr⟩ b hb => hE a' w' hr b (hh.pz hb)) cs k (.inr fun fr h1 h2 h3 => by rw [eCode, h1, h3] at h2; cases h2)
  refine (hw.mono (Q' := BT P Q) fun g w ⟨fr, h1, _, a', h2, h3⟩ => ?_) W gs sl t q hh h0 hL hP
  rw [h1, h2]
  exact hn a' w h3

/-- ████ THE REST OF A BODY BY A LONE WALK. ████ -/
theorem BT.body [Thr] (hF : SetOk P Z) {f : FuncId} {fn : Func} {c : Code} {a : Act} {w : World} (hfn : P.funcs[f]? = some fn) (hK : Z.K f = []) (hc : okC (okOp Z P []) c = true) (hd : a.defers = []) (hg : GC P w)
    {R : Value → World → Prop} (hR : ∀ v w T d, R v w → R v (rt T d w)) (hC : ∀ T d, c.wp P (bodyPost P fn fun e w' => ∃ v, e = .returned v ∧ R v w') a (rt T d w)) (hE : ∀ v w', R v w' → ∀ b, Pz w b → Pz w' b) {c' : Frame} {cs : List Frame}
    (hn : ∀ v w', R v w' → BT P Q (G (c'.finish v) cs) w') : BT P Q (G ((base f).at a [.code c]) (c' :: cs)) w := by
  have hW : Wins P Z (QR P f R) eCall ((base f).at a [.code c]) [] w := by
    refine wins_of_lone (fun fr w T d ⟨h1, v, h2, h3⟩ => ⟨h1, v, leaving_rt h2 T d, hR _ _ _ _ h3⟩) fun T d => ?_
    obtain ⟨e, a', w', hq, hs⟩ := hC T d (base f) [] [c0 P]
    have fin : ∀ (fr : Frame), Steps P (lone ((base f).at a [.code c]) [c0 P] (rt T d w)) (lone fr [c0 P] w') → fr.mode = .returning → fr.fn = f → ∀ v, fr.leaving P w' (.returned v) → R v w' → ∃ n, ReachN P Z (QR P f R) eCall n ((base f).at a [.code c]) [] (rt T d w) := by
      rintro fr ⟨n, hs⟩ hm hff v hl hr
      exact reach_of_run hF (fin := fr) (wf := w') (by rw [eCall, hm]) ⟨hff, v, hl, hr⟩ over_call n _ [] _ (okF_at hfn hK hd (by simp [okIt, hc])) (fun f hf => by cases hf) hg hs
    cases e with
    | normal =>
      obtain ⟨hd', v, hr, _, hv, hR'⟩ := hq
      cases hv
      exact fin _ (Steps.trans hs (.one step_end)) rfl rfl v ⟨rfl, hd', rfl, fn, hfn, hr⟩ hR'
    | ret =>
      obtain ⟨hd', v, hr, _, hv, hR'⟩ := hq
      cases hv
      obtain ⟨todo, hs⟩ := hs
      exact fin _ hs rfl rfl v ⟨rfl, hd', rfl, fn, hfn, hr⟩ hR'
    | panic ch => obtain ⟨_, _, hv, _⟩ := hq; cases hv
    | exit id => exact hq.elim
    | goto l => exact hq.elim
    | outgrown => obtain ⟨_, hv, _⟩ := hq; cases hv
  intro S
  refine BTS.trans ?_
  intro W gs sl t q hh h0 hL hP
  have hw := wins_bts (S := S) hW (fun b hb => hh.lt hb) (fun fr w' ⟨_, v, _, hr⟩ b hb => hE v w' hr b (hh.pz hb)) (c' :: cs) [] (.inl rfl)
  rw [bot_nil] at hw
  refine (hw.mono (Q' := BT P Q) fun g w ⟨fr, h1, _, _, v, h2, h3⟩ => ?_) W gs sl t q hh h0 hL hP
  rw [h1, ex_nil]
  exact BT.leave h2 (hn v w h3)

/-! single steps -/
theorem bt_ctl [Thr] {g g' : Goroutine} {w : World} (hrun : g.status = .running) (hs : ∀ v, stepG P true g v = .go g' v #[]) (h : BT P Q g' w) : BT P Q g w := fun S =>
  BTS.step hrun fun W hh => ⟨g', w, W, #[], hs W, hh, by simp, h S⟩
/-- one operation -/
theorem bt_cons [Thr] (hB : Bodied P Z.F) {b : Frame} {a : Act} {k : List Item} {cs : List Frame} {w : World} {ops : Array Oper} {i : Nat} {rest : List Nat} {o : Oper} (ho : ops[i]? = some o) (hw : Region.wanted o (yielded ops a.tmps) = true) (hok : okOp Z P [] o = true) (hk : b.kind ≠ .early)
    (h : ∀ d, ∀ K : Act → World → Prop, (∀ a' w', (∀ b, Pz w b → Pz w' b) → BT P Q (G (b.at a' (.inRegion ops rest :: k)) cs) w' → K a' w') → uponK o a K ((execOp a.eval o).run P (w.at d))) : BT P Q (G (b.at a (.inRegion ops (i :: rest) :: k)) cs) w := by
  intro S
  refine BTS.step rfl fun W hh => ?_
  have hex := op_execOp hB (K := []) (ρ := a.eval) (fun f => rfl) (fun t ht => by cases ht) hok
  have hz := run_evs P hex.2.1 (w.at W.drawn) #[] (by simp)
  have hl := (run_left (S := S) hex.2.1 (w.at W.drawn) #[] (fun b hb => (hh.pz hb).em) (by simp)).evs
  have hs := hex.2.2 S (w.at W.drawn) W #[] hh.toHid
  have hu := h W.drawn (fun a' w' => (∀ b, Pz w b → Pz w' b) ∧ BT P Q (G (b.at a' (.inRegion ops rest :: k)) cs) w') fun a' w' h1 h2 => ⟨h1, h2⟩
  rw [← Sem.runT_fst P _ _ #[]] at hu
  cases hx : (execOp a.eval o).runT P (w.at W.drawn) #[] with
  | mk r es =>
    rw [hx] at hz hl hs hu
    have hev : ∀ e ∈ seen P b.fn es, EvN S e := fun e he => evN_of (hz e (mem_seen he)) (hl e (mem_seen he))
    have hst : ∀ e ∈ seen P b.fn es, EvZ e := fun e he => hz e (mem_seen he)
    have nl : ∀ w', (∀ b, Pz w b → Pz w' b) → ¬ Lost S w' := fun w' hp ⟨x, h1, _, h3⟩ => h3 (hp x (hh.pz h1))
    have real : ∀ (W' : World) (n : Next), (execOp a.eval o).runT P W #[] = (.ok n W', es) → (execOp a.eval o).run P W = .ok n W' ∧ listed P b.fn a o W = seen P b.fn es := fun W' n e => by
      have h1 := Sem.runT_fst P (execOp a.eval o) W #[]
      rw [e] at h1
      refine ⟨h1.symm, ?_⟩
      unfold listed
      rw [Sem.runT_eq] at e
      rw [(Prod.mk.inj e).2]
    cases r with
    | ok n w' =>
      cases n with
      | value v =>
        obtain ⟨hp, hb⟩ : (∀ b, Pz w b → Pz w' b) ∧ BT P Q (G (b.at (a.put o.dst v) (.inRegion ops rest :: k)) cs) w' := hu
        rcases hs with h1 | ⟨W', e, hh'⟩
        · exact absurd h1 (nl w' hp)
        · obtain ⟨r1, r2⟩ := real W' _ e
          refine ⟨_, w', W', _, stepG_value ho hw hk r1, Hd.of hh' hh.thr, ?_, ?_⟩
          · rw [r2]; exact hev
          · rw [r2, still_of hst]; exact hb S
      | skip =>
        obtain ⟨hp, hb⟩ : (∀ b, Pz w b → Pz w' b) ∧ BT P Q (G (b.at (a.put o.dst undef) (.inRegion ops rest :: k)) cs) w' := hu
        rcases hs with h1 | ⟨W', e, hh'⟩
        · exact absurd h1 (nl w' hp)
        · obtain ⟨r1, r2⟩ := real W' _ e
          refine ⟨_, w', W', _, stepG_none ho hw hk r1, Hd.of hh' hh.thr, ?_, ?_⟩
          · rw [r2]; exact hev
          · rw [r2, still_of hst]; exact hb S
      | _ => exact hu.elim
    | halt x w' => exact hu.elim
theorem bt_skip [Thr] {b : Frame} {a : Act} {k : List Item} {cs : List Frame} {w : World} {ops : Array Oper} {i : Nat} {rest : List Nat} {o : Oper} (ho : ops[i]? = some o) (hw : Region.wanted o (yielded ops a.tmps) = false) (h : BT P Q (G (b.at (a.put o.dst undef) (.inRegion ops rest :: k)) cs) w) : BT P Q (G (b.at a (.inRegion ops (i :: rest) :: k)) cs) w :=
  bt_ctl rfl (fun _ => stepG_unwanted ho hw) h
theorem evcall {o : Oper} {a : Act} {w : World} {fn f : FuncId} {fc : Func} {args : Array Operand} {ats : Array TypeId} (hop : o.op = .call { callee := .value (.func f), args, argTypes := ats })
    (hf : P.funcs[f]? = some fc) (hname : (fc.name == "runtime.NumGoroutine") = false) (hb : fc.body.isNone = false) : listed P fn a o w = #[] := by
  unfold listed
  rw [events_call_body hop hf hname hb]
  rfl
theorem bt_enter [Thr] {b : Frame} {a : Act} {k : List Item} {cs : List Frame} {w : World} {ops : Array Oper} {i : Nat} {rest : List Nat} {o : Oper} {f : FuncId} {fn : Func} {args : Array Operand} {vs : Array Value} {ats : Array TypeId}
    (hfn : P.funcs[f]? = some fn) (hname : (fn.name == "runtime.NumGoroutine") = false) (hb : fn.body.isNone = false)
    (ho : ops[i]? = some o) (hw : Region.wanted o (yielded ops a.tmps) = true) (hop : o.op = .call { callee := .value (.func f), args, argTypes := ats }) (hk : b.kind ≠ .early) (hargs : args.map a.eval = vs)
    (h : BT P Q (G (Frame.enter P f vs .normal) (b.at a (.inRegion ops (i :: rest) :: k) :: cs)) w) : BT P Q (G (b.at a (.inRegion ops (i :: rest) :: k)) cs) w := by
  subst hargs
  refine bt_ctl rfl (fun v => ?_) h
  rw [stepG_enter ho hw hk (run_call_body hop hfn hname hb), evcall hop hfn hname hb]
theorem bt_call [Thr] (hF : SetOk P Z) {b : Frame} {a : Act} {k : List Item} {cs : List Frame} {w : World} {ops : Array Oper} {i : Nat} {rest : List Nat} {o : Oper} {f : FuncId} {fn : Func} {args : Array Operand} {vs : Array Value} {ats : Array TypeId} {R : Value → World → Prop}
    (hC : ∀ T d, Calls P f vs (rt T d w) fun e w' => ∃ v, e = .returned v ∧ R v w') (hg : GC P w) (hR : ∀ v w T d, R v w → R v (rt T d w)) (hE : ∀ v w', R v w' → ∀ b, Pz w b → Pz w' b) (hf : Z.F f = true) (hka : ∀ s ∈ Z.K f, ∀ v, vs[s]? = some v → Fv Z v)
    (hfn : P.funcs[f]? = some fn) (hname : (fn.name == "runtime.NumGoroutine") = false) (hb : fn.body.isNone = false)
    (ho : ops[i]? = some o) (hw : Region.wanted o (yielded ops a.tmps) = true) (hop : o.op = .call { callee := .value (.func f), args, argTypes := ats }) (hk : b.kind ≠ .early) (hargs : args.map a.eval = vs)
    (hn : ∀ v w', R v w' → BT P Q (G (b.at (a.put o.dst v) (.inRegion ops rest :: k)) cs) w') : BT P Q (G (b.at a (.inRegion ops (i :: rest) :: k)) cs) w := by
  refine bt_enter hfn hname hb ho hw hop hk hargs (BT.call hF hf hka hg hR hC hE fun v w' hr => ?_)
  have hfin : (b.at a (.inRegion ops (i :: rest) :: k)).finish v = b.at (a.put o.dst v) (.inRegion ops rest :: k) := by rw [Frame.finish_at, ho]; rfl
  rw [hfin]
  exact hn v w' hr
/-- A contract beside leavers. -/
def CallsB [Thr] (P : Program) (f : FuncId) (args : Array Value) (w : World) (Post : Value → World → Prop) : Prop :=
  ∀ (c : Frame) (cs : List Frame) (Q : Goroutine → World → Prop), (∀ v w', Post v w' → BT P Q (G (c.finish v) cs) w') → BT P Q (G (Frame.enter P f args .normal) (c :: cs)) w
theorem bt_callB [Thr] {b : Frame} {a : Act} {k : List Item} {cs : List Frame} {w : World} {ops : Array Oper} {i : Nat} {rest : List Nat} {o : Oper} {f : FuncId} {fn : Func} {args : Array Operand} {vs : Array Value} {ats : Array TypeId} {R : Value → World → Prop}
    (hC : CallsB P f vs w R) (hfn : P.funcs[f]? = some fn) (hname : (fn.name == "runtime.NumGoroutine") = false) (hb : fn.body.isNone = false)
    (ho : ops[i]? = some o) (hw : Region.wanted o (yielded ops a.tmps) = true) (hop : o.op = .call { callee := .value (.func f), args, argTypes := ats }) (hk : b.kind ≠ .early) (hargs : args.map a.eval = vs)
    (hn : ∀ v w', R v w' → BT P Q (G (b.at (a.put o.dst v) (.inRegion ops rest :: k)) cs) w') : BT P Q (G (b.at a (.inRegion ops (i :: rest) :: k)) cs) w := by
  refine bt_enter hfn hname hb ho hw hop hk hargs (hC _ cs Q fun v w' hr => ?_)
  have hfin : (b.at a (.inRegion ops (i :: rest) :: k)).finish v = b.at (a.put o.dst v) (.inRegion ops rest :: k) := by rw [Frame.finish_at, ho]; rfl
  rw [hfin]
  exact hn v w' hr

/-! the return -/
/-- Goroutine 0 stands at the step that ends the run. -/
def AtEnd0 (P : Program) (Post : Value → World → Prop) (g : Goroutine) (w : World) : Prop :=
  g.status = .running ∧ ∀ W, ∃ v, stepG P true g W = .ended (.done v) W #[] ∧ Post v w
theorem bts_end [Thr] {Post : Value → World → Prop} {g : Goroutine} {w : World} (h : AtEnd0 P Post g w) {S : Nat → Prop} : ∀ (M : Nat) (W : World) (gs : Array Goroutine) (sl : Option (Nat × Nat)) (t : Trace) (q : Nat → Nat), sumTo gs.size q < M → Hd S w W → gs[0]? = some g → Leavers P t gs q → Pst S 0 t →
    ∃ N last o w' t', runNT P (N + 1) (crowd gs W sl) t = (.ended o w', t') ∧ runN P N (crowd gs W sl) = .next last ∧ step P last = .ended o w' ∧ Good P (fun v W' => Hd S w W' ∧ Post v w) last o w' t' := by
  intro M
  induction M with
  | zero => intro W gs sl t q hM; omega
  | succ M ih =>
    intro W gs sl t q hM hh h0 hL hP
    obtain ⟨hrun, hend⟩ := h
    have haw : ∀ g ∈ gs, awake g := by
      intro x hx
      obtain ⟨i, hi, rfl⟩ := Array.mem_iff_getElem.1 hx
      rcases Nat.eq_zero_or_pos i with rfl | hpos
      · have : gs[0] = g := by simpa [Array.getElem?_eq_getElem hi] using h0
        rw [this]; exact awake_of (.inl hrun)
      · exact awake_of ((hL.old i _ hpos (Array.getElem?_eq_getElem hi)).status.elim .inl fun x => .inr (.inr x))
    obtain ⟨i, x, d, sl', hi, hx, hst⟩ := crowd_pick (P := P) (w := W) (sl := sl) haw ⟨0, g, h0, hrun⟩
    rcases Nat.eq_zero_or_pos i with rfl | hpos
    · obtain rfl : x = g := by rw [h0] at hi; exact (Option.some.inj hi).symm
      obtain ⟨v, he, hp⟩ := hend (W.at d)
      have hrunT := runT_many_ended (P := P) (sl := sl') (i := 0) hi (show stepG P (0 == 0) x (W.at d) = _ from he)
      have hP' := hP.own x.frame.fn x.frame.place (es := #[]) (by simp)
      refine ⟨0, crowd gs W sl, _, _, _, by simp only [runNT, hst, hrunT], rfl, by rw [step, hst, hrunT], v, rfl, ⟨hh.at d, hp⟩, hP'.clean, hP'.over, ⟨fun y hy => ?_, rfl⟩, fun j y hy hj => ?_⟩
      · obtain ⟨j, hj⟩ := List.mem_iff_getElem?.1 hy
        rw [List.getElem?_drop] at hj
        exact ⟨_, (hL.old (1 + j) y (by omega) (by simpa [crowd] using hj)).leaves⟩
      · have hq := hL.old j y (by omega) hy
        refine ⟨q j, ?_⟩
        have e : (t ++ MemOp.ofEvents 0 x.frame.fn x.frame.place #[]).deaf j (t ++ MemOp.ofEvents 0 x.frame.fn x.frame.place #[]).size = Deaf t j :=
          Deaf_other t (g := j) (g' := 0) (by omega) _ (fun op hop => by obtain ⟨e, _, rfl⟩ := Go.Conc.mem_ofEvents hop; rfl)
        rw [e]
        exact hq.hears _
    · have hq := hL.old i x hpos hi
      have hi0 : (i == 0) = false := by simp; omega
      have hlt : i < gs.size := (Array.getElem?_eq_some_iff.1 hi).1
      cases hqi : q i with
      | zero => rw [hqi] at hq; rw [hq.1] at hx; cases hx
      | succ k =>
        rw [hqi] at hq
        rcases hq with ⟨hf, _⟩ | ⟨_, g', es, hm, hstp, hq'⟩
        · rw [hf] at hx; cases hx
        have hrunT := runT_crowd_go (P := P) (sl := sl') (i := i) hi (by rw [hi0]; exact hstp (W.at d))
        have hsz : ((gs.map (woken P x g' (W.at d))).setIfInBounds i g').size = gs.size := by simp
        have hsum : sumTo gs.size (upd q i k) + (k + 1) = sumTo gs.size q + k := by
          have := sumTo_upd q k id hlt
          simpa [hqi] using this
        obtain ⟨N, last, o, w', t', r1, r2, r3, r4⟩ := ih (W.at d) ((gs.map (woken P x g' (W.at d))).setIfInBounds i g') sl' (t ++ MemOp.ofEvents i x.frame.fn x.frame.place es) (upd q i k) (by rw [hsz]; omega) (hh.at d)
          (by
            have hne : i ≠ 0 := by omega
            rw [Array.getElem?_setIfInBounds_ne hne, Array.getElem?_map, h0]
            simp [woken_run hrun])
          ⟨fun j y hj hy => by
            by_cases hji : i = j
            · subst hji
              rw [Array.getElem?_setIfInBounds_self_of_lt (by simpa using hlt)] at hy
              obtain rfl := Option.some.inj hy
              rw [upd_same, Deaf_own]
              exact hq'
            · rw [Array.getElem?_setIfInBounds_ne hji, Array.getElem?_map] at hy
              obtain ⟨z, hz, rfl⟩ := Option.map_eq_some_iff.1 hy
              have hqj := hL.old j z hj hz
              rw [woken_quitsD hqj, upd_ne q k (Ne.symm hji), Deaf_other t hji _ (fun op hop => by obtain ⟨e, _, rfl⟩ := Go.Conc.mem_ofEvents hop; rfl)]
              exact hqj, fun j hj => by
            rw [Deaf_other t (g' := i) (by simp at hj; omega) _ (fun op hop => by obtain ⟨e, _, rfl⟩ := Go.Conc.mem_ofEvents hop; rfl)]
            exact hL.above j (by simpa using hj)⟩
          (hP.mute (by omega) _ _ hm)
        refine ⟨N + 1, last, o, w', t', ?_, ?_, r3, r4⟩
        · rw [runNT]; simp only [hst, hrunT]; exact r1
        · rw [runN]; simp only [step, hst, hrunT]; exact r2

/-- ████ FROM THE ENTRY TO THE RETURN. ████ -/
theorem good_of_bt [Thr] {Post : Value → World → Prop} {g : Goroutine} {w : World} (h : BT P (AtEnd0 P Post) g w) :
    ∃ N last o w' t', runNT P (N + 1) (solo g w) #[] = (.ended o w', t') ∧ runN P N (solo g w) = .next last ∧ step P last = .ended o w' ∧ Good P (fun v W' => ∃ S w', Hd S w' W' ∧ Post v w') last o w' t' := by
  have hh : Hd (fun _ => False) w w := ⟨⟨rfl, rfl, rfl, rfl, rfl, fun _ _ => rfl, fun _ h => h.elim⟩, fun _ h => h.elim⟩
  obtain ⟨N, gs', g', w', W', S', sl', t', q', hr, h0, hL, hP, hh', hE⟩ := h (fun _ => False) w #[g] none #[] (fun _ => 0) hh rfl (leavers_one P g) ⟨past_nil.clean, fun i a ha => by simp [touchAt, Trace.act?] at ha, past_nil.over, rfl⟩
  obtain ⟨N2, last, o, w2, t2, r1, r2, r3, r4⟩ := bts_end hE _ W' gs' sl' t' q' (Nat.lt_succ_self _) hh' h0 hL hP
  rw [solo_eq_crowd]
  refine ⟨N + N2, last, o, w2, t2, ?_, ?_, r3, ?_⟩
  · rw [Nat.add_assoc, runNT_add, hr]; exact r1
  · rw [runN_add, ← runNT_fst P N _ #[], hr]; exact r2
  · obtain ⟨v, e, hp, rest⟩ := r4
    exact ⟨v, e, ⟨S', w', hp⟩, rest⟩
end Go.Proofs.Ytpmmimcafkillaa.Br

set_option linter.unusedVariables false
set_option linter.unusedSimpArgs false
namespace Go.Proofs.Ytpmmimcafkillaa.Tr
open Go Go.Conc
open Go.ConcN (sumTo upd sumTo_upd upd_ne upd_same)
open Go.ConcR (DC0)
open Go.Proofs.Ytpmmimcafkillaa.Br (BT BTS Hd Pz Pst Shn Thr)
variable {P : Program}
def RT (P : Program) (Q : Goroutine → World → Prop) (S : Nat → Prop) (g : Goroutine) (W : World) : Prop :=
  ∀ (d : Nat) (gs : Array Goroutine) (sl : Option (Nat × Nat)) (t : Trace) (q : Nat → Nat), gs[0]? = some g → Leavers P t gs q → Pst S 0 t →
    ∃ (N : Nat) (gs' : Array Goroutine) (g' : Goroutine) (d' : Nat) (sl' : Option (Nat × Nat)) (t' : Trace) (q' : Nat → Nat),
      runNT P N (crowd gs (W.at d) sl) t = (.next (crowd gs' (W.at d') sl'), t') ∧ gs'[0]? = some g' ∧ Leavers P t' gs' q' ∧ Pst S 0 t' ∧ Q g' (W.at d')
section
variable {Q : Goroutine → World → Prop} {S : Nat → Prop} {g : Goroutine} {W : World}
theorem RT.done (h : ∀ d, Q g (W.at d)) : RT P Q S g W := fun d gs sl t q h0 hL hP => ⟨0, gs, g, d, sl, t, q, rfl, h0, hL, hP, h d⟩
theorem RT.step (hrun : g.status = .running) (h : ∀ d, ∃ g', stepG P true g (W.at d) = .go g' (W.at d) #[] ∧ RT P Q S g' W) : RT P Q S g W := by
  have key : ∀ (M : Nat) (d : Nat) (gs : Array Goroutine) (sl : Option (Nat × Nat)) (t : Trace) (q : Nat → Nat), sumTo gs.size q < M → gs[0]? = some g → Leavers P t gs q → Pst S 0 t →
      ∃ (N : Nat) (gs' : Array Goroutine) (g' : Goroutine) (d' : Nat) (sl' : Option (Nat × Nat)) (t' : Trace) (q' : Nat → Nat),
        runNT P N (crowd gs (W.at d) sl) t = (.next (crowd gs' (W.at d') sl'), t') ∧ gs'[0]? = some g' ∧ Leavers P t' gs' q' ∧ Pst S 0 t' ∧ Q g' (W.at d') := by
    intro M
    induction M with
    | zero => intro d gs sl t q hM; omega
    | succ M ih =>
      intro d gs sl t q hM h0 hL hP
      have haw : ∀ g ∈ gs, awake g := by
        intro x hx
        obtain ⟨i, hi, rfl⟩ := Array.mem_iff_getElem.1 hx
        rcases Nat.eq_zero_or_pos i with rfl | hpos
        · have : gs[0] = g := by simpa [Array.getElem?_eq_getElem hi] using h0
          rw [this]; exact awake_of (.inl hrun)
        · exact awake_of ((hL.old i _ hpos (Array.getElem?_eq_getElem hi)).status.elim .inl fun x => .inr (.inr x))
      obtain ⟨i, x, d', sl', hi, hx, hst⟩ := crowd_pick (P := P) (w := W.at d) (sl := sl) haw ⟨0, g, h0, hrun⟩
      rcases Nat.eq_zero_or_pos i with rfl | hpos
      · obtain rfl : x = g := by rw [h0] at hi; exact (Option.some.inj hi).symm
        obtain ⟨g', hgo, hB⟩ := h d'
        have hrunT := runT_crowd_go (P := P) (sl := sl') (i := 0) hi (show stepG P (0 == 0) x ((W.at d).at d') = .go g' (W.at d') #[] from hgo)
        have hlt : 0 < gs.size := (Array.getElem?_eq_some_iff.1 h0).1
        obtain ⟨N, gs', a', d2, sl2, t', q', hr, h0', hL', hP', hQ⟩ := hB d' ((gs.map (woken P x g' (W.at d'))).setIfInBounds 0 g') sl' (t ++ MemOp.ofEvents 0 x.frame.fn x.frame.place #[]) q (by simp [hlt])
          ⟨fun j y hj hy => by
            have hne : 0 ≠ j := by omega
            rw [Array.getElem?_setIfInBounds_ne hne, Array.getElem?_map] at hy
            obtain ⟨z, hz, rfl⟩ := Option.map_eq_some_iff.1 hy
            have hq := hL.old j z hj hz
            rw [woken_quitsD hq, Deaf_other t (by omega) _ (fun op hop => by obtain ⟨e, _, rfl⟩ := Go.Conc.mem_ofEvents hop; rfl)]
            exact hq, fun j hj => by
            rw [Deaf_other t (g' := 0) (by simp at hj; omega) _ (fun op hop => by obtain ⟨e, _, rfl⟩ := Go.Conc.mem_ofEvents hop; rfl)]
            exact hL.above j (by simpa using hj)⟩
          (by have := hP.own x.frame.fn x.frame.place (es := #[]) (by simp); simpa [deafBehind] using this)
        exact ⟨N + 1, gs', a', d2, sl2, t', q', by simp only [runNT, hst, hrunT]; exact hr, h0', hL', hP', hQ⟩
      · have hq := hL.old i x hpos hi
        have hi0 : (i == 0) = false := by simp; omega
        have hlt : i < gs.size := (Array.getElem?_eq_some_iff.1 hi).1
        cases hqi : q i with
        | zero => rw [hqi] at hq; rw [hq.1] at hx; cases hx
        | succ k =>
          rw [hqi] at hq
          rcases hq with ⟨hf, _⟩ | ⟨_, g', es, hm, hstp, hq'⟩
          · rw [hf] at hx; cases hx
          have hrunT := runT_crowd_go (P := P) (sl := sl') (i := i) hi (show stepG P (i == 0) x ((W.at d).at d') = _ by rw [hi0]; exact hstp (W.at d'))
          have hsz : ((gs.map (woken P x g' (W.at d'))).setIfInBounds i g').size = gs.size := by simp
          have hsum : sumTo gs.size (upd q i k) + (k + 1) = sumTo gs.size q + k := by
            have := sumTo_upd q k id hlt
            simpa [hqi] using this
          obtain ⟨N, gs', a', d2, sl2, t', q', hr, h0', hL', hP', hQ⟩ := ih d' ((gs.map (woken P x g' (W.at d'))).setIfInBounds i g') sl' (t ++ MemOp.ofEvents i x.frame.fn x.frame.place es) (upd q i k) (by rw [hsz]; omega)
            (by
              have hne : i ≠ 0 := by omega
              rw [Array.getElem?_setIfInBounds_ne hne, Array.getElem?_map, h0]
              simp [woken_run hrun])
            ⟨fun j y hj hy => by
              by_cases hji : i = j
              · subst hji
                rw [Array.getElem?_setIfInBounds_self_of_lt (by simpa using hlt)] at hy
                obtain rfl := Option.some.inj hy
                rw [upd_same, Deaf_own]
                exact hq'
              · rw [Array.getElem?_setIfInBounds_ne hji, Array.getElem?_map] at hy
                obtain ⟨z, hz, rfl⟩ := Option.map_eq_some_iff.1 hy
                have hqj := hL.old j z hj hz
                rw [woken_quitsD hqj, upd_ne q k (Ne.symm hji), Deaf_other t hji _ (fun op hop => by obtain ⟨e, _, rfl⟩ := Go.Conc.mem_ofEvents hop; rfl)]
                exact hqj, fun j hj => by
              rw [Deaf_other t (g' := i) (by simp at hj; omega) _ (fun op hop => by obtain ⟨e, _, rfl⟩ := Go.Conc.mem_ofEvents hop; rfl)]
              exact hL.above j (by simpa using hj)⟩
            (hP.mute (by omega) _ _ hm)
          exact ⟨N + 1, gs', a', d2, sl2, t', q', by simp only [runNT, hst, hrunT]; exact hr, h0', hL', hP', hQ⟩
  exact fun d gs sl t q h0 hL hP => key _ d gs sl t q (Nat.lt_succ_self _) h0 hL hP
theorem RT.goes : ∀ (m : Nat) (g : Goroutine) (d0 : Nat), Goes P true AtRel DC0 Q m g (W.at d0) → RT P Q S g W := by
  intro m
  induction m with
  | zero => exact fun g d0 h => RT.done fun d => h (W.at d) ⟨d, rfl⟩
  | succ m ih =>
    intro g d0 h
    rcases h with h | ⟨hr, h⟩
    · exact RT.done fun d => h (W.at d) ⟨d, rfl⟩
    · refine RT.step hr fun d => ?_
      have hd := h (W.at d) ⟨d, rfl⟩
      revert hd
      cases stepG P true g (W.at d) <;> simp only [GStep.goes, false_imp_iff]
      rintro ⟨⟨rfl, rfl⟩, k⟩
      exact ⟨_, rfl, ih _ d k⟩
end
section
open Classical
def emp : Obj → Obj
  | .cells _ e _ => .cells #[] e (0, 0)
  | o => o
/-- W seen with the blocks of S emptied. -/
noncomputable def vw (S : Nat → Prop) (W : World) : World := { W with heap := W.heap.mapIdx fun i o => if S i then emp o else o }
theorem vw_out {S : Nat → Prop} {W : World} {b : Nat} (h : ¬ S b) : (vw S W).heap[b]? = W.heap[b]? := by
  simp only [vw, Array.getElem?_mapIdx, h, if_false]
  cases W.heap[b]? <;> rfl
theorem vw_in {S : Nat → Prop} {W : World} {b : Nat} {c : Array Value} {e : TypeId} {f : Nat × Nat} (h : S b) (hw : W.heap[b]? = some (.cells c e f)) : (vw S W).heap[b]? = some (.cells #[] e (0, 0)) := by
  simp only [vw, Array.getElem?_mapIdx, h, if_true, hw]
  rfl
theorem vw_hd [Thr] {S : Nat → Prop} {W : World} (h : ∀ b, S b → ∃ c e, W.heap[b]? = some (.cells c e (0, 0))) (ht : ∀ b, S b → Thr.N ≤ b) : Hd S (vw S W) W := by
  refine ⟨⟨rfl, rfl, rfl, rfl, by simp [vw, World.at], fun b hb => (vw_out hb).symm, fun b hb => ?_⟩, ht⟩
  obtain ⟨c, e, hw⟩ := h b hb
  exact ⟨c, e, vw_in hb hw, hw⟩
theorem vw_size (S : Nat → Prop) (W : World) : (vw S W).heap.size = W.heap.size := by simp [vw]
end
end Go.Proofs.Ytpmmimcafkillaa.Tr
