/-
  Beside goroutines that only leave: calls by lone contracts, pieces of code by lone walks, single steps, the return. It names no program; no conditions.
  From the go statement that starts the first worker to the starter's caller that goes on, beside elder ones that leave: the workers are among them, and the group's cells are not to be touched any more. It names no program.
-/
import Derived.Test.YtpdnceeniokemaaZIe
import Derived.Conc.CompanyWords
import Derived.Test.YtpdnceeniokemaaZEb
set_option linter.unusedVariables false
set_option linter.unusedSimpArgs false
namespace Go.Proofs.Ytpdnceeniokemaa.Br
open Go Go.Conc
open Go.ConcN (sumTo upd sumTo_upd upd_ne upd_same)
variable {P : Program} {Z : Sig} {Q : Goroutine → World → Prop}

/-- A frame hands its value back. -/
theorem BT.leave [Thr] {fr c : Frame} {cs : List Frame} {w : World} {v : Value} (h : fr.leaving P w (.returned v)) (hn : BT P Q (G (c.finish v) cs) w) : BT P Q (G fr (c :: cs)) w := by
  intro S
  refine BTS.step rfl fun W hh => ?_
  obtain ⟨hm, hd, hk, fn, hf, hr⟩ := leaving_rt h w.tape W.drawn
  rw [← Sem.runT_fst P _ _ #[]] at hr
  have hl := (run_left (S := S) (ns_results (P := P) fn fr.tmps) (rt w.tape W.drawn w) #[] (fun b hb => (hh.pz hb).em) (by simp)).evs
  have hz := run_evs P (ns_results (P := P) fn fr.tmps) (rt w.tape W.drawn w) #[] (by simp)
  have hs := (sm_results (P := P) fn fr.tmps).2 S (rt w.tape W.drawn w) W #[] hh.toHid
  cases hx : (results fn fr.tmps).runT P (rt w.tape W.drawn w) #[] with
  | mk r es =>
    rw [hx] at hr hl hz hs
    simp only at hr
    subst hr
    rcases hs with hl' | ⟨W', e, hh'⟩
    · exact absurd hl' hh.not_lost
    · refine ⟨G (c.finish v) cs, w, W', seen P fr.fn es, ?_, ⟨⟨hh'.tape, rfl, hh'.os, hh'.output, hh'.size, hh'.out, hh'.inn⟩, hh.thr⟩, fun e he => evN_of (hz e (mem_seen he)) (hl e (mem_seen he)), ?_⟩
      · simp only [G, stepG, unwind, doReturn, hm, hd, hk, hf, e, GStep.after, Array.append_empty]
      · rw [still_of fun e he => hz e (mem_seen he)]
        exact hn S

/-- ████ A CALL BY A LONE CONTRACT. ████ -/
theorem BT.call [Thr] (hF : SetOk P Z) {f : FuncId} {args : Array Value} {w : World} (hf : Z.F f = true) (hka : ∀ s ∈ Z.K f, ∀ v, args[s]? = some v → Fv Z v) (hg : GC P w) {R : Value → World → Prop} (hR : ∀ v w T d, R v w → R v (rt T d w))
    (hC : ∀ T d, Calls P f args (rt T d w) fun e w' => ∃ v, e = .returned v ∧ R v w') (hE : ∀ v w', R v w' → ∀ b, Pz w b → Pz w' b) {c : Frame} {cs : List Frame}
    (hn : ∀ v w', R v w' → BT P Q (G (c.finish v) cs) w') : BT P Q (G (Frame.enter P f args .normal) (c :: cs)) w := by
  refine BT.trans ((BT.calls hF hf hka hg hR hC hE (c :: cs)).mono ?_)
  rintro g' w' ⟨fr, rfl, _, v, hl, hr⟩
  exact BT.leave hl (hn v w' hr)

theorem okF_at {f : FuncId} {fn : Func} {a : Act} {todo : List Item} (hfn : P.funcs[f]? = some fn) (hK : Z.K f = []) (hd : a.defers = []) (ht : todo.all (okIt (okOp Z P [])) = true) : OkF P Z ((base f).at a todo) :=
  ⟨hd, rfl, rfl, ⟨fn, hfn⟩, by show todo.all (okIt (okOp Z P (Z.K f))) = true; rw [hK]; exact ht, fun s hs => by rw [show ((base f).at a todo).fn = f from rfl, hK] at hs; cases hs⟩

/-- ████ A PIECE OF CODE BY A LONE WALK; more may follow. ████ -/
theorem BT.code [Thr] (hF : SetOk P Z) {f : FuncId} {fn : Func} {c : Code} {a : Act} {w : World} (hfn : P.funcs[f]? = some fn) (hK : Z.K f = []) (hc : okC (okOp Z P []) c = true) (hd : a.defers = []) (hg : GC P w)
    {R : Act → World → Prop} (hR : ∀ a w T d, R a w → R a (rt T d w)) (hC : ∀ T d, c.wp P (fun e a' w' => e = .normal ∧ R a' w') a (rt T d w)) (hE : ∀ a' w', R a' w' → ∀ b, Pz w b → Pz w' b) {k : List Item} {cs : List Frame}
    (hn : ∀ a' w', R a' w' → BT P Q (G ((base f).at a' k) cs) w') : BT P Q (G ((base f).at a (.code c :: k)) cs) w := by
  have hW : Wins P Z (fun fr w' => ∃ a', fr = (base f).at a' [] ∧ R a' w') eCode ((base f).at a [.code c]) [] w := by
    refine wins_of_lone (fun fr w T d ⟨a', h1, h2⟩ => ⟨a', h1, hR _ _ _ _ h2⟩) fun T d => ?_
    obtain ⟨e, a', w', ⟨rfl, hr⟩, n, hs⟩ := hC T d (base f) [] [c0 P]
    exact reach_of_run hF (fin := (base f).at a' []) (wf := w') (by rfl) ⟨a', rfl, hr⟩ (over_code rfl) n _ [] _ (okF_at hfn hK hd (by simp [okIt, hc])) (fun f hf => by cases hf) hg hs
  intro S
  refine BTS.trans ?_
  intro W gs sl t q hh h0 hL hP
  have hw := wins_bts (S := S) hW (fun b hb => hh.lt hb) (fun fr w' ⟨a', _, hr⟩ b hb => hE a' w' hr b (hh.pz hb)) cs k (.inr fun fr h1 h2 h3 => by rw [eCode, h1, h3] at h2; cases h2)
  refine (hw.mono (Q' := BT P Q) fun g w ⟨fr, h1, _, a', h2, h3⟩ => ?_) W gs sl t q hh h0 hL hP
  rw [h1, h2]
  exact hn a' w h3

/-- ████ THE REST OF A BODY BY A LONE WALK. ████ -/
theorem BT.body [Thr] (hF : SetOk P Z) {f : FuncId} {fn : Func} {c : Code} {a : Act} {w : World} (hfn : P.funcs[f]? = some fn) (hK : Z.K f = []) (hc : okC (okOp Z P []) c = true) (hd : a.defers = []) (hg : GC P w)
    {R : Value → World → Prop} (hR : ∀ v w T d, R v w → R v (rt T d w)) (hC : ∀ T d, c.wp P (bodyPost P fn fun e w' => ∃ v, e = .returned v ∧ R v w') a (rt T d w)) (hE : ∀ v w', R v w' → ∀ b, Pz w b → Pz w' b) {c' : Frame} {cs : List Frame}
    (hn : ∀ v w', R v w' → BT P Q (G (c'.finish v) cs) w') : BT P Q (G ((base f).at a [.code c]) (c' :: cs)) w := by
  have hW : Wins P Z (QR P f R) eCall ((base f).at a [.code c]) [] w := by
    refine wins_of_lone (fun fr w T d ⟨h1, v, h2, h3⟩ => ⟨h1, v, leaving_rt h2 T d, hR _ _ _ _ h3⟩) fun T d => ?_
    obtain ⟨e, a', w', hq, hs⟩ := hC T d (base f) [] [c0 P]
    have fin : ∀ (fr : Frame), Steps P (lone ((base f).at a [.code c]) [c0 P] (rt T d w)) (lone fr [c0 P] w') → fr.mode = .returning → fr.fn = f → ∀ v, fr.leaving P w' (.returned v) → R v w' → ∃ n, ReachN P Z (QR P f R) eCall n ((base f).at a [.code c]) [] (rt T d w) := by
      rintro fr ⟨n, hs⟩ hm hff v hl hr
      exact reach_of_run hF (fin := fr) (wf := w') (by rw [eCall, hm]) ⟨hff, v, hl, hr⟩ over_call n _ [] _ (okF_at hfn hK hd (by simp [okIt, hc])) (fun f hf => by cases hf) hg hs
    cases e with
    | normal =>
      obtain ⟨hd', v, hr, _, hv, hR'⟩ := hq
      cases hv
      exact fin _ (Steps.trans hs (.one step_end)) rfl rfl v ⟨rfl, hd', rfl, fn, hfn, hr⟩ hR'
    | ret =>
      obtain ⟨hd', v, hr, _, hv, hR'⟩ := hq
      cases hv
      obtain ⟨todo, hs⟩ := hs
      exact fin _ hs rfl rfl v ⟨rfl, hd', rfl, fn, hfn, hr⟩ hR'
    | panic ch => obtain ⟨_, _, hv, _⟩ := hq; cases hv
    | exit id => exact hq.elim
    | goto l => exact hq.elim
    | outgrown => obtain ⟨_, hv, _⟩ := hq; cases hv
  intro S
  refine BTS.trans ?_
  intro W gs sl t q hh h0 hL hP
  have hw := wins_bts (S := S) hW (fun b hb => hh.lt hb) (fun fr w' ⟨_, v, _, hr⟩ b hb => hE v w' hr b (hh.pz hb)) (c' :: cs) [] (.inl rfl)
  rw [bot_nil] at hw
  refine (hw.mono (Q' := BT P Q) fun g w ⟨fr, h1, _, _, v, h2, h3⟩ => ?_) W gs sl t q hh h0 hL hP
  rw [h1, ex_nil]
  exact BT.leave h2 (hn v w h3)

/-! single steps -/
theorem bt_ctl [Thr] {g g' : Goroutine} {w : World} (hrun : g.status = .running) (hs : ∀ v, stepG P true g v = .go g' v #[]) (h : BT P Q g' w) : BT P Q g w := fun S =>
  BTS.step hrun fun W hh => ⟨g', w, W, #[], hs W, hh, by simp, h S⟩
/-- one operation -/
theorem bt_cons [Thr] (hB : Bodied P Z.F) {b : Frame} {a : Act} {k : List Item} {cs : List Frame} {w : World} {ops : Array Oper} {i : Nat} {rest : List Nat} {o : Oper} (ho : ops[i]? = some o) (hw : Region.wanted o (yielded ops a.tmps) = true) (hok : okOp Z P [] o = true) (hk : b.kind ≠ .early)
    (h : ∀ d, ∀ K : Act → World → Prop, (∀ a' w', (∀ b, Pz w b → Pz w' b) → BT P Q (G (b.at a' (.inRegion ops rest :: k)) cs) w' → K a' w') → uponK o a K ((execOp a.eval o).run P (w.at d))) : BT P Q (G (b.at a (.inRegion ops (i :: rest) :: k)) cs) w := by
  intro S
  refine BTS.step rfl fun W hh => ?_
  have hex := op_execOp hB (K := []) (ρ := a.eval) (fun f => rfl) (fun t ht => by cases ht) hok
  have hz := run_evs P hex.2.1 (w.at W.drawn) #[] (by simp)
  have hl := (run_left (S := S) hex.2.1 (w.at W.drawn) #[] (fun b hb => (hh.pz hb).em) (by simp)).evs
  have hs := hex.2.2 S (w.at W.drawn) W #[] hh.toHid
  have hu := h W.drawn (fun a' w' => (∀ b, Pz w b → Pz w' b) ∧ BT P Q (G (b.at a' (.inRegion ops rest :: k)) cs) w') fun a' w' h1 h2 => ⟨h1, h2⟩
  rw [← Sem.runT_fst P _ _ #[]] at hu
  cases hx : (execOp a.eval o).runT P (w.at W.drawn) #[] with
  | mk r es =>
    rw [hx] at hz hl hs hu
    have hev : ∀ e ∈ seen P b.fn es, EvN S e := fun e he => evN_of (hz e (mem_seen he)) (hl e (mem_seen he))
    have hst : ∀ e ∈ seen P b.fn es, EvZ e := fun e he => hz e (mem_seen he)
    have nl : ∀ w', (∀ b, Pz w b → Pz w' b) → ¬ Lost S w' := fun w' hp ⟨x, h1, _, h3⟩ => h3 (hp x (hh.pz h1))
    have real : ∀ (W' : World) (n : Next), (execOp a.eval o).runT P W #[] = (.ok n W', es) → (execOp a.eval o).run P W = .ok n W' ∧ listed P b.fn a o W = seen P b.fn es := fun W' n e => by
      have h1 := Sem.runT_fst P (execOp a.eval o) W #[]
      rw [e] at h1
      refine ⟨h1.symm, ?_⟩
      unfold listed
      rw [Sem.runT_eq] at e
      rw [(Prod.mk.inj e).2]
    cases r with
    | ok n w' =>
      cases n with
      | value v =>
        obtain ⟨hp, hb⟩ : (∀ b, Pz w b → Pz w' b) ∧ BT P Q (G (b.at (a.put o.dst v) (.inRegion ops rest :: k)) cs) w' := hu
        rcases hs with h1 | ⟨W', e, hh'⟩
        · exact absurd h1 (nl w' hp)
        · obtain ⟨r1, r2⟩ := real W' _ e
          refine ⟨_, w', W', _, stepG_value ho hw hk r1, Hd.of hh' hh.thr, ?_, ?_⟩
          · rw [r2]; exact hev
          · rw [r2, still_of hst]; exact hb S
      | skip =>
        obtain ⟨hp, hb⟩ : (∀ b, Pz w b → Pz w' b) ∧ BT P Q (G (b.at (a.put o.dst undef) (.inRegion ops rest :: k)) cs) w' := hu
        rcases hs with h1 | ⟨W', e, hh'⟩
        · exact absurd h1 (nl w' hp)
        · obtain ⟨r1, r2⟩ := real W' _ e
          refine ⟨_, w', W', _, stepG_none ho hw hk r1, Hd.of hh' hh.thr, ?_, ?_⟩
          · rw [r2]; exact hev
          · rw [r2, still_of hst]; exact hb S
      | _ => exact hu.elim
    | halt x w' => exact hu.elim
theorem bt_skip [Thr] {b : Frame} {a : Act} {k : List Item} {cs : List Frame} {w : World} {ops : Array Oper} {i : Nat} {rest : List Nat} {o : Oper} (ho : ops[i]? = some o) (hw : Region.wanted o (yielded ops a.tmps) = false) (h : BT P Q (G (b.at (a.put o.dst undef) (.inRegion ops rest :: k)) cs) w) : BT P Q (G (b.at a (.inRegion ops (i :: rest) :: k)) cs) w :=
  bt_ctl rfl (fun _ => stepG_unwanted ho hw) h
theorem evcall {o : Oper} {a : Act} {w : World} {fn f : FuncId} {fc : Func} {args : Array Operand} {ats : Array TypeId} (hop : o.op = .call { callee := .value (.func f), args, argTypes := ats })
    (hf : P.funcs[f]? = some fc) (hname : (fc.name == "runtime.NumGoroutine") = false) (hb : fc.body.isNone = false) : listed P fn a o w = #[] := by
  unfold listed
  rw [events_call_body hop hf hname hb]
  rfl
theorem bt_enter [Thr] {b : Frame} {a : Act} {k : List Item} {cs : List Frame} {w : World} {ops : Array Oper} {i : Nat} {rest : List Nat} {o : Oper} {f : FuncId} {fn : Func} {args : Array Operand} {vs : Array Value} {ats : Array TypeId}
    (hfn : P.funcs[f]? = some fn) (hname : (fn.name == "runtime.NumGoroutine") = false) (hb : fn.body.isNone = false)
    (ho : ops[i]? = some o) (hw : Region.wanted o (yielded ops a.tmps) = true) (hop : o.op = .call { callee := .value (.func f), args, argTypes := ats }) (hk : b.kind ≠ .early) (hargs : args.map a.eval = vs)
    (h : BT P Q (G (Frame.enter P f vs .normal) (b.at a (.inRegion ops (i :: rest) :: k) :: cs)) w) : BT P Q (G (b.at a (.inRegion ops (i :: rest) :: k)) cs) w := by
  subst hargs
  refine bt_ctl rfl (fun v => ?_) h
  rw [stepG_enter ho hw hk (run_call_body hop hfn hname hb), evcall hop hfn hname hb]
theorem bt_call [Thr] (hF : SetOk P Z) {b : Frame} {a : Act} {k : List Item} {cs : List Frame} {w : World} {ops : Array Oper} {i : Nat} {rest : List Nat} {o : Oper} {f : FuncId} {fn : Func} {args : Array Operand} {vs : Array Value} {ats : Array TypeId} {R : Value → World → Prop}
    (hC : ∀ T d, Calls P f vs (rt T d w) fun e w' => ∃ v, e = .returned v ∧ R v w') (hg : GC P w) (hR : ∀ v w T d, R v w → R v (rt T d w)) (hE : ∀ v w', R v w' → ∀ b, Pz w b → Pz w' b) (hf : Z.F f = true) (hka : ∀ s ∈ Z.K f, ∀ v, vs[s]? = some v → Fv Z v)
    (hfn : P.funcs[f]? = some fn) (hname : (fn.name == "runtime.NumGoroutine") = false) (hb : fn.body.isNone = false)
    (ho : ops[i]? = some o) (hw : Region.wanted o (yielded ops a.tmps) = true) (hop : o.op = .call { callee := .value (.func f), args, argTypes := ats }) (hk : b.kind ≠ .early) (hargs : args.map a.eval = vs)
    (hn : ∀ v w', R v w' → BT P Q (G (b.at (a.put o.dst v) (.inRegion ops rest :: k)) cs) w') : BT P Q (G (b.at a (.inRegion ops (i :: rest) :: k)) cs) w := by
  refine bt_enter hfn hname hb ho hw hop hk hargs (BT.call hF hf hka hg hR hC hE fun v w' hr => ?_)
  have hfin : (b.at a (.inRegion ops (i :: rest) :: k)).finish v = b.at (a.put o.dst v) (.inRegion ops rest :: k) := by rw [Frame.finish_at, ho]; rfl
  rw [hfin]
  exact hn v w' hr
/-- A contract beside leavers. -/
def CallsB [Thr] (P : Program) (f : FuncId) (args : Array Value) (w : World) (Post : Value → World → Prop) : Prop :=
  ∀ (c : Frame) (cs : List Frame) (Q : Goroutine → World → Prop), (∀ v w', Post v w' → BT P Q (G (c.finish v) cs) w') → BT P Q (G (Frame.enter P f args .normal) (c :: cs)) w
theorem bt_callB [Thr] {b : Frame} {a : Act} {k : List Item} {cs : List Frame} {w : World} {ops : Array Oper} {i : Nat} {rest : List Nat} {o : Oper} {f : FuncId} {fn : Func} {args : Array Operand} {vs : Array Value} {ats : Array TypeId} {R : Value → World → Prop}
    (hC : CallsB P f vs w R) (hfn : P.funcs[f]? = some fn) (hname : (fn.name == "runtime.NumGoroutine") = false) (hb : fn.body.isNone = false)
    (ho : ops[i]? = some o) (hw : Region.wanted o (yielded ops a.tmps) = true) (hop : o.op = .call { callee := .value (.func f), args, argTypes := ats }) (hk : b.kind ≠ .early) (hargs : args.map a.eval = vs)
    (hn : ∀ v w', R v w' → BT P Q (G (b.at (a.put o.dst v) (.inRegion ops rest :: k)) cs) w') : BT P Q (G (b.at a (.inRegion ops (i :: rest) :: k)) cs) w := by
  refine bt_enter hfn hname hb ho hw hop hk hargs (hC _ cs Q fun v w' hr => ?_)
  have hfin : (b.at a (.inRegion ops (i :: rest) :: k)).finish v = b.at (a.put o.dst v) (.inRegion ops rest :: k) := by rw [Frame.finish_at, ho]; rfl
  rw [hfin]
  exact hn v w' hr

/-! the return -/
/-- Goroutine 0 stands at the step that ends the run. -/
def AtEnd0 (P : Program) (Post : Value → World → Prop) (g : Goroutine) (w : World) : Prop :=
  g.status = .running ∧ ∀ W, ∃ v, stepG P true g W = .ended (.done v) W #[] ∧ Post v w
theorem bts_end [Thr] {Post : Value → World → Prop} {g : Goroutine} {w : World} (h : AtEnd0 P Post g w) {S : Nat → Prop} : ∀ (M : Nat) (W : World) (gs : Array Goroutine) (sl : Option (Nat × Nat)) (t : Trace) (q : Nat → Nat), sumTo gs.size q < M → Hd S w W → gs[0]? = some g → Leavers P t gs q → Pst S 0 t →
    ∃ N last o w' t', runNT P (N + 1) (crowd gs W sl) t = (.ended o w', t') ∧ runN P N (crowd gs W sl) = .next last ∧ step P last = .ended o w' ∧ Good P (fun v W' => Hd S w W' ∧ Post v w) last o w' t' := by
  intro M
  induction M with
  | zero => intro W gs sl t q hM; omega
  | succ M ih =>
    intro W gs sl t q hM hh h0 hL hP
    obtain ⟨hrun, hend⟩ := h
    have haw : ∀ g ∈ gs, awake g := by
      intro x hx
      obtain ⟨i, hi, rfl⟩ := Array.mem_iff_getElem.1 hx
      rcases Nat.eq_zero_or_pos i with rfl | hpos
      · have : gs[0] = g := by simpa [Array.getElem?_eq_getElem hi] using h0
        rw [this]; exact awake_of (.inl hrun)
      · exact awake_of ((hL.old i _ hpos (Array.getElem?_eq_getElem hi)).status.elim .inl fun x => .inr (.inr x))
    obtain ⟨i, x, d, sl', hi, hx, hst⟩ := crowd_pick (P := P) (w := W) (sl := sl) haw ⟨0, g, h0, hrun⟩
    rcases Nat.eq_zero_or_pos i with rfl | hpos
    · obtain rfl : x = g := by rw [h0] at hi; exact (Option.some.inj hi).symm
      obtain ⟨v, he, hp⟩ := hend (W.at d)
      have hrunT := runT_many_ended (P := P) (sl := sl') (i := 0) hi (show stepG P (0 == 0) x (W.at d) = _ from he)
      have hP' := hP.own x.frame.fn x.frame.place (es := #[]) (by simp)
      refine ⟨0, crowd gs W sl, _, _, _, by simp only [runNT, hst, hrunT], rfl, by rw [step, hst, hrunT], v, rfl, ⟨hh.at d, hp⟩, hP'.clean, hP'.over, ⟨fun y hy => ?_, rfl⟩, fun j y hy hj => ?_⟩
      · obtain ⟨j, hj⟩ := List.mem_iff_getElem?.1 hy
        rw [List.getElem?_drop] at hj
        exact ⟨_, (hL.old (1 + j) y (by omega) (by simpa [crowd] using hj)).leaves⟩
      · have hq := hL.old j y (by omega) hy
        refine ⟨q j, ?_⟩
        have e : (t ++ MemOp.ofEvents 0 x.frame.fn x.frame.place #[]).deaf j (t ++ MemOp.ofEvents 0 x.frame.fn x.frame.place #[]).size = Deaf t j :=
          Deaf_other t (g := j) (g' := 0) (by omega) _ (fun op hop => by obtain ⟨e, _, rfl⟩ := Go.Conc.mem_ofEvents hop; rfl)
        rw [e]
        exact hq.hears _
    · have hq := hL.old i x hpos hi
      have hi0 : (i == 0) = false := by simp; omega
      have hlt : i < gs.size := (Array.getElem?_eq_some_iff.1 hi).1
      cases hqi : q i with
      | zero => rw [hqi] at hq; rw [hq.1] at hx; cases hx
      | succ k =>
        rw [hqi] at hq
        rcases hq with ⟨hf, _⟩ | ⟨_, g', es, hm, hstp, hq'⟩
        · rw [hf] at hx; cases hx
        have hrunT := runT_crowd_go (P := P) (sl := sl') (i := i) hi (by rw [hi0]; exact hstp (W.at d))
        have hsz : ((gs.map (woken P x g' (W.at d))).setIfInBounds i g').size = gs.size := by simp
        have hsum : sumTo gs.size (upd q i k) + (k + 1) = sumTo gs.size q + k := by
          have := sumTo_upd q k id hlt
          simpa [hqi] using this
        obtain ⟨N, last, o, w', t', r1, r2, r3, r4⟩ := ih (W.at d) ((gs.map (woken P x g' (W.at d))).setIfInBounds i g') sl' (t ++ MemOp.ofEvents i x.frame.fn x.frame.place es) (upd q i k) (by rw [hsz]; omega) (hh.at d)
          (by
            have hne : i ≠ 0 := by omega
            rw [Array.getElem?_setIfInBounds_ne hne, Array.getElem?_map, h0]
            simp [woken_run hrun])
          ⟨fun j y hj hy => by
            by_cases hji : i = j
            · subst hji
              rw [Array.getElem?_setIfInBounds_self_of_lt (by simpa using hlt)] at hy
              obtain rfl := Option.some.inj hy
              rw [upd_same, Deaf_own]
              exact hq'
            · rw [Array.getElem?_setIfInBounds_ne hji, Array.getElem?_map] at hy
              obtain ⟨z, hz, rfl⟩ := Option.map_eq_some_iff.1 hy
              have hqj := hL.old j z hj hz
              rw [woken_quitsD hqj, upd_ne q k (Ne.symm hji), Deaf_other t hji _ (fun op hop => by obtain ⟨e, _, rfl⟩ := Go.Conc.mem_ofEvents hop; rfl)]
              exact hqj, fun j hj => by
            rw [Deaf_other t (g' := i) (by simp at hj; omega) _ (fun op hop => by obtain ⟨e, _, rfl⟩ := Go.Conc.mem_ofEvents hop; rfl)]
            exact hL.above j (by simpa using hj)⟩
          (hP.mute (by omega) _ _ hm)
        refine ⟨N + 1, last, o, w', t', ?_, ?_, r3, r4⟩
        · rw [runNT]; simp only [hst, hrunT]; exact r1
        · rw [runN]; simp only [step, hst, hrunT]; exact r2

/-- ████ FROM THE ENTRY TO THE RETURN. ████ -/
theorem good_of_bt [Thr] {Post : Value → World → Prop} {g : Goroutine} {w : World} (h : BT P (AtEnd0 P Post) g w) :
    ∃ N last o w' t', runNT P (N + 1) (solo g w) #[] = (.ended o w', t') ∧ runN P N (solo g w) = .next last ∧ step P last = .ended o w' ∧ Good P (fun v W' => ∃ S w', Hd S w' W' ∧ Post v w') last o w' t' := by
  have hh : Hd (fun _ => False) w w := ⟨⟨rfl, rfl, rfl, rfl, rfl, fun _ _ => rfl, fun _ h => h.elim⟩, fun _ h => h.elim⟩
  obtain ⟨N, gs', g', w', W', S', sl', t', q', hr, h0, hL, hP, hh', hE⟩ := h (fun _ => False) w #[g] none #[] (fun _ => 0) hh rfl (leavers_one P g) ⟨past_nil.clean, fun i a ha => by simp [touchAt, Trace.act?] at ha, past_nil.over, rfl⟩
  obtain ⟨N2, last, o, w2, t2, r1, r2, r3, r4⟩ := bts_end hE _ W' gs' sl' t' q' (Nat.lt_succ_self _) hh' h0 hL hP
  rw [solo_eq_crowd]
  refine ⟨N + N2, last, o, w2, t2, ?_, ?_, r3, ?_⟩
  · rw [Nat.add_assoc, runNT_add, hr]; exact r1
  · rw [runN_add, ← runNT_fst P N _ #[], hr]; exact r2
  · obtain ⟨v, e, hp, rest⟩ := r4
    exact ⟨v, e, ⟨S', w', hp⟩, rest⟩
end Go.Proofs.Ytpdnceeniokemaa.Br

set_option linter.unusedVariables false
set_option linter.unusedSimpArgs false
set_option linter.unusedSectionVars false
namespace Go.Proofs.Ytpdnceeniokemaa.Ct
open Go Go.Conc Go.ConcN
open Go.ConcR (KK wgBlock WgAt stA smA rd wr mk Payload Aside2)
open Go.Proofs.Ytpdnceeniokemaa.Lk (Lkd Wd Lnk nr)
open Go.Proofs.Ytpdnceeniokemaa.Br (Pst Shn low_bound pst_of)
variable [Payload]
variable {P : Program} {F : FuncId → Prop} {ty : TypeId} {Wg C n : Nat} {Own Rd Own1 Rd1 : Nat → Loc → Prop} {Lw : Nat → Nat} {val : Nat → Value} {vals : List Value} {A0 A1 : Goroutine → World → Prop} {Q0 Q1 : Value → World → Prop}

/-- the ghost's start -/
theorem inv_start {AnchW : Goroutine → World → Prop} {Post : Value → World → Prop} {a : Goroutine} {w : World}
    (hsp : Spawns P ty Wg C n Own Rd Lw val (Fin P ty Wg C n Own Rd Lw AnchW) n a w) (hwg : WgAt ty Wg w 0 0) (hpay : PayAt C n w) :
    ∃ μ, Inv P ty Wg C n Own Rd Lw val vals AnchW Post μ (crowd #[a] w none) #[] := by
  have hct : CT (ShN Wg) Own Rd #[] 0 := CT.lone (by simp) (by simp)
  have hcom : Com P ty Wg C n Own Rd Lw val 0 #[a] w #[] (fun _ => ⟨0, 0, 0⟩) 0 :=
    ⟨rfl, fun i hi => by omega, hct, fun i hi => by simp [Trace.act?] at hi, rfl, fun i hi => by omega, fun i hi => by omega, fun i hi => by omega, hpay⟩
  have hmode : ∀ tag, isOpen tag → pend tag = 0 → (∀ vs, tag ≠ .w2 vs) → Go.ConcN.Mode 0 (fun _ => (⟨0, 0, 0⟩ : WD)) tag 0 0 := fun tag h1 h2 h3 => by
    have := Go.ConcN.Mode.opn (j := 0) (D := fun _ => (⟨0, 0, 0⟩ : WD)) h1 (fun i hi => by omega) (fun vs e => absurd e (h3 vs))
    simpa [Vc, sumTo, h2] using this
  cases n with
  | zero =>
    obtain ⟨m, hk⟩ := hsp
    exact ⟨_, #[a], w, none, 0, _, .kd, m, 0, a, 0, 0, rfl, rfl, .kd hk, hcom, hwg, hmode .kd trivial rfl (by simp), by simp, rfl⟩
  | succ r =>
    obtain ⟨m, hk⟩ := hsp
    have hc := CSit.skd (vals := vals) (Post := Post) (Nat.lt_succ_self r) hk
    rw [Nat.sub_self] at hc
    exact ⟨_, #[a], w, none, 0, _, .sp r 5, m, 0, a, 0, 0, rfl, rfl, hc, hcom, hwg, hmode (.sp r 5) trivial rfl (by simp), by simp, rfl⟩

/-- ████ THE PHASE ████ -/
theorem phase (hF : SetOk P F) (hP : Late P) {S : Nat → Prop} (A : Apart (ShN Wg) Own Rd) (A' : Apart (ShN Wg) Own1 Rd1) (hX : Fam (Shn S) Wg Own Rd Own1 Rd1) {Sk : Goroutine → World → Prop} {RdX : Nat → Loc → Prop} (hSk : SkOk P Wg Own1 RdX Sk) (Ge : Geo Wg C Lw) (hn : n < 2147483648)
    (h0 : Ask P ty Wg C n Own Rd Lw vals A0 Q0) (h1 : Ask P ty Wg C n Own1 Rd1 Lw vals A1 Q1) (hl : vals.length = n) (hv : ∀ i, i < n → vals[i]? = some (val i))
    {fr c : Frame} {rest : List Frame} {w : World} (hfr : OkF P F fr) (hgc : GC P w) (hwg : WgAt ty Wg w 0 0) (hpay : PayAt C n w)
    (hs0 : Spawns P ty Wg C n Own Rd Lw val (Fin P ty Wg C n Own Rd Lw A0) n (G fr []) w) (hs1 : Spawns P ty Wg C n Own1 Rd1 Lw val (Fin P ty Wg C n Own1 Rd1 Lw A1) n (G fr [s1 P, s2 P]) w) (hk0 : Sk (G fr []) w)
    {R : Array Goroutine} {sl : Option (Nat × Nat)} {p : Trace} {q : Nat → Nat} (hz : R[0]? = some (G fr (c :: rest))) (hL : Leavers P p R q) (hPs : Pst S 0 p) :
    ∃ N R' w' sl' T' q' v, runNT P N (crowd R w sl) p = (.next (crowd R' w' sl'), T') ∧ R'[0]? = some (G (c.finish v) rest) ∧ Leavers P T' R' q' ∧ Pst (fun b => S b ∨ b = Wg) 0 T' ∧ Q0 v w' := by
  have hpos : 0 < R.size := (Array.getElem?_eq_some_iff.1 hz).1
  obtain ⟨b, hb⟩ : ∃ b, R.size = b + 1 := ⟨R.size - 1, by omega⟩
  obtain ⟨μ, hI0⟩ := inv_start (vals := vals) (Post := Q0) hs0 hwg hpay
  obtain ⟨μ1, hI1⟩ := inv_start (vals := vals) (Post := Q1) hs1 hwg hpay
  have hSim : Sim P F ty Wg C n (Shn S) Sk Own Rd Own1 Rd1 Lw val vals A0 A1 Q0 Q1 b (c :: rest) p q μ (crowd R w sl) p := by
    refine ⟨#[G fr []], #[G fr [s1 P, s2 P]], R, w, sl, none, none, G fr [], #[], μ1, rfl, rfl, ⟨by simp, by simpa using hb, ?_, fun i hi => ?_⟩, ⟨by simp, by simp, rfl, fun i hi => ?_⟩, fun i hi hib => ?_, hI0, hI1, ⟨fun _ => 0, Lnk.init hPs.hears (fun j hj => hL.above j (by omega)) _⟩, fun i x hx => (by simp [touchAt, Trace.act?] at hx), ⟨fun i g hg => (by simp [Trace.g?] at hg), fun k k1 km => (by simp at km; omega)⟩, fun op hop => (by simp at hop), fun _ => hk0, hfr, fun f hf => (by cases hf), ⟨rfl, rfl⟩, hgc⟩
    · rw [hz]; rfl
    · rw [Array.getElem?_eq_none (by omega), Array.getElem?_eq_none (by simp; omega)]
    · rw [Array.getElem?_eq_none (by simp; omega), Array.getElem?_eq_none (by simp; omega)]
    · have hlt : i < R.size := by omega
      exact ⟨R[i], Array.getElem?_eq_getElem hlt, hL.old i _ (by omega) (Array.getElem?_eq_getElem hlt)⟩
  obtain ⟨N, q', R', w', slr', T', hrun, d, sl2, gs, a, t, o, w₂, es, sl0, hst, hR, ha, hend, hG, hLk, hTk, hRt, hGz, hdf, hqu, hfa, hea, hE, hgc'⟩ := sim_run hF hP A A' hX hSk Ge hn h0 h1 hl hv (_, μ) q R w sl p rfl hSim
  obtain ⟨v, rfl, hQ, hcl, hov, _, _⟩ := hG
  have hret := ret_real hF hfa (by rw [← hea]; exact hend)
  have hz' : R'[0]? = some (G a.frame (c :: rest)) := by
    rw [hR.zero, ha]
    rw [hea, hret.1]
    rfl
  have hgo := hret.2 c rest
  have hrunT := runT_crowd_go (P := P) (sl := sl2) (i := 0) (w := w'.at d) hz' hgo
  obtain ⟨f, L⟩ := id hLk
  have hL2 := hLk.events 0 a.frame.fn a.frame.place es
  obtain ⟨f2, L2⟩ := id hL2
  have hsz : R'.size = b + gs.size := hR.size
  have hp' : 0 < R'.size := by have := hR.pos; omega
  have hg0 : ∀ op ∈ MemOp.ofEvents 0 a.frame.fn a.frame.place es, op.g = 0 := fun op hop => by obtain ⟨e, _, rfl⟩ := of_mem hop; rfl
  have nz : nr b 0 = 0 := rfl
  have hex : ∀ i, ∃ qi, ∀ g, 1 ≤ i → R'[i]? = some g → QuitsD P qi (Deaf T' i) g := fun i => by
    by_cases h1 : 1 ≤ i
    · by_cases hib : i ≤ b
      · obtain ⟨g, hg, hqq⟩ := hE i h1 hib
        exact ⟨q' i, fun g' _ hg' => by rw [hg] at hg'; cases hg'; exact hqq⟩
      · obtain ⟨k, rfl⟩ : ∃ k, i = b + (k + 1) := ⟨i - b - 1, by omega⟩
        cases hgk : gs[k + 1]? with
        | none => exact ⟨0, fun g' _ hg' => by rw [hR.wk (k + 1) (by omega), hgk] at hg'; cases hg'⟩
        | some g =>
          obtain ⟨qq, hqq⟩ := hqu k g hgk
          refine ⟨qq, fun g' _ hg' => ?_⟩
          rw [hR.wk (k + 1) (by omega), hgk] at hg'
          cases hg'
          have := L.dfE (k + 1)
          rw [Lk.nr_pos (by omega)] at this
          rw [this]
          exact hqq
    · exact ⟨0, fun g h => absurd h h1⟩
  refine ⟨N + 1, (R'.map (woken P (G a.frame (c :: rest)) (G (c.finish v) rest) w₂)).setIfInBounds 0 (G (c.finish v) rest), w₂, sl2, T' ++ MemOp.ofEvents 0 a.frame.fn a.frame.place es, fun i => (hex i).choose, v, ?_, ?_, ⟨fun i g hi hg => ?_, fun j hj => ?_⟩, ?_, hQ⟩
  · rw [runNT_add, hrun]
    simp only [runNT, hst, hrunT]
    rfl
  · rw [Array.getElem?_setIfInBounds_self_of_lt (by simpa using hp')]
  · rw [Array.getElem?_setIfInBounds_ne (by omega), Array.getElem?_map] at hg
    obtain ⟨y, hy, rfl⟩ := Option.map_eq_some_iff.1 hg
    have hqy := (hex i).choose_spec y (by omega) hy
    rw [woken_quitsD hqy, Deaf_other T' (g := i) (g' := 0) (by omega) _ hg0]
    exact hqy
  · rw [Array.size_setIfInBounds, Array.size_map, hsz] at hj
    rw [Deaf_other T' (g := j) (g' := 0) (by have := hR.pos; omega) _ hg0]
    obtain ⟨k, rfl⟩ : ∃ k, j = b + k := ⟨j - b, by omega⟩
    have hk : k ≠ 0 := by have := hR.pos; omega
    have := L.dfE k
    rw [Lk.nr_pos hk] at this
    rw [this]
    refine Deaf_absent fun i op hi e => ?_
    have := hRt.1 i op.g (by simp [Trace.g?, hi])
    omega
  · obtain ⟨B, hPast⟩ := hPs.past
    obtain ⟨B2, hB2⟩ := low_bound (t ++ MemOp.ofEvents 0 a.frame.fn a.frame.place es)
    have hRt' := hRt.app (u := MemOp.ofEvents 0 a.frame.fn a.frame.place es) fun op hop => by rw [hg0 op hop]; have := hR.pos; omega
    have key : Past (fun l => Shn S l ∨ ShN Wg l) (B + B2) (T' ++ MemOp.ofEvents 0 a.frame.fn a.frame.place es) := by
      refine Lk.past_of (s := t ++ MemOp.ofEvents 0 a.frame.fn a.frame.place es) (f := f2) hPast (Nat.le_add_right _ _) (fun i k hk => ?_) L2 hcl (fun i x hx hm => ?_) hRt'.root (fun i x hx => (hTk i x hx).1) (fun op hop => MemAct.low_mono (Nat.le_add_left _ _) (hB2 op hop)) hov hdf
      · obtain ⟨op, ho, hop⟩ := Option.map_eq_some_iff.1 hk
        exact gz_ev hGz 0 a.frame.fn a.frame.place es op (Array.mem_of_getElem? ho) k hop
      · obtain ⟨op, ho, hox⟩ := touch_of hx
        by_cases hg : op.g = 0
        · have := knows_own ho
          rw [hg] at this
          exact .inl this
        · have hcnt : x.kind ≠ .atomic ∨ (t ++ MemOp.ofEvents 0 a.frame.fn a.frame.place es).heard i → Knows (t ++ MemOp.ofEvents 0 a.frame.fn a.frame.place es) 0 i := fun hc => by
            obtain ⟨j, hj, hb'⟩ := hov i op.g (by simp [Trace.g?, ho]) hg ⟨x, hx, hm, hc⟩
            obtain ⟨y, hy, hyg⟩ := Option.map_eq_some_iff.1 hj
            exact ⟨j, y, hy, hyg, .inr hb'⟩
          by_cases hk : x.kind = .atomic
          · rcases (hTk i x hx).2 hk with h3 | h3 | h3
            · exfalso
              simp [Trace.g?, ho] at h3
              exact hg h3
            · exact .inl (hcnt (.inr h3))
            · exact .inr ⟨h3, hk⟩
          · exact .inl (hcnt (.inl hk))
    have hsub : ∀ l, (Shn S l ∨ ShN Wg l) → Shn (fun b => S b ∨ b = Wg) l := fun l hl => by
      rcases hl with ⟨x, e, hx⟩ | ⟨x, e, hx⟩
      · exact ⟨x, e, .inl hx⟩
      · exact ⟨x, e, .inr hx⟩
    exact ⟨key.clean, fun i x h1 h2 => (key.known i x h1 h2).imp id fun ⟨h3, h4⟩ => ⟨hsub _ h3, h4⟩, key.over, key.hears⟩
end Go.Proofs.Ytpdnceeniokemaa.Ct
