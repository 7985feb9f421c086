/-
  THE WALK BESIDE LEAVERS: rules for code, region by region, where goroutine 0's run comes from each to what follows, calls by lone contracts among them; it names no program.
-/
import Derived.Test.YtdemcjppokhonaaBrL
import Derived.Conc.CompanyWords
set_option linter.unusedVariables false
set_option linter.unusedSimpArgs false
namespace Go.Proofs.Ytdemcjppokhonaa
open Go Go.Conc

section
variable {P : Program} {Fin : Goroutine → World → Prop}
/-- beside leavers goroutine 0 comes from here to where Fin holds, whatever was drawn meanwhile -/
def BA (P : Program) (Fin : Goroutine → World → Prop) (g : Goroutine) (w : World) : Prop := ∀ d, BTo P Fin g (w.at d)
theorem BA.bto {g : Goroutine} {w : World} (h : BA P Fin g w) : BTo P Fin g w := h w.drawn
theorem BA.at {g : Goroutine} {w : World} (h : BA P Fin g w) (d : Nat) : BA P Fin g (w.at d) := fun d' => h d'
theorem BA.step {g : Goroutine} {w : World} (hrun : g.status = .running) (h : ∀ d, ∃ g' w' es, stepG P true g (w.at d) = .go g' w' es ∧ (∀ e ∈ es, EvZ e) ∧ BA P Fin g' w') : BA P Fin g w := fun d =>
  BTo.step hrun fun d' => by
    obtain ⟨g', w', es, hs, he, hb⟩ := h d'
    exact ⟨g', w', es, hs, he, hb.bto⟩
theorem BA.go {g : Goroutine} {w : World} (hrun : g.status = .running) (h : ∀ d, (stepG P true g (w.at d)).goes fun g' w' es => (∀ e ∈ es, EvZ e) ∧ BA P Fin g' w') : BA P Fin g w :=
  BA.step hrun fun d => by
    obtain ⟨g', w', es, hs, he, hb⟩ := goes_elim (h d)
    exact ⟨g', w', es, hs, he, hb⟩
theorem BA.mono {Fin' : Goroutine → World → Prop} {g : Goroutine} {w : World} (h : BA P Fin g w) (hq : ∀ g w, Fin g w → Fin' g w) : BA P Fin' g w := fun d => (h d).mono hq

theorem noev : ∀ e ∈ (#[] : Array Event), EvZ e := fun e he => by simp at he

def AfterB (P : Program) (Fin : Goroutine → World → Prop) (b : Frame) (k : List Item) (cs : List Frame) : Exit → Act → World → Prop
  | .normal, a, w => BA P Fin (G (b.at a k) cs) w
  | .exit id, a, w => ∃ k', exitTo id k = some k' ∧ BA P Fin (G (b.at a k') cs) w
  | .ret, a, w => ∀ todo, BA P Fin (G { b.at a todo with mode := .returning } cs) w
  | _, _, _ => False
theorem AfterB.push {b : Frame} {x : Item} {k : List Item} {cs : List Frame} {e : Exit} {a : Act} {w : World} (hx : x.plain = true) (he : e ≠ .normal) (h : AfterB P Fin b k cs e a w) : AfterB P Fin b (x :: k) cs e a w := by
  cases e with
  | normal => exact absurd rfl he
  | exit id => obtain ⟨k', hk, hg⟩ := h; exact ⟨k', by cases x <;> simp_all [exitTo, Item.plain], hg⟩
  | ret => exact h
  | goto l => exact h
  | panic ch => exact h
  | outgrown => exact h
end

/-- code, beside leavers -/
def wpB (P : Program) (c : Code) (Q : Exit → Act → World → Prop) (a : Act) (w : World) : Prop :=
  ∀ (b : Frame) (k : List Item) (cs : List Frame) (Fin : Goroutine → World → Prop), b.kind ≠ .early → (∀ e a' w', Q e a' w' → AfterB P Fin b k cs e a' w') → BA P Fin (G (b.at a (.code c :: k)) cs) w
/-- the operations of a region that are still to come -/
def OpsB (P : Program) (ops : Array Oper) (todo : List Nat) (Q : Exit → Act → World → Prop) (a : Act) (w : World) : Prop :=
  ∀ (b : Frame) (k : List Item) (cs : List Frame) (Fin : Goroutine → World → Prop), b.kind ≠ .early → (∀ e a' w', Q e a' w' → AfterB P Fin b k cs e a' w') → BA P Fin (G (b.at a (.inRegion ops todo :: k)) cs) w

section
variable {P : Program} {Q : Exit → Act → World → Prop} {a : Act} {w : World}
theorem wpB_skip (h : Q .normal a w) : wpB P .skip Q a w := fun b k cs Fin hk hc => BA.step rfl fun d => ⟨_, _, _, stepG_skip, noev, BA.at (hc _ _ _ h) d⟩
theorem wpB_label {l : Nat} (h : Q .normal a w) : wpB P (.label l) Q a w := fun b k cs Fin hk hc => BA.step rfl fun d => ⟨_, _, _, stepG_label, noev, BA.at (hc _ _ _ h) d⟩
theorem wpB_ret (h : Q .ret a w) : wpB P .ret Q a w := fun b k cs Fin hk hc => BA.step rfl fun d => ⟨_, _, _, stepG_ret', noev, BA.at (hc _ _ _ h _) d⟩
theorem wpB_exit {id : Nat} (h : Q (.exit id) a w) : wpB P (.exit id) Q a w := fun b k cs Fin hk hc => by
  obtain ⟨k', hk', hg⟩ := hc _ _ _ h
  exact BA.step rfl fun d => ⟨_, _, _, stepG_exit hk', noev, hg.at d⟩
theorem wpB_mono {c : Code} {Q' : Exit → Act → World → Prop} (h : wpB P c Q a w) (hq : ∀ e a w, Q e a w → Q' e a w) : wpB P c Q' a w :=
  fun b k cs Fin hk hc => h b k cs Fin hk fun e a' w' q => hc e a' w' (hq e a' w' q)
theorem wpB_seq {x y : Code} (h : wpB P x (Exit.then (fun a' w' => wpB P y Q a' w') Q) a w) : wpB P (.seq x y) Q a w := by
  intro b k cs Fin hk hc
  refine BA.step rfl fun d => ⟨_, _, _, stepG_seq, noev, BA.at (h b (.code y :: k) cs Fin hk fun e a' w' q => ?_) d⟩
  cases e with
  | normal => exact q b k cs Fin hk hc
  | exit id => exact (hc _ _ _ q).push rfl (by simp)
  | ret => exact (hc _ _ _ q).push (x := .code y) rfl (by simp)
  | goto l => exact hc _ _ _ q
  | panic ch => exact hc _ _ _ q
  | outgrown => exact hc _ _ _ q
theorem wpB_cond {c : Operand} {x y : Code} {t : Bool} (hc : a.eval c = .bool t) (h : wpB P (if t then x else y) Q a w) : wpB P (.cond c x y) Q a w :=
  fun b k cs Fin hk hq => BA.step rfl fun d => ⟨_, _, _, stepG_cond hc, noev, BA.at (h b k cs Fin hk hq) d⟩
theorem wpB_block {id : Nat} {c : Code} (h : wpB P c (Exit.inBlock id Q) a w) : wpB P (.block id c) Q a w := by
  intro b k cs Fin hk hc
  refine BA.step rfl fun d => ⟨_, _, _, stepG_block, noev, BA.at (h b (.inBlock id :: k) cs Fin hk fun e a' w' q => ?_) d⟩
  cases e with
  | normal => exact BA.step rfl fun d => ⟨_, _, _, stepG_inBlock, noev, BA.at (hc _ _ _ q) d⟩
  | exit id' =>
    by_cases hid : id' = id
    · simp only [Exit.inBlock, hid, if_true] at q
      exact ⟨k, by simp [exitTo, hid], hc _ _ _ q⟩
    · simp only [Exit.inBlock, hid, if_false] at q
      obtain ⟨k', hk', hg⟩ := hc _ _ _ q
      have : (id == id') = false := by simp; exact fun h => hid h.symm
      exact ⟨k', by simp [exitTo, this, hk'], hg⟩
  | ret => exact fun todo => hc _ _ _ q todo
  | goto l => exact hc _ _ _ q
  | panic ch => exact hc _ _ _ q
  | outgrown => exact hc _ _ _ q
theorem wpB_region {id : Nat} {ops : Array Oper} (h : OpsB P ops (List.range ops.size) Q a w) : wpB P (.region id ops false) Q a w :=
  fun b k cs Fin hk hc => BA.step rfl fun d => ⟨_, _, _, stepG_region, noev, BA.at (h b k cs Fin hk hc) d⟩
theorem opsB_nil {ops : Array Oper} (h : Q .normal a w) : OpsB P ops [] Q a w := fun b k cs Fin hk hc => BA.step rfl fun d => ⟨_, _, _, stepG_region_end, noev, BA.at (hc _ _ _ h) d⟩
/-- What an allowed operation lists. -/
theorem listed_ok {F : FuncId → Bool} (hB : Bodied P F) {fn : FuncId} {o : Oper} (hok : okOp F o.op = true) (w : World) : ∀ e ∈ listed P fn a o w, EvZ e := fun e he =>
  run_evs P (lf_execOp hB (ρ := a.eval) (fun f => rfl) hok).noSys w #[] (by simp) e (mem_listed he)
/-- ONE OPERATION. -/
theorem opsB_cons {F : FuncId → Bool} (hB : Bodied P F) {ops : Array Oper} {i : Nat} {rest : List Nat} {o : Oper} (ho : ops[i]? = some o) (hw : Region.wanted o (yielded ops a.tmps) = true) (hok : okOp F o.op = true)
    (h : ∀ d, ∀ K : Act → World → Prop, (∀ a' w', OpsB P ops rest Q a' w' → K a' w') → uponK o a K ((execOp a.eval o).run P (w.at d))) : OpsB P ops (i :: rest) Q a w := by
  intro b k cs Fin hk hc
  refine BA.go rfl fun d => goes_oper_k ho hw hk fun K' hK => ?_
  exact h d K' fun a' w' x => hK a' w' ⟨listed_ok hB hok _, x b k cs Fin hk hc⟩
theorem opsB_unwanted {ops : Array Oper} {i : Nat} {rest : List Nat} {o : Oper} (ho : ops[i]? = some o) (hw : Region.wanted o (yielded ops a.tmps) = false)
    (h : OpsB P ops rest Q (a.put o.dst undef) w) : OpsB P ops (i :: rest) Q a w := by
  intro b k cs Fin hk hc
  refine BA.step rfl fun d => ⟨_, _, _, stepG_unwanted ho hw, noev, BA.at (h b k cs Fin hk hc) d⟩
end

section
variable {P : Program} {F : FuncId → Bool}
/-- Entering a Go function lists nothing. -/
theorem evcall {o : Oper} {a : Act} {w : World} {fn f : FuncId} {fc : Func} {args : Array Operand} {ats : Array TypeId} (hop : o.op = .call { callee := .value (.func f), args, argTypes := ats })
    (hf : P.funcs[f]? = some fc) (hname : (fc.name == "runtime.NumGoroutine") = false) (hb : fc.body.isNone = false) : ∀ e ∈ listed P fn a o w, EvZ e := fun e he => by
  have h := mem_listed he
  rw [events_call_body hop hf hname hb] at h
  simp at h
/-- A CALL BY A LONE CONTRACT. -/
theorem opsB_call (hF : SetOk P F) {Q : Exit → Act → World → Prop} {a : Act} {w : World} {ops : Array Oper} {i : Nat} {rest : List Nat} {o : Oper} {f : FuncId} {fn : Func} {args : Array Operand} {ats : Array TypeId}
    (ho : ops[i]? = some o) (hw : Region.wanted o (yielded ops a.tmps) = true) (hop : o.op = .call { callee := .value (.func f), args, argTypes := ats })
    (hfn : P.funcs[f]? = some fn) (hname : (fn.name == "runtime.NumGoroutine") = false) (hb : fn.body.isNone = false) (hf : F f = true) (hg : GC P w) {R : Value → World → Prop} (hR : ∀ v w T d, R v w → R v (rt T d w))
    (hC : ∀ T d, Calls P f (args.map a.eval) (rt T d w) fun e w' => ∃ v, e = .returned v ∧ R v w')
    (hn : ∀ v w', R v w' → OpsB P ops rest Q (a.put o.dst v) w') : OpsB P ops (i :: rest) Q a w := by
  intro b k cs Fin hk hc
  have hfin : ∀ v, (b.at a (.inRegion ops (i :: rest) :: k)).finish v = b.at (a.put o.dst v) (.inRegion ops rest :: k) := fun v => by rw [Frame.finish_at, ho]; rfl
  refine BA.step rfl fun d => ⟨_, _, _, stepG_enter ho hw hk (run_call_body hop hfn hname hb), evcall hop hfn hname hb, fun d' => ?_⟩
  refine BTo.call (w := w.at d') hF hf hg hR (fun T d => hC T d) fun v w' hr => ?_
  rw [hfin]
  exact (hn v w' hr b k cs Fin hk hc).bto

/-- A contract beside leavers. -/
def CallsB (P : Program) (f : FuncId) (args : Array Value) (w : World) (Post : Value → World → Prop) : Prop :=
  ∀ (c : Frame) (cs : List Frame) (Fin : Goroutine → World → Prop), (∀ v w', Post v w' → BA P Fin (G (c.finish v) cs) w') → BA P Fin (G (Frame.enter P f args .normal) (c :: cs)) w
def bodyPostB (P : Program) (fn : Func) (Post : Value → World → Prop) : Exit → Act → World → Prop
  | .normal, a, w | .ret, a, w => a.defers = [] ∧ ∃ v, ResultsC P fn a.tmps v ∧ Post v w
  | _, _, _ => False
theorem callsB_of_wpB {f : FuncId} {fn : Func} {c : Code} {args : Array Value} {w : World} {Post : Value → World → Prop} (hf : P.funcs[f]? = some fn) (hb : fn.body = some c)
    (h : wpB P c (bodyPostB P fn Post) { tmps := args ++ Array.replicate (fn.ntmps - args.size) undef, defers := [] } w) : CallsB P f args w Post := by
  intro cf cs Fin hn
  rw [enter_at _ hf hb]
  have hleave : ∀ (a' : Act) (w' : World) (todo : List Item), (a'.defers = [] ∧ ∃ v, ResultsC P fn a'.tmps v ∧ Post v w') → BA P Fin (G { (base f).at a' todo with mode := .returning } (cf :: cs)) w' := by
    rintro a' w' todo ⟨hd, v, hr, hp⟩
    exact BA.step rfl fun d => ⟨_, _, _, stepG_leave (b := base f) rfl hd hf (hr _).1 (hr _).2, noev, (hn v w' hp).at d⟩
  refine h (base f) [] (cf :: cs) Fin (by simp [base]) fun e a' w' q => ?_
  cases e with
  | normal => exact BA.step rfl fun d => ⟨_, _, _, stepG_end, noev, BA.at (hleave a' w' [] q) d⟩
  | ret => exact fun todo => hleave a' w' todo q
  | exit id => exact q.elim
  | goto l => exact q.elim
  | panic ch => exact q.elim
  | outgrown => exact q.elim
/-- A CALL BY A CONTRACT BESIDE LEAVERS. -/
theorem opsB_callB {Q : Exit → Act → World → Prop} {a : Act} {w : World} {ops : Array Oper} {i : Nat} {rest : List Nat} {o : Oper} {f : FuncId} {fn : Func} {args : Array Operand} {ats : Array TypeId}
    (ho : ops[i]? = some o) (hw : Region.wanted o (yielded ops a.tmps) = true) (hop : o.op = .call { callee := .value (.func f), args, argTypes := ats })
    (hfn : P.funcs[f]? = some fn) (hname : (fn.name == "runtime.NumGoroutine") = false) (hb : fn.body.isNone = false) {R : Value → World → Prop}
    (hC : CallsB P f (args.map a.eval) w R) (hn : ∀ v w', R v w' → OpsB P ops rest Q (a.put o.dst v) w') : OpsB P ops (i :: rest) Q a w := by
  intro b k cs Fin hk hc
  have hfin : ∀ v, (b.at a (.inRegion ops (i :: rest) :: k)).finish v = b.at (a.put o.dst v) (.inRegion ops rest :: k) := fun v => by rw [Frame.finish_at, ho]; rfl
  refine BA.step rfl fun d => ⟨_, _, _, stepG_enter ho hw hk (run_call_body hop hfn hname hb), evcall hop hfn hname hb, BA.at (hC _ cs Fin fun v w' hr => ?_) d⟩
  rw [hfin]
  exact hn v w' hr b k cs Fin hk hc
end
end Go.Proofs.Ytdemcjppokhonaa
