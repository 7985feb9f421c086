/-
  THE WALK BESIDE LEAVERS, step by step over frames written out.
-/
import Derived.Test.YtdemcjppokhonaaRe
set_option linter.unusedVariables false
set_option linter.unusedSimpArgs false
namespace Go.Proofs.Ytdemcjppokhonaa
open Go Go.Conc Go.RowKit

section
variable {P : Program} {F : FuncId → Bool} {Fin : Goroutine → World → Prop} {b : Frame} {a : Act} {k : List Item} {cs : List Frame} {w : World} {ops : Array Oper} {i : Nat} {rest : List Nat} {o : Oper}
theorem ba_ctl {g g' : Goroutine} (hrun : g.status = .running) (hs : ∀ v, stepG P true g v = .go g' v #[]) (h : BA P Fin g' w) : BA P Fin g w :=
  BA.step hrun fun d => ⟨_, _, _, hs _, noev, BA.at h d⟩
theorem ba_cons (hB : Bodied P F) (ho : ops[i]? = some o) (hw : Region.wanted o (yielded ops a.tmps) = true) (hok : okOp F o.op = true) (hk : b.kind ≠ .early)
    (h : ∀ d, ∀ K : Act → World → Prop, (∀ a' w', BA P Fin (G (b.at a' (.inRegion ops rest :: k)) cs) w' → K a' w') → uponK o a K ((execOp a.eval o).run P (w.at d))) : BA P Fin (G (b.at a (.inRegion ops (i :: rest) :: k)) cs) w := by
  refine BA.go rfl fun d => goes_oper_k ho hw hk fun K' hK => ?_
  exact h d K' fun a' w' x => hK a' w' ⟨listed_ok hB hok _, x⟩
theorem ba_skip (ho : ops[i]? = some o) (hw : Region.wanted o (yielded ops a.tmps) = false) (h : BA P Fin (G (b.at (a.put o.dst undef) (.inRegion ops rest :: k)) cs) w) : BA P Fin (G (b.at a (.inRegion ops (i :: rest) :: k)) cs) w :=
  BA.step rfl fun d => ⟨_, _, _, stepG_unwanted ho hw, noev, BA.at h d⟩
theorem ba_call (hF : SetOk P F) {f : FuncId} {fn : Func} {args : Array Operand} {vs : Array Value} {ats : Array TypeId} {R : Value → World → Prop}
    (hC : ∀ T d, Calls P f vs (rt T d w) fun e w' => ∃ v, e = .returned v ∧ R v w') (hg : GC P w) (hR : ∀ v w T d, R v w → R v (rt T d w)) (hf : F f = true)
    (hfn : P.funcs[f]? = some fn) (hname : (fn.name == "runtime.NumGoroutine") = false) (hb : fn.body.isNone = false)
    (ho : ops[i]? = some o) (hw : Region.wanted o (yielded ops a.tmps) = true) (hop : o.op = .call { callee := .value (.func f), args, argTypes := ats }) (hk : b.kind ≠ .early) (hargs : args.map a.eval = vs)
    (hn : ∀ v w', R v w' → BA P Fin (G (b.at (a.put o.dst v) (.inRegion ops rest :: k)) cs) w') : BA P Fin (G (b.at a (.inRegion ops (i :: rest) :: k)) cs) w := by
  subst hargs
  have hfin : ∀ v, (b.at a (.inRegion ops (i :: rest) :: k)).finish v = b.at (a.put o.dst v) (.inRegion ops rest :: k) := fun v => by rw [Frame.finish_at, ho]; rfl
  refine BA.step rfl fun d => ⟨_, _, _, stepG_enter ho hw hk (run_call_body hop hfn hname hb), evcall hop hfn hname hb, fun d' => ?_⟩
  refine BTo.call (w := w.at d') hF hf hg hR (fun T d => hC T d) fun v w' hr => ?_
  rw [hfin]
  exact (hn v w' hr).bto
theorem ba_callB {f : FuncId} {fn : Func} {args : Array Operand} {vs : Array Value} {ats : Array TypeId} {R : Value → World → Prop}
    (hC : CallsB P f vs w R) (hfn : P.funcs[f]? = some fn) (hname : (fn.name == "runtime.NumGoroutine") = false) (hb : fn.body.isNone = false)
    (ho : ops[i]? = some o) (hw : Region.wanted o (yielded ops a.tmps) = true) (hop : o.op = .call { callee := .value (.func f), args, argTypes := ats }) (hk : b.kind ≠ .early) (hargs : args.map a.eval = vs)
    (hn : ∀ v w', R v w' → BA P Fin (G (b.at (a.put o.dst v) (.inRegion ops rest :: k)) cs) w') : BA P Fin (G (b.at a (.inRegion ops (i :: rest) :: k)) cs) w := by
  subst hargs
  have hfin : ∀ v, (b.at a (.inRegion ops (i :: rest) :: k)).finish v = b.at (a.put o.dst v) (.inRegion ops rest :: k) := fun v => by rw [Frame.finish_at, ho]; rfl
  refine BA.step rfl fun d => ⟨_, _, _, stepG_enter ho hw hk (run_call_body hop hfn hname hb), evcall hop hfn hname hb, BA.at (hC _ cs Fin fun v w' hr => ?_) d⟩
  rw [hfin]
  exact hn v w' hr
theorem ba_leave {f : FuncId} {fn : Func} {t : Tmp} {todo : List Item} {c : Frame} (hf : P.funcs[f]? = some fn) (hr : fn.results = #[.tmp t]) (hd : a.defers = [])
    (h : BA P Fin (G (c.finish (a.tmps.getD t undef)) cs) w) : BA P Fin (G { (base f).at a todo with mode := .returning } (c :: cs)) w :=
  BA.step rfl fun d => ⟨_, _, _, stepG_leave (b := base f) rfl hd hf (resultsC_tmp hr _ _).1 (resultsC_tmp hr _ _).2, noev, BA.at h d⟩
end

/-- nothing of what was there is written; the tape is not told -/
structure Bel (N : Nat) (w w' : World) : Prop where
  os : w'.os = w.os
  output : w'.output = w.output
  size : w.heap.size ≤ w'.heap.size
  block : ∀ k, k < N → w'.heap[k]? = w.heap[k]?
theorem Bel.of {N : Nat} {w w' : World} (h : Below N w w') : Bel N w w' := ⟨h.os, h.output, h.size, h.block⟩
theorem Bel.rt {N : Nat} {w w' : World} (h : Bel N w w') (T : Nat → Question → Nat) (d : Nat) : Bel N w (rt T d w') := ⟨h.os, h.output, h.size, h.block⟩
theorem Bel.refl (N : Nat) (w : World) : Bel N w w := ⟨rfl, rfl, Nat.le_refl _, fun _ _ => rfl⟩
theorem Bel.trans {N : Nat} {a b c : World} (h : Bel N a b) (h' : Bel N b c) : Bel N a c := ⟨h'.os.trans h.os, h'.output.trans h.output, Nat.le_trans h.size h'.size, fun k hk => (h'.block k hk).trans (h.block k hk)⟩
theorem Bel.mono {N M : Nat} {a b : World} (h : Bel N a b) (hM : M ≤ N) : Bel M a b := ⟨h.os, h.output, h.size, fun k hk => h.block k (by omega)⟩
theorem Bel.gc {P : Program} {w w' : World} (h : Bel w.heap.size w w') (hg : GC P w) : GC P w' := fun g hgg => by
  have hlt := cellsAt_lt (hg g hgg)
  obtain ⟨c, t, f, e⟩ := hg g hgg
  exact ⟨c, t, f, (h.block g hlt).trans e⟩
theorem Bel.fls {N : Nat} {w w' : World} {a : Option Addr} {l : List Nat} (h : Bel N w w') (hf : Fls false 0 N w a l) : Fls false 0 N w' a l := fun j x hx => by
  obtain ⟨b, o, h1, h2, h3, h4, h5⟩ := hf j x hx
  exact ⟨b, o, h1, h2, h3, (World.cell?_of_block (h.block b h3)).trans h4, fun h => by cases h⟩
theorem Bel.own {w w' : World} {B e m n : Nat} {v : Value} {xs : List Value} (h : Bel w.heap.size w w') (ho : w.ownsRow B e m v n xs) : w'.ownsRow B e m v n xs := by
  refine ⟨ho.1, ?_⟩
  rcases ho.2 with h0 | ⟨g', cp, cur, e, hg, hh, r⟩
  · exact .inl h0
  · exact .inr ⟨g', cp, cur, e, hg, (h.block g' (Array.getElem?_eq_some_iff.1 hh).1).trans hh, r⟩
theorem setOk : SetOk Try.prog FS := ⟨bod, by
  intro f fn c hf h1 h2
  simp only [FS, List.contains_cons, List.contains_nil, Bool.or_false, Bool.or_eq_true, beq_iff_eq] at hf
  rcases hf with rfl | rfl | rfl | rfl | rfl | rfl | rfl | rfl | rfl | rfl | rfl | rfl | rfl | rfl | rfl | rfl | rfl | rfl | rfl | rfl | rfl | rfl | rfl <;> (cases h1; cases h2; decide), late_of (by decide +kernel), by decide⟩
end Go.Proofs.Ytdemcjppokhonaa
