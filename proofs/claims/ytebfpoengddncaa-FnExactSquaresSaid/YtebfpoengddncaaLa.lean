/-
  The law's calls, beside leavers.
-/
import Derived.Test.YtebfpoengddncaaSr
import Derived.Test.YtebfpoengddncaaMark
set_option linter.unusedVariables false
set_option linter.unusedSimpArgs false
namespace Go.Proofs.Ytebfpoengddncaa
open Go Go.Conc Go.RowKit

theorem isq_B (a : Option Addr) (ca : Nat) (l : List Nat) (n : Int) (w : World) (hg : GC Try.prog w) (ha : Fls false 0 w.heap.size w a l) :
    CallsB Try.prog 6 #[.slice a l.length ca, .int .i64 n] w (AnsB (sqB l n.toNat) (sqN l n) w) := by
  intro cf cs Fin hn
  by_cases h : l.length ≤ 4096 ∧ 1 ≤ n ∧ n ≤ 4096
  · obtain ⟨s, rfl⟩ : ∃ s : Nat, n = s := ⟨n.toNat, by omega⟩
    have e : sqN l s = l.length / s := by unfold sqN; rw [if_pos h]; rfl
    rw [e] at hn
    exact sq_good Fin cf cs a ca l s w hg ha h.1 (by omega) (by omega) hn
  · have e : sqN l n = 0 := by unfold sqN; rw [if_neg h]
    rw [e] at hn
    exact sq_bad Fin cf cs a ca l n w hg h _ hn

/-- all blocks but b are kept -/
structure KB (b : Nat) (w w' : World) : Prop where
  os : w'.os = w.os
  output : w'.output = w.output
  size : w.heap.size ≤ w'.heap.size
  block : ∀ k, k < w.heap.size → k ≠ b → w'.heap[k]? = w.heap[k]?
theorem KB.own {b : Nat} {w w' : World} {B e m n g cap : Nat} {xs : List Value} (h : KB b w w') (hg : g ≠ b) (ho : w.ownsRow B e m (.slice (some ⟨g, 0, none⟩) n cap) n xs) : w'.ownsRow B e m (.slice (some ⟨g, 0, none⟩) n cap) n xs := by
  refine ⟨ho.1, ?_⟩
  rcases ho.2 with ⟨h0, _⟩ | ⟨g', cp, cur, e, hgb, hh, r⟩
  · cases h0
  · have hgg : g = g' := by simpa using congrArg (fun v => match v with | Value.slice (some a) _ _ => a.block | _ => 0) e
    subst hgg
    exact .inr ⟨_, cp, cur, e, hgb, (h.block _ (Array.getElem?_eq_some_iff.1 hh).1 hg).trans hh, r⟩
theorem KB.bel {b N : Nat} {w w' : World} (h : KB b w w') (hb : N ≤ b) (hN : N ≤ w.heap.size) : Bel N w w' := ⟨h.os, h.output, h.size, fun k hk => h.block k (by omega) (by omega)⟩

def TofB (l : List Nat) (w : World) (v : Value) (w' : World) : Prop :=
  ∃ B, v = .slice (some ⟨B, 0, none⟩) l.length l.length ∧ w.heap.size ≤ B ∧ w'.ownsRow w.heap.size 30 1 (.slice (some ⟨B, 0, none⟩) l.length l.length) l.length (l.map fl) ∧ Bel w.heap.size w w'
theorem tofR {l : List Nat} {W : World} : ∀ v w T d, TofB l W v w → TofB l W v (rt T d w) := fun v w T d ⟨B, h1, h2, h3, h4⟩ => ⟨B, h1, h2, h3, h4.rt T d⟩
theorem tofB (a : Option Addr) (ca : Nat) (l : List Nat) (w : World) (hl : l.length ≤ 1048576) (ha : Fls false 0 w.heap.size w a l) (T : Nat → Question → Nat) (d : Nat) :
    Calls Try.prog 5 #[.slice a l.length ca] (rt T d w) fun e w' => ∃ v, e = .returned v ∧ TofB l w v w' :=
  (tof_any a ca l (rt T d w) hl ha).mono fun e w' ⟨B, h1, h2, h3, h4⟩ => ⟨_, h1, B, rfl, h2, h3, ⟨h4.os, h4.output, h4.size, h4.block⟩⟩
theorem ssqB (a : Option Addr) (ca : Nat) (l : List Nat) (n : Int) (w : World) (ha : Fls false 0 w.heap.size w a l) (T : Nat → Question → Nat) (d : Nat) :
    Calls Try.prog 4 #[.slice a l.length ca, .int .i64 n] (rt T d w) fun e w' => ∃ v, e = .returned v ∧ AnsB (sqB l n.toNat) (sqN l n) w v w' :=
  (ssq_any a ca l n (rt T d w) ha).mono fun e w' h => AnsB.of h
def EqB (W : World) (v : Value) (w' : World) : Prop := v = .bool true ∧ Bel W.heap.size W w'
theorem eqR {W : World} : ∀ v w T d, EqB W v w → EqB W v (rt T d w) := fun v w T d h => ⟨h.1, h.2.rt T d⟩
theorem eqB (a b : Option Addr) (ca cb : Nat) (l m : List Nat) (w : World) (hl : l.length ≤ 1048576) (hs : SmL l m) (ha : Fls false 0 w.heap.size w a l) (hb : Fls false 0 w.heap.size w b m) (T : Nat → Question → Nat) (d : Nat) :
    Calls Try.prog 7 #[.slice a l.length ca, .slice b m.length cb] (rt T d w) fun e w' => ∃ v, e = .returned v ∧ EqB w v w' :=
  (eqfl_any a b ca cb l m (rt T d w) hl hs ha hb).mono fun e w' h => ⟨_, h.1, rfl, ⟨h.2.os, h.2.output, h.2.size, h.2.block⟩⟩
def MkB (g n cap : Nat) (W : World) (v : Value) (w' : World) : Prop :=
  v = .int .i64 (1 + n) ∧ (∃ ys, w'.ownsRow 0 30 1 (.slice (some ⟨g, 0, none⟩) n cap) n ys ∧ Mkd 1 n ys) ∧ KB g W w'
theorem mkR {g n cap : Nat} {W : World} : ∀ v w T d, MkB g n cap W v w → MkB g n cap W v (rt T d w) := fun v w T d h => ⟨h.1, h.2.1, ⟨h.2.2.os, h.2.2.output, h.2.2.size, h.2.2.block⟩⟩
theorem mkB (B g n cap : Nat) (xs : List Value) (w : World) (hn : n ≤ 10000000) (h : w.ownsRow B 30 1 (.slice (some ⟨g, 0, none⟩) n cap) n xs) (T : Nat → Question → Nat) (d : Nat) :
    Calls Try.prog 8 #[.slice (some ⟨g, 0, none⟩) n cap, .int .i64 1] (rt T d w) fun e w' => ∃ v, e = .returned v ∧ MkB g n cap w v w' :=
  (markf_any B g n cap 1 xs (rt T d w) hn (by omega) (by omega) h).mono fun e w' ⟨h1, ⟨ys, h2, h3⟩, h4⟩ => ⟨_, h1, rfl, ⟨ys, own_mono h2 (Nat.zero_le _), h3⟩, ⟨h4.os, h4.output, h4.size, fun k hk hne => h4.block k hk (by simpa using hne)⟩⟩
def HdB (n : Nat) (W : World) (v : Value) (w' : World) : Prop := v = .int .i64 (1 + n) ∧ Bel W.heap.size W w'
theorem hdR {n : Nat} {W : World} : ∀ v w T d, HdB n W v w → HdB n W v (rt T d w) := fun v w T d h => ⟨h.1, h.2.rt T d⟩
theorem hdB (g n cap : Nat) (xs : List Value) (w : World) (hn : n ≤ 10000000) (h : w.ownsRow 0 30 1 (.slice (some ⟨g, 0, none⟩) n cap) n xs) (hm : Mkd 1 n xs) (T : Nat → Question → Nat) (d : Nat) :
    Calls Try.prog 9 #[.slice (some ⟨g, 0, none⟩) n cap, .int .i64 1] (rt T d w) fun e w' => ∃ v, e = .returned v ∧ HdB n w v w' :=
  (heldf_any 0 g n cap 1 xs (rt T d w) hn (by omega) (by omega) h hm).mono fun e w' ⟨h1, h2⟩ => ⟨_, h1, rfl, by rw [h2]; exact (Bel.refl _ w).rt T d⟩
theorem row_fls {w : World} {B g n cap : Nat} {l : List Nat} (h : w.ownsRow B 30 1 (.slice (some ⟨g, 0, none⟩) n cap) n (l.map fl)) : Fls false 0 w.heap.size w (some ⟨g, 0, none⟩) l := fls_ownB h

theorem ba_end {P : Program} {Post : Value → World → Prop} {a : Act} {w : World} {f : FuncId} {fn : Func} {t : Tmp} {todo : List Item} (hf : P.funcs[f]? = some fn) (hr : fn.results = #[.tmp t]) (hi : P.inits.idxOf? f = none) (hd : a.defers = [])
    (h : ∀ d, Post (a.tmps.getD t undef) (w.at d)) : BA P (AtEnd0 P Post) (G { (base f).at a todo with mode := .returning } []) w := fun d => BTo.done ⟨rfl, fun d' => ⟨a.tmps.getD t undef, #[], by
  obtain ⟨tm, df⟩ := a
  simp only at hd
  subst hd
  simp [G, stepG, unwind, doReturn, results, Frame.at, base, hf, hr, hi, seen, GStep.after], noev, h d'⟩⟩
end Go.Proofs.Ytebfpoengddncaa
