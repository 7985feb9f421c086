/-
  In company of the sender: the sum and the mean of a block.
-/
import Derived.Test.YtdemcjppokhonaaSd
import Derived.Test.YtdemcjppokhonaaSv
import Derived.Conc.CompanyMem
set_option linter.unusedVariables false
set_option linter.unusedSimpArgs false
namespace Go.Proofs.Ytdemcjppokhonaa
open Go Go.Conc Go.RowKit

/-- the functions whose lone contracts are used -/
def FS : FuncId → Bool := fun f => [12, 16, 20, 21, 22, 23, 35, 36, 37, 38, 40, 41, 42, 43, 44, 45, 46, 47, 48, 49, 51, 52, 53].contains f
theorem bod : Bodied Try.prog FS := by
  intro f hf
  simp only [FS, List.contains_cons, List.contains_nil, Bool.or_false, Bool.or_eq_true, beq_iff_eq] at hf
  rcases hf with rfl | rfl | rfl | rfl | rfl | rfl | rfl | rfl | rfl | rfl | rfl | rfl | rfl | rfl | rfl | rfl | rfl | rfl | rfl | rfl | rfl | rfl | rfl <;> exact ⟨_, _, rfl, by decide, rfl⟩

theorem tm (c : Nat) : Terms (Go.Conc.Aside c) (DC c) := ⟨fun _ _ _ h1 h2 => h1.trans h2, fun _ => ⟨rfl, noev⟩⟩
theorem asT {c : Nat} {w w1 w1' w2 : World} (h : Go.Conc.Aside c w w1) (hR : Go.Conc.Aside c w1' w2) (e : (w1'.heap, w1'.os, w1'.tape, w1'.output) = (w1.heap, w1.os, w1.tape, w1.output) := by rfl) : Go.Conc.Aside c w w2 := by
  simp only [Prod.mk.injEq] at e
  obtain ⟨e1, e2, e3, e4⟩ := e
  exact ⟨hR.tape.trans (e3.trans h.tape), hR.os.trans (e2.trans h.os), hR.output.trans (e4.trans h.output), hR.size.trans (by rw [e1]; exact h.size), fun k hk => (hR.block k hk).trans (by rw [e1]; exact h.block k hk)⟩
theorem aside_drew {c : Nat} {w w1 : World} (h : Go.Conc.Aside c w w1) (n : Nat) : Go.Conc.Aside c w (w1.drewN n) := ⟨h.tape, h.os, h.output, h.size, h.block⟩

theorem opsC_callV {P : Program} {main : Bool} {R : World → World → Prop} {D : World → World → Array Event → Prop} (T : Terms R D) {fn : FuncId} {Q : Exit → Act → World → Prop} {a : Act} {w : World} {ops : Array Oper} {i : Nat} {rest : List Nat} {o : Oper} {f : FuncId} {args : Array Operand} {vs : Array Value} {ats : Array TypeId} {nf n : Nat} {Post : Value → World → Prop}
    (hcall : CallsC P main R D f vs nf w Post) (ho : ops[i]? = some o) (hw : Region.wanted o (yielded ops a.tmps) = true) (hop : o.op = .call { callee := .value (.func f), args, argTypes := ats }) (hargs : args.map a.eval = vs)
    (hnext : ∀ v w', Post v w' → OpsC P main R D fn ops rest n Q (a.put o.dst v) w') : OpsC P main R D fn ops (i :: rest) (n + nf + 3) Q a w := by
  subst hargs
  exact opsC_call T ho hw hop hcall hnext

section
variable (c g o s cap : Nat) (l : List Nat) (w0 : World)
/-- the cells of a block of numbers -/
def Cel (w : World) : Prop := ∀ j x, l[j]? = some x → w.cell? ⟨g, o + j, none⟩ = some (.float .f64 x)

def InvS (a : Act) (w : World) : Prop :=
  ∃ (k v : Nat) (v1 v2 v4 v5 v6 v10 v11 v12 v13 v14 v15 v16 v17 : Value), k ≤ s ∧ Sm v (sumV (l.take k)) ∧ Go.Conc.Aside c w0 w ∧
    a = { tmps := #[.slice (some ⟨g, o, none⟩) s cap, v1, v2, .float .f64 v, v4, v5, v6, .slice (some ⟨g, o, none⟩) s cap, .int .i64 s, .int .i64 k, v10, v11, v12, v13, v14, v15, v16, v17], defers := [] }
def MuS (a : Act) (_ : World) : Nat := s - (match a.tmps.getD 9 undef with | .int _ j => j.toNat | _ => 0)
end

set_option maxRecDepth 100000 in
set_option maxHeartbeats 1600000 in
theorem sumC_all (c g o s cap : Nat) (l : List Nat) (hl : l.length = s) (hs : s ≤ 4096) (hgc : g ≠ c) :
    ∃ n, ∀ (w : World), Cel g o l w → CallsC Try.prog true (Go.Conc.Aside c) (DC c) 43 #[.slice (some ⟨g, o, none⟩) s cap] n w fun r w' => ∃ x, r = .float .f64 x ∧ Sm x (sumV l) ∧ Go.Conc.Aside c w w' := by
  co_apply Exists.intro
  intro w hcel
  co_apply callsC_of_wpC Try.func43 (by rfl) rfl
  have hF : Go.Conc.Aside c w w := Go.Conc.Aside.refl c w
  have hz := zero_of
  simp only [Try.ntmps43, List.size_toArray, List.length_cons, List.length_nil, Nat.reduceAdd, Nat.reduceSub, Array.replicate_succ, Array.replicate_zero, List.push_toArray, List.append_toArray, List.nil_append, List.cons_append]
  co_go (tm c) asT hF (exact ⟨rfl, listed_ok bod rfl _⟩)
  co_apply wpC_loop (tm c) (InvS c g o s cap l w) (MuS s) _ s
  · exact ⟨0, 0, _, _, _, _, _, _, _, _, _, _, _, _, _, by omega, Sm.rfl, hF, rfl⟩
  · simp [MuS]
  · rintro a w' ⟨k, v, v1, v2, v4, v5, v6, v10, v11, v12, v13, v14, v15, v16, v17, hk, hv, hF, rfl⟩
    co_go (tm c) asT hF (exact ⟨rfl, listed_ok bod rfl _⟩)
    co_split (tm c) (decide ((k : Int) < (s : Int)))
    · intro hj0
      have hlt : k < s := by have := of_decide_eq_true hj0; omega
      obtain ⟨x, hx⟩ : ∃ x, l[k]? = some x := ⟨l[k]'(by omega), List.getElem?_eq_getElem (by omega)⟩
      have hxc : ∀ w1, Go.Conc.Aside c w w1 → w1.cell? ⟨g, o + k, none⟩ = some (.float .f64 x) := fun w1 h => (World.cell?_of_block (h.block g hgc)).trans (hcel k x hx)
      co_go (tm c) asT hF (exact ⟨rfl, listed_ok bod rfl _⟩)
      have e : IntKind.i64.wrap ((k : Int) + 1) = ((k + 1 : Nat) : Int) := by rw [IntKind.wrap_i64]; omega
      simp only [e]
      refine ⟨⟨k + 1, _, _, _, _, _, _, _, _, _, _, _, _, _, _, by omega, ?_, hF, rfl⟩, ?_⟩
      · rw [take_snoc hx, sumV_snoc]; exact fv_sm hv Sm.rfl
      · have hmu : s - (k + 1) < s - k := by omega
        simpa [MuS] using hmu
    · intro hj0
      have hke : k = s := by have := of_decide_eq_false hj0; omega
      have hv2 : Sm v (sumV l) := by rw [hke, ← hl, List.take_length] at hv; exact hv
      co_go (tm c) asT hF (exact ⟨rfl, listed_ok bod rfl _⟩)
      exact ⟨rfl, _, resultsC_tmp (by rfl) _, v, rfl, hv2, hF⟩

set_option maxRecDepth 100000 in
set_option maxHeartbeats 1600000 in
theorem meanC (c g o s cap : Nat) (l : List Nat) (hl : l.length = s) (h1 : 1 ≤ s) (hs : s ≤ 4096) (hgc : g ≠ c) :
    ∃ n, ∀ (w : World), Cel g o l w → CallsC Try.prog true (Go.Conc.Aside c) (DC c) 47 #[.slice (some ⟨g, o, none⟩) s cap] n w fun r w' => ∃ x, r = .float .f64 x ∧ Sm x (meanV l) ∧ Go.Conc.Aside c w w' := by
  obtain ⟨N, hN⟩ := sumC_all c g o s cap l hl hs hgc
  co_apply Exists.intro
  intro w hcel
  co_apply callsC_of_wpC Try.func47 (by rfl) rfl
  have hF : Go.Conc.Aside c w w := Go.Conc.Aside.refl c w
  have he : ((s : Int) == 0) = false := beq_eq_false_iff_ne.2 (by omega)
  have hne : ¬ ((s : Int) = 0) := by omega
  simp only [Try.ntmps47, List.size_toArray, List.length_cons, List.length_nil, Nat.reduceAdd, Nat.reduceSub, Array.replicate_succ, Array.replicate_zero, List.push_toArray, List.append_toArray, List.nil_append, List.cons_append]
  co_go (tm c) asT hF (exact ⟨rfl, listed_ok bod rfl _⟩)
  co_apply wpC_cond (tm c) (t := false) rfl
  simp only [if_false, Bool.false_eq_true]
  co_go (tm c) asT hF (exact ⟨rfl, listed_ok bod rfl _⟩)
  co_apply opsC_callV (tm c) (hN _ (fun j x hx => (World.cell?_of_block (hF.block g hgc)).trans (hcel j x hx))) rfl (by rfl) rfl (by simp [Act.eval])
  rintro r w' ⟨v, rfl, hv, hF2⟩
  replace hF := hF.trans hF2
  clear hF2
  try walk_nrm
  co_go (tm c) asT hF (exact ⟨rfl, listed_ok bod rfl _⟩)
  refine ⟨rfl, _, resultsC_tmp (by rfl) _, _, rfl, ?_, hF⟩
  unfold meanV
  rw [hl, if_neg (by omega)]
  exact fv_sm hv Sm.rfl
end Go.Proofs.Ytdemcjppokhonaa
