/-
  Whatever the draws: what the law's lone functions answer; steps of control.
  An answer that is a list of numbers in new memory, as the lone contracts say it; a body's code behind its first pieces.
  Short steps of control beside leavers; an answer's post, taken over.
-/
import Derived.Test.YtpmmimcafkillaaZJbS
import Derived.Test.YtpmmimcafkillaaZMm
set_option linter.unusedVariables false
set_option linter.unusedSimpArgs false
namespace Go.Proofs.Ytpmmimcafkillaa.Tr
open Go Go.Conc Go.RowKit
open Go.Proofs.Ytpmmimcafkillaa.Br (BT BTS Hd Hid Pz Pst Shn Thr EvN bt_ctl bt_cons bt_skip bt_call bt_callB bt_enter CallsB rt AtEnd0)
open Go.Proofs.Ytpmmimcafkillaa.Rs (Rule outOf out_at out_len resR dtR hst)
open Go.Proofs.Ytpmmimcafkillaa (Tv Tks Ins jobOk job_tok TOk job_short tot)
/-! the law's lone functions, whatever the draws -/
theorem BelL.rtt {N : Nat} {w w' : World} {T : Nat → Question → Nat} {d : Nat} (h : BelL N w w') : BelL N w (Br.rt T d w') := ⟨h.os, h.output, h.size, h.block⟩
def RSz (w : World) (ts : List Tv) (v : Value) (w' : World) : Prop := ∃ r, v = .int .i64 r ∧ (r = -1 ∨ (0 ≤ r ∧ r = 1048576 - ts.length - tot ts)) ∧ BelL w.heap.size w w'
theorem RSz.rt {w w' : World} {ts : List Tv} {v : Value} {T : Nat → Question → Nat} {d : Nat} (h : RSz w ts v w') : RSz w ts v (Br.rt T d w') := let ⟨r, h1, h2, h3⟩ := h; ⟨r, h1, h2, h3.rtt⟩
def RTo (w : World) (ts : List Tv) (v : Value) (w' : World) : Prop := ∃ B, v = .slice (some ⟨B, 0, none⟩) ts.length ts.length ∧ Tks w' (some ⟨B, 0, none⟩) ts ∧ BelL w.heap.size w w'
theorem RTo.rt {w w' : World} {ts : List Tv} {v : Value} {T : Nat → Question → Nat} {d : Nat} (h : RTo w ts v w') : RTo w ts v (Br.rt T d w') := let ⟨r, h1, h2, h3⟩ := h; ⟨r, h1, h2, h3.rtt⟩
def RTr (w : World) (v : Value) (w' : World) : Prop := v = .bool true ∧ BelL w.heap.size w w'
theorem RTr.rt {w w' : World} {v : Value} {T : Nat → Question → Nat} {d : Nat} (h : RTr w v w') : RTr w v (Br.rt T d w') := ⟨h.1, h.2.rtt⟩
section
variable {ts : List Tv} {w : World} {a : Option Addr} {cap : Nat}
end
def PostL (W : World) (v : Value) (w' : World) : Prop := v = .bool true ∧ BelL W.heap.size W w'
end Go.Proofs.Ytpmmimcafkillaa.Tr

namespace Go.Proofs.Ytpmmimcafkillaa
open Go.RowKit
/-- the answer -/
def RSd (w : World) (D : List Int) (e : Ending) (w' : World) : Prop := ∃ B c, e = .returned (.slice (some ⟨B, 0, none⟩) D.length c) ∧ Ins w' (some ⟨B, 0, none⟩) D ∧ Below w.heap.size w w'
theorem RSd.mk {w w' : World} {D : List Int} {g m c : Nat} (hm : m = D.length) (hi : Ins w' (some ⟨g, 0, none⟩) D) (hb : Below w.heap.size w w') : RSd w D (.returned (.slice (some ⟨g, 0, none⟩) m c)) w' := by
  subst hm
  exact ⟨g, c, rfl, hi, hb⟩
theorem RSd.nil {w w' : World} {D : List Int} {g c : Nat} (hD : D = []) (hb : Below w.heap.size w w') : RSd w D (.returned (.slice (some ⟨g, 0, none⟩) 0 c)) w' := by
  subst hD
  exact ⟨g, c, rfl, Ins.nil, hb⟩
end Go.Proofs.Ytpmmimcafkillaa
namespace Go.Proofs.Ytpmmimcafkillaa.Tr
open Go Go.RowKit
open Go.Proofs.Ytpmmimcafkillaa (OwnI)
def sdc : Nat → Code → Code
  | 0, c => c
  | n + 1, .seq _ b => sdc n b
  | _, c => c
/-- the answer, in new memory -/
def RDt (w : World) (l : List Int) (v : Value) (w' : World) : Prop := ∃ g c, v = .slice (some ⟨g, 0, none⟩) l.length c ∧ OwnI w' w.heap.size g l.length c l ∧ Below w.heap.size w w'
theorem RDt.mk {w w' : World} {l : List Int} {g m c : Nat} (hm : m = l.length) (ho : OwnI w' w.heap.size g m c l) (hb : Below w.heap.size w w') : ∃ v, Ending.returned (.slice (some ⟨g, 0, none⟩) m c) = .returned v ∧ RDt w l v w' := by
  subst hm
  exact ⟨_, rfl, g, c, rfl, ho, hb⟩
end Go.Proofs.Ytpmmimcafkillaa.Tr

set_option linter.unusedVariables false
set_option linter.unusedSimpArgs false
namespace Go.Proofs.Ytpmmimcafkillaa.Tr
open Go Go.Conc Go.RowKit
open Go.Proofs.Ytpmmimcafkillaa.Br (BT BTS Hd Hid Pz Pst Shn Thr EvN bt_ctl bt_cons bt_skip bt_call bt_callB bt_enter CallsB rt)
section
variable {main : Bool} {b : Frame} {a : Act} {kk : List Item} {cs : List Frame} {w : World} {ops : Array Oper} {i : Nat} {rest : List Nat} {o : Oper}
theorem stepG_bs29 (ho : ops[i]? = some o) (hw : Region.wanted o (yielded ops a.tmps) = true) (hk : b.kind ≠ .early) (hop : o.op = .buildSlice 29 0 #[]) :
    stepG Try.prog main (G (b.at a (.inRegion ops (i :: rest) :: kk)) cs) w = .go (G (b.at (a.put o.dst (.slice (some ⟨w.heap.size, 0, none⟩) 0 0)) (.inRegion ops rest :: kk)) cs) (w.alloc (.cells #[] 2 (0, 0))) #[] := by
  have hr : (execOp a.eval o).run Try.prog w = .ok (.value (.slice (some ⟨w.heap.size, 0, none⟩) 0 0)) (w.alloc (.cells #[] 2 (0, 0))) := by
    unfold execOp
    simp only [hop]
    simp [go_sem]
  have he : (execOp a.eval o).events Try.prog w #[] = #[] := by
    unfold execOp
    simp only [hop]
    simp [go_sem]
  rw [stepG_value ho hw hk hr]
  unfold listed
  rw [he, seen_none]
end
theorem bodyPost_mono {P : Program} {fn : Func} {R R' : Ending → World → Prop} (h : ∀ v w, R (.returned v) w → R' (.returned v) w) (hp : ∀ e w, R e w → ∃ v, e = .returned v) : ∀ e a w, bodyPost P fn R e a w → bodyPost P fn R' e a w := by
  intro e a w q
  cases e with
  | normal => obtain ⟨h1, v, h2, h3⟩ := q; exact ⟨h1, v, h2, h _ _ h3⟩
  | ret => obtain ⟨h1, v, h2, h3⟩ := q; exact ⟨h1, v, h2, h _ _ h3⟩
  | panic ch => obtain ⟨_, hv⟩ := q; obtain ⟨v, e⟩ := hp _ _ hv; cases e
  | exit id => exact q.elim
  | goto l => exact q.elim
  | outgrown => obtain ⟨v, e⟩ := hp _ _ q; cases e
end Go.Proofs.Ytpmmimcafkillaa.Tr
