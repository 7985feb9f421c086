/-
  Whatever the draws: what the law's lone functions answer; steps of control.
-/
import Derived.Test.YtpmmimcafkillaaZJbS
set_option linter.unusedVariables false
set_option linter.unusedSimpArgs false
namespace Go.Proofs.Ytpmmimcafkillaa.Tr
open Go Go.Conc Go.RowKit
open Go.Proofs.Ytpmmimcafkillaa.Br (BT BTS Hd Hid Pz Pst Shn Thr EvN bt_ctl bt_cons bt_skip bt_call bt_callB bt_enter CallsB rt AtEnd0)
open Go.Proofs.Ytpmmimcafkillaa.Rs (Rule outOf out_at out_len resR crR dtR hst gmx)
open Go.Proofs.Ytpmmimcafkillaa (Tv Tks Ins jobOk job_tok TOk job_short tot szts_any tots_any eqts_any tot_mem)
/-! the law's lone functions, whatever the draws -/
theorem BelL.rtt {N : Nat} {w w' : World} {T : Nat → Question → Nat} {d : Nat} (h : BelL N w w') : BelL N w (Br.rt T d w') := ⟨h.os, h.output, h.size, h.block⟩
def RSz (w : World) (ts : List Tv) (v : Value) (w' : World) : Prop := ∃ r, v = .int .i64 r ∧ (r = -1 ∨ (0 ≤ r ∧ r = 1048576 - ts.length - tot ts)) ∧ BelL w.heap.size w w'
theorem RSz.rt {w w' : World} {ts : List Tv} {v : Value} {T : Nat → Question → Nat} {d : Nat} (h : RSz w ts v w') : RSz w ts v (Br.rt T d w') := let ⟨r, h1, h2, h3⟩ := h; ⟨r, h1, h2, h3.rtt⟩
def RTo (w : World) (ts : List Tv) (v : Value) (w' : World) : Prop := ∃ B, v = .slice (some ⟨B, 0, none⟩) ts.length ts.length ∧ Tks w' (some ⟨B, 0, none⟩) ts ∧ BelL w.heap.size w w'
theorem RTo.rt {w w' : World} {ts : List Tv} {v : Value} {T : Nat → Question → Nat} {d : Nat} (h : RTo w ts v w') : RTo w ts v (Br.rt T d w') := let ⟨r, h1, h2, h3⟩ := h; ⟨r, h1, h2, h3.rtt⟩
def RTr (w : World) (v : Value) (w' : World) : Prop := v = .bool true ∧ BelL w.heap.size w w'
theorem RTr.rt {w w' : World} {v : Value} {T : Nat → Question → Nat} {d : Nat} (h : RTr w v w') : RTr w v (Br.rt T d w') := ⟨h.1, h.2.rtt⟩
section
variable {ts : List Tv} {w : World} {a : Option Addr} {cap : Nat}
theorem szts_B (hl : ts.length ≤ maxLen) (hT : Tks w a ts) (T : Nat → Question → Nat) (d : Nat) : Calls Try.prog 23 #[.slice a ts.length cap, .int .i64 1048576] (rt T d w) fun e w' => ∃ v, e = .returned v ∧ RSz w ts v w' :=
  calls_imp (szts_any a cap ts (rt T d w) hl hT 1048576 (by omega) (by omega)) fun e w' ⟨r, h1, h2, h3⟩ => ⟨_, h1, r, rfl, h2, belL_any (w := w) h3⟩
theorem tots_B (hl : ts.length ≤ 1048576) (hm : ∀ t ∈ ts, t.2.2.1.length ≤ 1048576) (hx : ∀ t ∈ ts, t.2.2.1.length ≤ maxLen) (hT : Tks w a ts) (T : Nat → Question → Nat) (d : Nat) : Calls Try.prog 24 #[.slice a ts.length cap] (rt T d w) fun e w' => ∃ v, e = .returned v ∧ RTo w ts v w' :=
  calls_imp (tots_any a cap ts (rt T d w) hl hm hT) fun e w' ⟨B, h1, h2, h3⟩ => ⟨_, h1, B, rfl, h2.tks hx, belL_any (w := w) h3⟩
theorem eqts_B {b : Option Addr} {cb : Nat} (hl : ts.length ≤ 1048576) (hm : ∀ t ∈ ts, t.2.2.1.length ≤ 1048576) (hT : Tks w a ts) (hT2 : Tks w b ts) (T : Nat → Question → Nat) (d : Nat) : Calls Try.prog 26 #[.slice a ts.length cap, .slice b ts.length cb] (rt T d w) fun e w' => ∃ v, e = .returned v ∧ RTr w v w' :=
  calls_imp (eqts_any a b cap cb ts (rt T d w) hl hm hT hT2) fun e w' ⟨h1, h3⟩ => ⟨_, h1, rfl, belL_any (w := w) h3⟩
end
theorem zF23 : Zg.F 23 = true := by kernel_rfl
theorem zF24 : Zg.F 24 = true := by kernel_rfl
theorem zF26 : Zg.F 26 = true := by kernel_rfl
theorem nm14 : (Try.f14.name == "runtime.NumGoroutine") = false := by kernel_rfl
theorem b14 : Try.f14.body.isNone = false := by kernel_rfl
def PostL (W : World) (v : Value) (w' : World) : Prop := v = .bool true ∧ BelL W.heap.size W w'
theorem tks_maxL {w : World} {a : Option Addr} {ts : List Tv} (h : Tks w a ts) : ∀ t ∈ ts, t.2.2.1.length ≤ maxLen := by
  intro t ht
  obtain ⟨j, hj⟩ := List.getElem?_of_mem ht
  obtain ⟨_, _, _, _, _, _, _, _, _, _, _, h4⟩ := h j t hj
  exact h4
end Go.Proofs.Ytpmmimcafkillaa.Tr
