/-
  A list's samples from the last to the first: the library's iterator.
-/
import Derived.Test.YtmpbcmpjfcddoaaFlP
import Derived.RangeFuncNested
import Derived.RangeFuncBound
import Derived.RangeFuncCalls
import Derived.RangeFuncLeaves
import Derived.Shelf.Abstract
import Derived.Shelf.RegionOpen
import Derived.WalkKit
import Derived.OwnWalkIn
import Derived.TacticsInMore
import Derived.LoopNIn
import Derived.LoopIn
import Derived.OrdersIn
import Derived.Scope
namespace Go.Proofs.Ytmpbcmpjfcddoaa
open Go.RowKit Go.Shelf
set_option linter.unusedVariables false
set_option linter.unusedSimpArgs false
namespace D

attribute [local go_sem] Oper.semAt_some
def kAt (l : List Kl) (k : Nat) : Kl := l.getD k (0, 0, 0, 0, 0)
theorem kAt_get {l : List Kl} {k : Nat} (h : k < l.length) : l[k]? = some (kAt l k) := by
  unfold kAt; simp [List.getD, h]
theorem kAt_eq {l : List Kl} {k : Nat} {c : Kl} (h : l[k]? = some c) : kAt l k = c := by unfold kAt; simp [List.getD, h]
theorem fin_take {n k : Nat} (hk : k < n) : (List.finRange n).take (k + 1) = (List.finRange n).take k ++ [⟨k, hk⟩] := by
  rw [List.take_add_one]
  have : (List.finRange n)[k]? = some ⟨k, hk⟩ := by
    rw [List.getElem?_eq_getElem (by simpa using hk)]; simp
  rw [this]; rfl
/-- the blocks that p names lie as they lay -/
def KeepP (p : Nat → Prop) (W W' : World) : Prop := W.heap.size ≤ W'.heap.size ∧ ∀ (k : Nat) (o : Obj), p k → W.heap[k]? = some o → W'.heap[k]? = some o
theorem KeepP.trans {p : Nat → Prop} {X Y Z : World} (h : KeepP p X Y) (k : KeepP p Y Z) : KeepP p X Z := ⟨Nat.le_trans h.1 k.1, fun i o hp hi => k.2 i o hp (h.2 i o hp hi)⟩
theorem KeepP.cell {p : Nat → Prop} {X Y : World} {b o : Nat} {v : Value} (h : KeepP p X Y) (hb : p b) (hc : X.cell? ⟨b, o, none⟩ = some v) : Y.cell? ⟨b, o, none⟩ = some v := by
  obtain ⟨x, hx, hcx⟩ := cells_of_cell hc
  exact (World.cell?_of_block (a := ⟨b, o, none⟩) ((h.2 b x hb hx).trans hx.symm)).trans hc
def bwv (l : List Kl) (k : Nat) : Array Value := #[.int .i64 ((l.length : Int) - 1 - k), .agg #[.int .i64 (kAt l (l.length - 1 - k)).1, .int .i64 (kAt l (l.length - 1 - k)).2.1, .int .i64 (kAt l (l.length - 1 - k)).2.2.1, .int .i64 (kAt l (l.length - 1 - k)).2.2.2.1, .int .i64 (kAt l (l.length - 1 - k)).2.2.2.2]]

set_option maxRecDepth 100000 in
set_option maxHeartbeats 4000000 in
theorem backward_in (n l0 gg Bs : Nat) (cap : Nat) (l : List Kl) (hl : l.length ≤ 300) (w0 W : World) (hk : Kls w0 (some ⟨gg, 0, none⟩) l) (hgg : gg < w0.heap.size) (hWk : Below w0.heap.size w0 W) (hBs : W.cell? ⟨Bs, 0, none⟩ = some (.slice (some ⟨gg, 0, none⟩) l.length cap))
    (J Jx : List (Fin l.length) → World → Prop)
    (hY : ∀ pre x W1, J pre W1 → pre.length < l.length → YieldAt Fence.wide (n - 1) Try.prog l0 (bwv l x.1) W1 fun e W' =>
      (e = .returned (.bool true) ∧ J (pre ++ [x]) W' ∧ KeepP (fun k => k = gg ∨ k = Bs) W1 W') ∨ (e = .returned (.bool false) ∧ Jx (pre ++ [x]) W'))
    (h0 : J [] W) :
    CallsIn Fence.wide n Try.prog 37 #[.func (.yield l0) #[] #[], .pointer (some ⟨Bs, 0, none⟩)] W fun e W' => (∃ v, e = .returned v) ∧ ((∃ xs, xs = List.finRange l.length ∧ J xs W') ∨ (∃ pre, (∃ k, k ≤ l.length ∧ pre = (List.finRange l.length).take k) ∧ Jx pre W')) := by
  refine callsIn_of_wp Try.func37 rfl trivial ?_ rfl
  simp only [Try.ntmps37, List.size_toArray, List.length_cons, List.length_nil, Nat.reduceAdd, Nat.reduceSub, Array.replicate_succ, Array.replicate_zero, List.push_toArray, List.append_toArray, List.nil_append, List.cons_append]
  have hk' := hide hk
  have hY' := hide hY
  have h0' := hide h0
  have hKP := hide (show ∀ o v, w0.cell? ⟨gg, o, none⟩ = some v → W.cell? ⟨gg, o, none⟩ = some v from fun o v hc => (hWk.cell (p := ⟨gg, o, none⟩) hgg).trans hc)
  clear hk hY h0 hWk
  gi_wp2
  gi_loopw [3] (fun i wr => ∃ (k : Nat) (j : Int), k ≤ l.length ∧ i = .int .i64 j ∧ Hid (j = (l.length : Int) - 1 - k) ∧ Hid (J ((List.finRange l.length).take k) wr) ∧ wr.cell? ⟨Bs, 0, none⟩ = some (.slice (some ⟨gg, 0, none⟩) l.length cap) ∧ Hid (∀ o v, w0.cell? ⟨gg, o, none⟩ = some v → wr.cell? ⟨gg, o, none⟩ = some v))
    (fun i _ => (intOf i + 1).toNat)
  case atStart => exact ⟨0, _, Nat.zero_le _, rfl, hide (by simp), hide (by simpa using unhide h0'), hBs, hKP⟩
  case round =>
    clear h0' hBs hKP
    obtain ⟨k, j, hkl, rfl, hj, hJs, hBs, hKP⟩ := hrel
    by_cases hlt : k < l.length
    · obtain ⟨I, hI⟩ : ∃ I : Nat, j = I := ⟨l.length - 1 - k, by have := unhide hj; omega⟩
      subst hI
      have hIe : I = l.length - 1 - k := by have := unhide hj; omega
      have hIl : I < l.length := by omega
      obtain ⟨⟨x0, x1, x2, x3, x4⟩, hx⟩ : ∃ x, l[I]? = some x := ⟨l[I], List.getElem?_eq_getElem hIl⟩
      obtain ⟨b, o, hbe, hb, c0, c1, c2, c3, c4⟩ := unhide hk' I _ hx
      cases hbe
      have d0 := unhide hKP _ _ c0
      have d1 := unhide hKP _ _ c1
      have d2 := unhide hKP _ _ c2
      have d3 := unhide hKP _ _ c3
      have d4 := unhide hKP _ _ c4
      simp only [Nat.zero_add] at d0 d1 d2 d3 d4
      obtain ⟨fn, tmps, assign, body, hy, hR⟩ := (unhide hY') _ ⟨k, hlt⟩ wr (unhide hJs) (by rw [List.length_take, List.length_finRange]; omega)
      have hpv : bwv l k = #[.int .i64 (I : Int), .agg #[.int .i64 x0, .int .i64 x1, .int .i64 x2, .int .i64 x3, .int .i64 x4]] := by
        unfold bwv
        rw [← hIe, kAt_eq hx]
        have : (l.length : Int) - 1 - (k : Int) = (I : Int) := by omega
        rw [this]
      have hy' : (Instr.yield l0 #[.int .i64 (I : Int), .agg #[.int .i64 x0, .int .i64 x1, .int .i64 x2, .int .i64 x3, .int .i64 x4]]).run Try.prog wr = .ok (.round l0 fn tmps assign body) wr := by rw [← hpv]; exact hy
      have hIe' := hide hIe
      clear hy hx hpv c0 c1 c2 c3 c4 hj hIe
      gi_wp2_with fail
      refine ⟨fun h => by simp [Fence.wide] at h, hR.mono ?_⟩
      rintro e W3 (⟨rfl, hJ3, hk3⟩ | ⟨rfl, hJx3⟩)
      · have hB3 := hk3.cell (.inr rfl) hBs
        have hKP3 := hide (fun o' v' hc' => hk3.cell (b := gg) (.inl rfl) (unhide hKP o' v' hc'))
        have hJ3' := hide hJ3
        clear d0 d1 d2 d3 d4 hy' hR hJs hKP hJ3 hk3 hBs
        gi_wp2
        go_roundw
        case rel => exact ⟨k + 1, (I : Int) - 1, by omega, by go_num, hide (by have := unhide hIe'; omega), hide (by rw [fin_take hlt]; exact unhide hJ3'), hB3, hKP3⟩
        case measure => first | (simp [intOf]; done) | (simp [intOf]; omega)
      · gi_wp2
        refine bodyPost_ret (results_none rfl _ _ _) rfl ?_
        exact ⟨⟨_, rfl⟩, .inr ⟨_, ⟨k + 1, by omega, (fin_take hlt).symm⟩, hJx3⟩⟩
    · have hke : k = l.length := by omega
      have hj2 : j = -1 := by have := unhide hj; omega
      subst hj2
      gi_wp2
      go_end0
      refine ⟨⟨_, rfl⟩, .inl ⟨_, rfl, ?_⟩⟩
      have := unhide hJs
      rw [hke, List.take_of_length_le (by simp)] at this
      exact this

theorem backward_stops (n gg Bs : Nat) (cap : Nat) (l : List Kl) (hl : l.length ≤ 300) (w0 w : World) (hk : Kls w0 (some ⟨gg, 0, none⟩) l) (hgg : gg < w0.heap.size) (hWk : Below w0.heap.size w0 w) (hBl : Bs < w.heap.size) (hBs : w.cell? ⟨Bs, 0, none⟩ = some (.slice (some ⟨gg, 0, none⟩) l.length cap)) :
    SeqStopsK Fence.wide n Try.prog 37 #[.pointer (some ⟨Bs, 0, none⟩)] (fun x : Fin l.length => bwv l x.1) (KeepP (fun k => k = gg ∨ k = Bs)) (fun xs => xs = List.finRange l.length) (fun pre => ∃ k, k ≤ l.length ∧ pre = (List.finRange l.length).take k) l.length w :=
  fun l0 J Jx W hW hJ hJx hY h0 => backward_in n l0 gg Bs cap l hl w0 W hk hgg (hWk.trans (hW.mono hWk.size)) ((hW.cell (p := ⟨Bs, 0, none⟩) hBl).trans hBs) J Jx hY h0

set_option maxHeartbeats 1000000 in
theorem backward_any (a : Option Addr) (len cap : Nat) (w : World) :
    Calls Try.prog 24 #[.slice a len cap] w fun e w' => e = .returned (.func (.func 37) #[] #[.pointer (some ⟨w.heap.size, 0, none⟩)]) ∧ w' = w.alloc (.cells #[.slice a len cap] 24) := by
  go_enter Try.func24, Try.ntmps24
  go_wp2
  go_ret
  exact ⟨rfl, rfl⟩

end D
end Go.Proofs.Ytmpbcmpjfcddoaa
