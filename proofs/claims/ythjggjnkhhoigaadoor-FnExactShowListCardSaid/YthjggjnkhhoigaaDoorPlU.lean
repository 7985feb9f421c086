/-
  The clips of a list, each with the frame that it begins at: the iterator's contract, where its user writes one variable, one builder and rows of bytes.
-/
import Derived.Test.YthjggjnkhhoigaaDoorICw
import Derived.Test.YthjggjnkhhoigaaDoorJn2
import Derived.RangeFuncNested
import Derived.RangeFuncBound
import Derived.RangeFuncCalls
import Derived.RangeFuncLeaves
import Derived.Shelf.Abstract
import Derived.Shelf.RegionOpen
import Derived.OwnWalkIn
import Derived.TacticsInMore
import Derived.LoopNIn
import Derived.LoopIn
import Derived.OrdersIn
namespace Go.Proofs.YthjggjnkhhoigaaDoor
open Go.RowKit Go.Shelf
set_option linter.unusedVariables false
set_option linter.unusedSimpArgs false
attribute [local go_sem] Oper.semAt_some

theorem fin_take {n k : Nat} (hk : k < n) : (List.finRange n).take (k + 1) = (List.finRange n).take k ++ [⟨k, hk⟩] := by
  rw [List.take_add_one]
  have : (List.finRange n)[k]? = some ⟨k, hk⟩ := by
    rw [List.getElem?_eq_getElem (by simpa using hk)]; simp
  rw [this]; rfl
/-- no row of bytes -/
def NoB (o : Obj) : Prop := o.isCells = true ∧ ∀ c fz, o ≠ .cells c 5 fz
/-- whatever is cells and no row of bytes lies as it lay, but the blocks L and b -/
def KeepU (L b : Nat) (X Y : World) : Prop := X.heap.size ≤ Y.heap.size ∧ ∀ (k : Nat) (o : Obj), X.heap[k]? = some o → NoB o → k ≠ L → k ≠ b → Y.heap[k]? = some o
theorem KeepU.refl (L b : Nat) (W : World) : KeepU L b W W := ⟨Nat.le_refl _, fun _ _ h _ _ _ => h⟩
theorem KeepU.trans {L b : Nat} {X Y Z : World} (h : KeepU L b X Y) (k : KeepU L b Y Z) : KeepU L b X Z := ⟨Nat.le_trans h.1 k.1, fun i o hi hc h1 h2 => k.2 i o (h.2 i o hi hc h1 h2) hc h1 h2⟩
theorem KeepU.putObj {L b l : Nat} {W : World} {o o' : Obj} (h : W.heap[l]? = some o) (ho : o.isCells = false) : KeepU L b W (W.putObj l o') :=
  ⟨by simp, fun k x hk hc _ _ => by
    by_cases e : k = l
    · subst e; rw [h] at hk; cases hk; have h9 := hc.1; rw [ho] at h9; cases h9
    · exact (World.putObj_heap_other e).trans hk⟩
theorem KeepU.below {L b : Nat} {X Y : World} (hb : Below X.heap.size X Y) : KeepU L b X Y :=
  ⟨hb.size, fun k o hk hc h1 h2 => (hb.block k (Array.getElem?_eq_some_iff.1 hk).1).trans hk⟩
theorem KeepU.set {L b : Nat} (X : World) (o : Nat) (v : Value) : KeepU L b X (X.setCell ⟨L, o, none⟩ v) :=
  ⟨by simp [World.setCell], fun k x hk hc h1 h2 => (Below.heap_setCell X ⟨L, o, none⟩ v k (by simpa using h1)).trans hk⟩
theorem KeepU.others {L b : Nat} {X Y : World} (h : Lib.OthersKept 5 (some b) X Y) (hs : X.heap.size ≤ Y.heap.size) : KeepU L b X Y :=
  ⟨hs, fun k o hk hc h1 h2 => h k o hk (by simpa using h2) hc.2⟩
theorem keepU_alloc {L b : Nat} (W : World) (o : Obj) : KeepU L b W (W.alloc o) := KeepU.below ((Below.refl _ W).alloc (Nat.le_refl _) o)
theorem keepOthers_below {X Y : World} (hb : Below X.heap.size X Y) : KeepsOthers X Y := ⟨hb.size, fun k o hk _ => (hb.block k (Array.getElem?_eq_some_iff.1 hk).1).trans hk⟩
theorem keepOthers_oth {b : Nat} {X Y : World} {c : Array Value} {t : TypeId} {fz : Nat × Nat} (hb : X.heap[b]? = some (.cells c t fz)) (h : Lib.OthersKept 5 (some b) X Y) (hs : X.heap.size ≤ Y.heap.size) : KeepsOthers X Y :=
  ⟨hs, fun k o hk ho => h k o hk (fun e => by injection e with e; subst e; rw [hb] at hk; cases hk; cases ho) (fun c fz e => by subst e; cases ho)⟩
theorem noB_of (c : Array Value) (t : TypeId) (fz : Nat × Nat) (h : t ≠ 5) : NoB (.cells c t fz) := ⟨rfl, fun _ _ e => by injection e with _ e _; exact h e⟩
/-- what the iterator hands over -/
def plv (l : List Kl) (k : Nat) : Array Value := #[.int .i64 (clen (l.take k)), .agg #[.int .i64 (kAt l k).1, .int .i64 (kAt l k).2.1, .int .i64 (kAt l k).2.2]]

theorem keepU_blk {L b k : Nat} {X Y : World} {o : Obj} (h : KeepU L b X Y) (hk : X.heap[k]? = some o) (hn : NoB o) (h1 : k ≠ L) (h2 : k ≠ b) : Y.heap[k]? = some o := h.2 k o hk hn h1 h2
/-- the clips l behind the address a, in a row of clips, not in the blocks L and b -/
def KlsU (L b : Nat) (w : World) (a : Option Addr) (l : List Kl) : Prop := Kls w a l ∧ (l ≠ [] → ∀ g o, a = some ⟨g, o, none⟩ → g ≠ L ∧ g ≠ b ∧ ∃ c fz, w.heap[g]? = some (.cells c 38 fz))
theorem KlsU.keep {L b : Nat} {X Y : World} {a : Option Addr} {l : List Kl} (h : KlsU L b X a l) (hk : KeepU L b X Y) : KlsU L b Y a l := by
  refine ⟨fun j x hx => ?_, fun hn g o e => ?_⟩
  · obtain ⟨g, o, e, h1, c0, c1, c2⟩ := h.1 j x hx
    obtain ⟨n1, n2, c, fz, hb⟩ := h.2 (by intro hn; rw [hn] at hx; simp at hx) g o e
    have hY := hk.2 g _ hb (noB_of _ _ _ (by decide)) n1 n2
    have C : ∀ o, Y.cell? ⟨g, o, none⟩ = X.cell? ⟨g, o, none⟩ := fun o => World.cell?_of_block (a := ⟨g, o, none⟩) (hY.trans hb.symm)
    exact ⟨g, o, e, Nat.lt_of_lt_of_le h1 hk.1, (C _).trans c0, (C _).trans c1, (C _).trans c2⟩
  · obtain ⟨n1, n2, c, fz, hb⟩ := h.2 hn g o e
    exact ⟨n1, n2, c, fz, hk.2 g _ hb (noB_of _ _ _ (by decide)) n1 n2⟩
theorem keepU_b {L b : Nat} {w : World} (W : World) (l : Nat) (o o' : Obj) (hl : w.heap.size ≤ l) (h : W.heap[l]? = some o) (ho : o.isCells = false) (_ : o.isWalk = false) : KeepU L b W (W.putObj l o') := KeepU.putObj h ho

set_option maxRecDepth 100000 in
set_option maxHeartbeats 4000000 in
theorem placed_in (n l0 L b Bs : Nat) (a : Option Addr) (cap : Nat) (l : List Kl) (hl : l.length ≤ 300) (hA : AOk l) (W : World) (hk : KlsU L b W a l) (hL2 : L < W.heap.size) (hA2 : b < W.heap.size) (hBs : W.cell? ⟨Bs, 0, none⟩ = some (.slice a l.length cap))
    (J Jx : List (Fin l.length) → World → Prop) (hJ : ∀ s X Y, J s X → X.grownBy Y none → J s Y)
    (hY : ∀ pre x W1, J pre W1 → pre.length < l.length → YieldAt Fence.wide (n - 1) Tryd.prog l0 (plv l x.1) W1 fun e W' =>
      (e = .returned (.bool true) ∧ J (pre ++ [x]) W' ∧ KeepU L b W1 W') ∨ (e = .returned (.bool false) ∧ Jx (pre ++ [x]) W'))
    (h0 : J [] W) :
    CallsIn Fence.wide n Tryd.prog 33 #[.func (.yield l0) #[] #[], .pointer (some ⟨Bs, 0, none⟩)] W fun e W' => (∃ v, e = .returned v) ∧ ((∃ xs, xs = List.finRange l.length ∧ J xs W') ∨ (∃ pre, (∃ k, k ≤ l.length ∧ pre = (List.finRange l.length).take k) ∧ Jx pre W')) := by
  refine callsIn_of_wp Tryd.func33 rfl trivial ?_ rfl
  simp only [Tryd.ntmps33, List.size_toArray, List.length_cons, List.length_nil, Nat.reduceAdd, Nat.reduceSub, Array.replicate_succ, Array.replicate_zero, List.push_toArray, List.append_toArray, List.nil_append, List.cons_append]
  have hk' := hide hk
  have hA' := hide hA
  have hY' := hide hY
  have hJ' := hide hJ
  have h0' := hide h0
  clear hk hA hY hJ h0
  gi_wp2
  gi_loopw [3, 8] (fun s i wr => ∃ k : Nat, k ≤ l.length ∧ i = .int .i64 k ∧ s = .int .i64 (clen (l.take k)) ∧ Hid (J ((List.finRange l.length).take k) wr) ∧ Hid (KlsU L b wr a l) ∧ L < wr.heap.size ∧ b < wr.heap.size)
    (fun _ i _ => l.length - (intOf i).toNat)
  case atStart => exact ⟨0, Nat.zero_le _, rfl, by simp [clen], hide (by simpa using unhide h0'), hk', hL2, hA2⟩
  case round =>
    clear h0' hk' hL2 hA2 hBs
    obtain ⟨k, hkl, rfl, rfl, hJs, hks, hLw, hAw⟩ := hrel
    by_cases hlt : k < l.length
    · obtain ⟨g, o, x1, x2, x3, rfl, hx, d0, d1, d2⟩ := kls_at (unhide hks).1 (Below.refl _ _) hlt
      have hc := (unhide hA') _ (List.mem_of_getElem? hx)
      obtain ⟨n0, n1, i0, i1, _⟩ := hc
      simp only at n0 n1 i0 i1
      obtain ⟨q0, q1⟩ := take_bd ((unhide hA').take k) hkl
      obtain ⟨W1, hW1⟩ : ∃ W1, wr.alloc (.cells #[.int .i64 x1, .int .i64 x2, .int .i64 x3] 38) = W1 := ⟨_, rfl⟩
      have hg1 : wr.grownBy W1 none := by rw [← hW1]; exact World.grownBy_alloc _ _ _
      have hJ1 := (unhide hJ') _ _ _ (unhide hJs) hg1
      have hc1 : W1.heap[wr.heap.size]? = some (.cells #[.int .i64 x1, .int .i64 x2, .int .i64 x3] 38 (0, 0)) := by rw [← hW1]; exact World.alloc_heap_new _ _
      have hkX : KeepU L b wr W1 := by rw [← hW1]; exact keepU_alloc _ _
      obtain ⟨fn, tmps, assign, body, hy, hR⟩ := (unhide hY') _ ⟨k, hlt⟩ W1 hJ1 (by rw [List.length_take, List.length_finRange]; omega)
      have hpv : plv l k = #[.int .i64 (clen (l.take k)), .agg #[.int .i64 x1, .int .i64 x2, .int .i64 x3]] := by unfold plv; rw [kAt_eq hx]
      have hy' : (Instr.yield l0 #[.int .i64 (clen (l.take k)), .agg #[.int .i64 x1, .int .i64 x2, .int .i64 x3]]).run Tryd.prog W1 = .ok (.round l0 fn tmps assign body) W1 := by rw [← hpv]; exact hy
      have ho := hide (clen_take hx)
      have hg1' := hide hg1
      have hc1' := hide hc1
      have hkX' := hide hkX
      clear hy hg1 hc1 hJ1 hx hkX hpv
      generalize clen (l.take k) = ck at *
      subst hW1
      gi_wp2_with fail
      refine ⟨fun h => by simp [Fence.wide] at h, hR.mono ?_⟩
      rintro e W3 (⟨rfl, hJ3, hk3⟩ | ⟨rfl, hJx3⟩)
      · have C3 := hk3.2 _ _ (unhide hc1') (noB_of _ _ _ (by decide)) (by omega) (by omega)
        have hks3 := hide (((unhide hks).keep (unhide hkX')).keep hk3)
        have hA3 : b < W3.heap.size := Nat.lt_of_lt_of_le (Nat.lt_of_lt_of_le hAw (unhide hkX').1) hk3.1
        have hL3 : L < W3.heap.size := Nat.lt_of_lt_of_le (Nat.lt_of_lt_of_le hLw (unhide hkX').1) hk3.1
        obtain ⟨z0, z1, z2⟩ := blk3 C3
        have hJ3' := hide hJ3
        clear d0 d1 d2 hy' hR hg1' hc1' hJs hks hJ3 hk3 C3 hkX'
        generalize wr.heap.size = cb at *
        gi_wp2
        go_roundw
        case rel => exact ⟨k + 1, by omega, by go_num, by rw [unhide ho], hide (by rw [fin_take hlt]; exact unhide hJ3'), hks3, hL3, hA3⟩
        case measure => simp [intOf]; omega
      · gi_wp2
        refine bodyPost_ret (results_none rfl _ _ _) rfl ?_
        exact ⟨⟨_, rfl⟩, .inr ⟨_, ⟨k + 1, by omega, (fin_take hlt).symm⟩, hJx3⟩⟩
    · have hke : k = l.length := by omega
      clear hks
      gi_wp2
      go_end0
      refine ⟨⟨_, rfl⟩, .inl ⟨_, rfl, ?_⟩⟩
      have := unhide hJs
      rw [hke, List.take_of_length_le (by simp)] at this
      exact this

theorem placed_stops (n L b Bs : Nat) (a : Option Addr) (cap : Nat) (l : List Kl) (hl : l.length ≤ 300) (hA : AOk l) (w : World) (hk : KlsU L b w a l) (hL2 : L < w.heap.size) (hA2 : b < w.heap.size) (hBl : Bs < w.heap.size) (hBs : w.cell? ⟨Bs, 0, none⟩ = some (.slice a l.length cap)) :
    SeqStopsK Fence.wide n Tryd.prog 33 #[.pointer (some ⟨Bs, 0, none⟩)] (fun x : Fin l.length => plv l x.1) (KeepU L b) (fun xs => xs = List.finRange l.length) (fun pre => ∃ k, k ≤ l.length ∧ pre = (List.finRange l.length).take k) l.length w :=
  fun l0 J Jx W hW hJ hJx hY h0 => placed_in n l0 L b Bs a cap l hl hA W (hk.keep (KeepU.below hW)) (Nat.lt_of_lt_of_le hL2 hW.size) (Nat.lt_of_lt_of_le hA2 hW.size) ((hW.cell (p := ⟨Bs, 0, none⟩) hBl).trans hBs) J Jx (fun s X Y h hg => hJ s X Y none h hg (fun r e => by cases e)) hY h0

set_option maxHeartbeats 1000000 in
theorem placed_any (a : Option Addr) (len cap : Nat) (w : World) :
    Calls Tryd.prog 19 #[.slice a len cap] w fun e w' => e = .returned (.func (.func 33) #[] #[.pointer (some ⟨w.heap.size, 0, none⟩)]) ∧ w' = w.alloc (.cells #[.slice a len cap] 43) := by
  go_enter Tryd.func19, Tryd.ntmps19
  go_wp2
  go_ret
  exact ⟨rfl, rfl⟩

end Go.Proofs.YthjggjnkhhoigaaDoor
