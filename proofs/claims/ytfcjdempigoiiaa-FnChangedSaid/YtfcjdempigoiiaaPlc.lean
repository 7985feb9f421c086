/-
  The clips of a list, each with the frame that it begins at: the iterator's contract.
-/
import Derived.Test.YtfcjdempigoiiaaApP
import Derived.Test.YtfcjdempigoiiaaAlP
import Derived.Test.YtfcjdempigoiiaaTrk
namespace Go.Proofs.Ytfcjdempigoiiaa
open Go.RowKit Go.Shelf
set_option linter.unusedVariables false
set_option linter.unusedSimpArgs false
attribute [local go_sem] Oper.semAt_some

def kAt (l : List Kl) (k : Nat) : Kl := l.getD k (0, 0, 0)
theorem kAt_get {l : List Kl} {k : Nat} (h : k < l.length) : l[k]? = some (kAt l k) := by
  unfold kAt; rw [List.getD_eq_getElem?_getD, List.getElem?_eq_getElem h]; rfl
theorem kAt_eq {l : List Kl} {k : Nat} {c : Kl} (h : l[k]? = some c) : kAt l k = c := by unfold kAt; simp [List.getD, h]
/-- what the iterator hands over -/
def plv (l : List Kl) (k : Nat) : Array Value := #[.int .i64 (clen (l.take k)), .agg #[.int .i64 (kAt l k).1, .int .i64 (kAt l k).2.1, .int .i64 (kAt l k).2.2]]

theorem keepX_cell {A b o : Nat} {X Y : World} {v : Value} (h : KeepX A A X Y) (hb : b ≠ A) (hc : X.cell? ⟨b, o, none⟩ = some v) : Y.cell? ⟨b, o, none⟩ = some v := by
  obtain ⟨x, hx, hcx⟩ := cells_of_cell hc
  exact (World.cell?_of_block (a := ⟨b, o, none⟩) ((h.2 b x hx hcx hb hb).trans hx.symm)).trans hc
theorem blk3' {X : World} {b : Nat} {t : TypeId} {v0 v1 v2 : Value} (h : X.heap[b]? = some (.cells #[v0, v1, v2] t (0, 0))) :
    X.cell? ⟨b, 0, none⟩ = some v0 ∧ X.cell? ⟨b, 1, none⟩ = some v1 ∧ X.cell? ⟨b, 2, none⟩ = some v2 := by
  refine ⟨?_, ?_, ?_⟩ <;> simp [World.cell?, h]
/-- the clips l behind the address a, not in block A -/
def KlsX (A : Nat) (w : World) (a : Option Addr) (l : List Kl) : Prop := Kls w a l ∧ (l ≠ [] → ∀ b o, a = some ⟨b, o, none⟩ → b ≠ A)
theorem KlsX.keep {A : Nat} {X Y : World} {a : Option Addr} {l : List Kl} (h : KlsX A X a l) (hk : KeepX A A X Y) : KlsX A Y a l := by
  refine ⟨fun j x hx => ?_, h.2⟩
  obtain ⟨b, o, e, h1, c0, c1, c2⟩ := h.1 j x hx
  have hb := h.2 (by intro hn; rw [hn] at hx; simp at hx) b o e
  exact ⟨b, o, e, Nat.lt_of_lt_of_le h1 hk.1, keepX_cell hk hb c0, keepX_cell hk hb c1, keepX_cell hk hb c2⟩
theorem keepX_b {A : Nat} {w : World} (W : World) (l : Nat) (o o' : Obj) (hl : w.heap.size ≤ l) (h : W.heap[l]? = some o) (ho : o.isCells = false) (_ : o.isWalk = false) : KeepX A A W (W.putObj l o') := KeepX.putObj h ho

set_option maxRecDepth 100000 in
set_option maxHeartbeats 4000000 in
theorem placed_in (n l0 A Bs : Nat) (a : Option Addr) (cap : Nat) (l : List Kl) (hl : l.length ≤ 300) (hA : AOk l) (W : World) (hk : KlsX A W a l) (hA2 : A < W.heap.size) (hBs : W.cell? ⟨Bs, 0, none⟩ = some (.slice a l.length cap))
    (J Jx : List (Fin l.length) → World → Prop) (hJ : ∀ s X Y, J s X → X.grownBy Y none → J s Y)
    (hY : ∀ pre x W1, J pre W1 → pre.length < l.length → YieldAt Fence.wide (n - 1) Try.prog l0 (plv l x.1) W1 fun e W' =>
      (e = .returned (.bool true) ∧ J (pre ++ [x]) W' ∧ KeepX A A W1 W') ∨ (e = .returned (.bool false) ∧ Jx (pre ++ [x]) W'))
    (h0 : J [] W) :
    CallsIn Fence.wide n Try.prog 68 #[.func (.yield l0) #[] #[], .pointer (some ⟨Bs, 0, none⟩)] W fun e W' => (∃ v, e = .returned v) ∧ ((∃ xs, xs = List.finRange l.length ∧ J xs W') ∨ (∃ pre, (∃ k, k ≤ l.length ∧ pre = (List.finRange l.length).take k) ∧ Jx pre W')) := by
  refine callsIn_of_wp Try.func68 rfl trivial ?_ rfl
  simp only [Try.ntmps68, List.size_toArray, List.length_cons, List.length_nil, Nat.reduceAdd, Nat.reduceSub, Array.replicate_succ, Array.replicate_zero, List.push_toArray, List.append_toArray, List.nil_append, List.cons_append]
  have hk' := hide hk
  have hA' := hide hA
  have hY' := hide hY
  have hJ' := hide hJ
  have h0' := hide h0
  clear hk hA hY hJ h0
  gi_wp2
  gi_loopw [3, 8] (fun s i wr => ∃ k : Nat, k ≤ l.length ∧ i = .int .i64 k ∧ s = .int .i64 (clen (l.take k)) ∧ Hid (J ((List.finRange l.length).take k) wr) ∧ Hid (KlsX A wr a l) ∧ A < wr.heap.size)
    (fun _ i _ => l.length - (intOf i).toNat)
  case atStart => exact ⟨0, Nat.zero_le _, rfl, by simp [clen], hide (by simpa using unhide h0'), hk', hA2⟩
  case round =>
    clear h0' hk' hA2 hBs
    obtain ⟨k, hkl, rfl, rfl, hJs, hks, hAw⟩ := hrel
    by_cases hlt : k < l.length
    · obtain ⟨b, o, x1, x2, x3, rfl, hx, d0, d1, d2⟩ := kls_at (unhide hks).1 (Below.refl _ _) hlt
      have hc := (unhide hA') _ (List.mem_of_getElem? hx)
      obtain ⟨n0, n1, i0, i1, _⟩ := hc
      simp only at n0 n1 i0 i1
      obtain ⟨q0, q1⟩ := take_bd ((unhide hA').take k) hkl
      obtain ⟨W1, hW1⟩ : ∃ W1, wr.alloc (.cells #[.int .i64 x1, .int .i64 x2, .int .i64 x3] 63) = W1 := ⟨_, rfl⟩
      have hg1 : wr.grownBy W1 none := by rw [← hW1]; exact World.grownBy_alloc _ _ _
      have hJ1 := (unhide hJ') _ _ _ (unhide hJs) hg1
      have hc1 : W1.heap[wr.heap.size]? = some (.cells #[.int .i64 x1, .int .i64 x2, .int .i64 x3] 63 (0, 0)) := by rw [← hW1]; exact World.alloc_heap_new _ _
      have hkX : KeepX A A wr W1 := by rw [← hW1]; exact keepX_alloc _ _
      obtain ⟨fn, tmps, assign, body, hy, hR⟩ := (unhide hY') _ ⟨k, hlt⟩ W1 hJ1 (by rw [List.length_take, List.length_finRange]; omega)
      have hpv : plv l k = #[.int .i64 (clen (l.take k)), .agg #[.int .i64 x1, .int .i64 x2, .int .i64 x3]] := by unfold plv; rw [kAt_eq hx]
      have hy' : (Instr.yield l0 #[.int .i64 (clen (l.take k)), .agg #[.int .i64 x1, .int .i64 x2, .int .i64 x3]]).run Try.prog W1 = .ok (.round l0 fn tmps assign body) W1 := by rw [← hpv]; exact hy
      have ho := hide (clen_take hx)
      have hg1' := hide hg1
      have hc1' := hide hc1
      have hkX' := hide hkX
      clear hy hg1 hc1 hJ1 hx hkX hpv
      generalize clen (l.take k) = ck at *
      subst hW1
      gi_wp2_with fail
      refine ⟨fun h => by simp [Fence.wide] at h, hR.mono ?_⟩
      rintro e W3 (⟨rfl, hJ3, hk3⟩ | ⟨rfl, hJx3⟩)
      · have C3 := hk3.2 _ _ (unhide hc1') rfl (by omega) (by omega)
        have hks3 := hide (((unhide hks).keep (unhide hkX')).keep hk3)
        have hA3 : A < W3.heap.size := Nat.lt_of_lt_of_le (Nat.lt_of_lt_of_le hAw (unhide hkX').1) hk3.1
        obtain ⟨z0, z1, z2⟩ := blk3' C3
        have hJ3' := hide hJ3
        clear d0 d1 d2 hy' hR hg1' hc1' hJs hks hJ3 hk3 C3 hkX'
        generalize wr.heap.size = cb at *
        gi_wp2
        go_roundw
        case rel => exact ⟨k + 1, by omega, by go_num, by rw [unhide ho], hide (by rw [fin_take hlt]; exact unhide hJ3'), hks3, hA3⟩
        case measure => simp [intOf]; omega
      · gi_wp2
        refine bodyPost_ret (results_none rfl _ _ _) rfl ?_
        exact ⟨⟨_, rfl⟩, .inr ⟨_, ⟨k + 1, by omega, (fin_take hlt).symm⟩, hJx3⟩⟩
    · have hke : k = l.length := by omega
      clear hks
      gi_wp2
      go_end0
      refine ⟨⟨_, rfl⟩, .inl ⟨_, rfl, ?_⟩⟩
      have := unhide hJs
      rw [hke, List.take_of_length_le (by simp)] at this
      exact this

theorem placed_stops (n A Bs : Nat) (a : Option Addr) (cap : Nat) (l : List Kl) (hl : l.length ≤ 300) (hA : AOk l) (w : World) (hk : KlsX A w a l) (hA2 : A < w.heap.size) (hBl : Bs < w.heap.size) (hBs : w.cell? ⟨Bs, 0, none⟩ = some (.slice a l.length cap)) :
    SeqStopsK Fence.wide n Try.prog 68 #[.pointer (some ⟨Bs, 0, none⟩)] (fun x : Fin l.length => plv l x.1) (KeepX A A) (fun xs => xs = List.finRange l.length) (fun pre => ∃ k, k ≤ l.length ∧ pre = (List.finRange l.length).take k) l.length w :=
  fun l0 J Jx W hW hJ hJx hY h0 => placed_in n l0 A Bs a cap l hl hA W ⟨hk.1.below hW, hk.2⟩ (Nat.lt_of_lt_of_le hA2 hW.size) ((hW.cell (p := ⟨Bs, 0, none⟩) hBl).trans hBs) J Jx (fun s X Y h hg => hJ s X Y none h hg (fun r e => by cases e)) hY h0

set_option maxHeartbeats 1000000 in
theorem placed_any (a : Option Addr) (len cap : Nat) (w : World) :
    Calls Try.prog 52 #[.slice a len cap] w fun e w' => e = .returned (.func (.func 68) #[] #[.pointer (some ⟨w.heap.size, 0, none⟩)]) ∧ w' = w.alloc (.cells #[.slice a len cap] 47) := by
  go_enter Try.func52, Try.ntmps52
  go_wp2
  go_ret
  exact ⟨rfl, rfl⟩

end Go.Proofs.Ytfcjdempigoiiaa
