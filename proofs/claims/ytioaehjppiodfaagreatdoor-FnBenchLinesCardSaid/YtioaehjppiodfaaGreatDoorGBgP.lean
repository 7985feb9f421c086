/-
  The clips of a list, each with the frame that it begins at: the iterator's contract.
  Plain facts: frames alike at the beginning, counted by the pieces that lie in one clip of each list.
-/
import Derived.Test.YtioaehjppiodfaaGreatDoorGIApL
import Derived.Test.YtioaehjppiodfaaGreatDoorGAlP
import Derived.Test.YtioaehjppiodfaaGreatDoorGOpn
namespace Go.Proofs.YtioaehjppiodfaaGreatDoor
open Go.RowKit Go.Shelf
set_option linter.unusedVariables false
set_option linter.unusedSimpArgs false
attribute [local go_sem] Oper.semAt_some

def kAt (l : List Kl) (k : Nat) : Kl := l.getD k (0, 0, 0)
theorem kAt_get {l : List Kl} {k : Nat} (h : k < l.length) : l[k]? = some (kAt l k) := by
  unfold kAt; rw [List.getD_eq_getElem?_getD, List.getElem?_eq_getElem h]; rfl
theorem kAt_eq {l : List Kl} {k : Nat} {c : Kl} (h : l[k]? = some c) : kAt l k = c := by unfold kAt; simp [List.getD, h]
/-- what the iterator hands over -/
def plv (l : List Kl) (k : Nat) : Array Value := #[.int .i64 (clen (l.take k)), .agg #[.int .i64 (kAt l k).1, .int .i64 (kAt l k).2.1, .int .i64 (kAt l k).2.2]]

theorem keepX_cell {A b o : Nat} {X Y : World} {v : Value} (h : KeepX A A X Y) (hb : b ≠ A) (hc : X.cell? ⟨b, o, none⟩ = some v) : Y.cell? ⟨b, o, none⟩ = some v := by
  obtain ⟨x, hx, hcx⟩ := cells_of_cell hc
  exact (World.cell?_of_block (a := ⟨b, o, none⟩) ((h.2 b x hx hcx hb hb).trans hx.symm)).trans hc
theorem blk3' {X : World} {b : Nat} {t : TypeId} {v0 v1 v2 : Value} (h : X.heap[b]? = some (.cells #[v0, v1, v2] t (0, 0))) :
    X.cell? ⟨b, 0, none⟩ = some v0 ∧ X.cell? ⟨b, 1, none⟩ = some v1 ∧ X.cell? ⟨b, 2, none⟩ = some v2 := by
  refine ⟨?_, ?_, ?_⟩ <;> simp [World.cell?, h]
/-- the clips l behind the address a, not in block A -/
def KlsX (A : Nat) (w : World) (a : Option Addr) (l : List Kl) : Prop := Kls w a l ∧ (l ≠ [] → ∀ b o, a = some ⟨b, o, none⟩ → b ≠ A)
theorem KlsX.keep {A : Nat} {X Y : World} {a : Option Addr} {l : List Kl} (h : KlsX A X a l) (hk : KeepX A A X Y) : KlsX A Y a l := by
  refine ⟨fun j x hx => ?_, h.2⟩
  obtain ⟨b, o, e, h1, c0, c1, c2⟩ := h.1 j x hx
  have hb := h.2 (by intro hn; rw [hn] at hx; simp at hx) b o e
  exact ⟨b, o, e, Nat.lt_of_lt_of_le h1 hk.1, keepX_cell hk hb c0, keepX_cell hk hb c1, keepX_cell hk hb c2⟩
theorem keepX_b {A : Nat} {w : World} (W : World) (l : Nat) (o o' : Obj) (hl : w.heap.size ≤ l) (h : W.heap[l]? = some o) (ho : o.isCells = false) (_ : o.isWalk = false) : KeepX A A W (W.putObj l o') := KeepX.putObj h ho

set_option maxRecDepth 100000 in
set_option maxHeartbeats 4000000 in
theorem placed_in (n l0 A Bs : Nat) (a : Option Addr) (cap : Nat) (l : List Kl) (hl : l.length ≤ 300) (hA : AOk l) (W : World) (hk : KlsX A W a l) (hA2 : A < W.heap.size) (hBs : W.cell? ⟨Bs, 0, none⟩ = some (.slice a l.length cap))
    (J Jx : List (Fin l.length) → World → Prop) (hJ : ∀ s X Y, J s X → X.grownBy Y none → J s Y)
    (hY : ∀ pre x W1, J pre W1 → pre.length < l.length → YieldAt Fence.wide (n - 1) Tryz.prog l0 (plv l x.1) W1 fun e W' =>
      (e = .returned (.bool true) ∧ J (pre ++ [x]) W' ∧ KeepX A A W1 W') ∨ (e = .returned (.bool false) ∧ Jx (pre ++ [x]) W'))
    (h0 : J [] W) :
    CallsIn Fence.wide n Tryz.prog 152 #[.func (.yield l0) #[] #[], .pointer (some ⟨Bs, 0, none⟩)] W fun e W' => (∃ v, e = .returned v) ∧ ((∃ xs, xs = List.finRange l.length ∧ J xs W') ∨ (∃ pre, (∃ k, k ≤ l.length ∧ pre = (List.finRange l.length).take k) ∧ Jx pre W')) := by
  refine callsIn_of_wp Tryz.func152 rfl trivial ?_ rfl
  simp only [Tryz.ntmps152, List.size_toArray, List.length_cons, List.length_nil, Nat.reduceAdd, Nat.reduceSub, Array.replicate_succ, Array.replicate_zero, List.push_toArray, List.append_toArray, List.nil_append, List.cons_append]
  have hk' := hide hk
  have hA' := hide hA
  have hY' := hide hY
  have hJ' := hide hJ
  have h0' := hide h0
  clear hk hA hY hJ h0
  gi_wp2
  gi_loopw [3, 8] (fun s i wr => ∃ k : Nat, k ≤ l.length ∧ i = .int .i64 k ∧ s = .int .i64 (clen (l.take k)) ∧ Hid (J ((List.finRange l.length).take k) wr) ∧ Hid (KlsX A wr a l) ∧ A < wr.heap.size)
    (fun _ i _ => l.length - (intOf i).toNat)
  case atStart => exact ⟨0, Nat.zero_le _, rfl, by simp [clen], hide (by simpa using unhide h0'), hk', hA2⟩
  case round =>
    clear h0' hk' hA2 hBs
    obtain ⟨k, hkl, rfl, rfl, hJs, hks, hAw⟩ := hrel
    by_cases hlt : k < l.length
    · obtain ⟨b, o, x1, x2, x3, rfl, hx, d0, d1, d2⟩ := kls_at (unhide hks).1 (Below.refl _ _) hlt
      have hc := (unhide hA') _ (List.mem_of_getElem? hx)
      obtain ⟨n0, n1, i0, i1, _⟩ := hc
      simp only at n0 n1 i0 i1
      obtain ⟨q0, q1⟩ := take_bd ((unhide hA').take k) hkl
      obtain ⟨W1, hW1⟩ : ∃ W1, wr.alloc (.cells #[.int .i64 x1, .int .i64 x2, .int .i64 x3] 94) = W1 := ⟨_, rfl⟩
      have hg1 : wr.grownBy W1 none := by rw [← hW1]; exact World.grownBy_alloc _ _ _
      have hJ1 := (unhide hJ') _ _ _ (unhide hJs) hg1
      have hc1 : W1.heap[wr.heap.size]? = some (.cells #[.int .i64 x1, .int .i64 x2, .int .i64 x3] 94 (0, 0)) := by rw [← hW1]; exact World.alloc_heap_new _ _
      have hkX : KeepX A A wr W1 := by rw [← hW1]; exact keepX_alloc _ _
      obtain ⟨fn, tmps, assign, body, hy, hR⟩ := (unhide hY') _ ⟨k, hlt⟩ W1 hJ1 (by rw [List.length_take, List.length_finRange]; omega)
      have hpv : plv l k = #[.int .i64 (clen (l.take k)), .agg #[.int .i64 x1, .int .i64 x2, .int .i64 x3]] := by unfold plv; rw [kAt_eq hx]
      have hy' : (Instr.yield l0 #[.int .i64 (clen (l.take k)), .agg #[.int .i64 x1, .int .i64 x2, .int .i64 x3]]).run Tryz.prog W1 = .ok (.round l0 fn tmps assign body) W1 := by rw [← hpv]; exact hy
      have ho := hide (clen_take hx)
      have hg1' := hide hg1
      have hc1' := hide hc1
      have hkX' := hide hkX
      clear hy hg1 hc1 hJ1 hx hkX hpv
      generalize clen (l.take k) = ck at *
      subst hW1
      gi_wp2_with fail
      refine ⟨fun h => by simp [Fence.wide] at h, hR.mono ?_⟩
      rintro e W3 (⟨rfl, hJ3, hk3⟩ | ⟨rfl, hJx3⟩)
      · have C3 := hk3.2 _ _ (unhide hc1') rfl (by omega) (by omega)
        have hks3 := hide (((unhide hks).keep (unhide hkX')).keep hk3)
        have hA3 : A < W3.heap.size := Nat.lt_of_lt_of_le (Nat.lt_of_lt_of_le hAw (unhide hkX').1) hk3.1
        obtain ⟨z0, z1, z2⟩ := blk3' C3
        have hJ3' := hide hJ3
        clear d0 d1 d2 hy' hR hg1' hc1' hJs hks hJ3 hk3 C3 hkX'
        generalize wr.heap.size = cb at *
        gi_wp2
        go_roundw
        case rel => exact ⟨k + 1, by omega, by go_num, by rw [unhide ho], hide (by rw [fin_take hlt]; exact unhide hJ3'), hks3, hA3⟩
        case measure => simp [intOf]; omega
      · gi_wp2
        refine bodyPost_ret (results_none rfl _ _ _) rfl ?_
        exact ⟨⟨_, rfl⟩, .inr ⟨_, ⟨k + 1, by omega, (fin_take hlt).symm⟩, hJx3⟩⟩
    · have hke : k = l.length := by omega
      clear hks
      gi_wp2
      go_end0
      refine ⟨⟨_, rfl⟩, .inl ⟨_, rfl, ?_⟩⟩
      have := unhide hJs
      rw [hke, List.take_of_length_le (by simp)] at this
      exact this

theorem placed_stops (n A Bs : Nat) (a : Option Addr) (cap : Nat) (l : List Kl) (hl : l.length ≤ 300) (hA : AOk l) (w : World) (hk : KlsX A w a l) (hA2 : A < w.heap.size) (hBl : Bs < w.heap.size) (hBs : w.cell? ⟨Bs, 0, none⟩ = some (.slice a l.length cap)) :
    SeqStopsK Fence.wide n Tryz.prog 152 #[.pointer (some ⟨Bs, 0, none⟩)] (fun x : Fin l.length => plv l x.1) (KeepX A A) (fun xs => xs = List.finRange l.length) (fun pre => ∃ k, k ≤ l.length ∧ pre = (List.finRange l.length).take k) l.length w :=
  fun l0 J Jx W hW hJ hJx hY h0 => placed_in n l0 A Bs a cap l hl hA W ⟨hk.1.below hW, hk.2⟩ (Nat.lt_of_lt_of_le hA2 hW.size) ((hW.cell (p := ⟨Bs, 0, none⟩) hBl).trans hBs) J Jx (fun s X Y h hg => hJ s X Y none h hg (fun r e => by cases e)) hY h0

set_option maxHeartbeats 1000000 in
theorem placed_any (a : Option Addr) (len cap : Nat) (w : World) :
    Calls Tryz.prog 132 #[.slice a len cap] w fun e w' => e = .returned (.func (.func 152) #[] #[.pointer (some ⟨w.heap.size, 0, none⟩)]) ∧ w' = w.alloc (.cells #[.slice a len cap] 78) := by
  go_enter Tryz.func132, Tryz.ntmps132
  go_wp2
  go_ret
  exact ⟨rfl, rfl⟩

end Go.Proofs.YtioaehjppiodfaaGreatDoor

namespace Go.Proofs.YtioaehjppiodfaaGreatDoor
open Go.RowKit
set_option linter.unusedVariables false
set_option linter.unusedSimpArgs false

/-- where clip x begins -/
def bgAt (l : List Kl) (x : Nat) : Int := clen (l.take x)
/-- the other list's pieces that lie at clip x -/
def pcs (l m : List Kl) (x : Nat) : List Kl := part m (bgAt l x) (bgAt l x + (kAt l x).2.2)
def ptOf (c : Kl) (f n : Int) : Kl := (c.1, if c.1 = 0 then 0 else c.2.1 + f, n)
/-- piece y at clip x is what the clip shows there -/
def Eqp (l m : List Kl) (x y : Nat) : Prop := kAt (pcs l m x) y = ptOf (kAt l x) (clen ((pcs l m x).take y)) (kAt (pcs l m x) y).2.2
def sumC (l m : List Kl) (k : Nat) : Int := ((List.range k).map (fun x => clen (pcs l m x))).sum
theorem sumC_succ (l m : List Kl) (k : Nat) : sumC l m (k + 1) = sumC l m k + clen (pcs l m k) := by
  unfold sumC; rw [List.range_succ, List.map_append, List.sum_append]; simp
theorem bgAt_succ {l : List Kl} {x : Nat} (h : x < l.length) : bgAt l (x + 1) = bgAt l x + (kAt l x).2.2 := by
  unfold bgAt; rw [clen_take (kAt_get h)]
theorem kAt_ok {l : List Kl} (h : AOk l) {x : Nat} (hx : x < l.length) : COk (kAt l x) := h _ (List.mem_of_getElem? (kAt_get hx))
theorem bgAt_nn {l : List Kl} (h : AOk l) (x : Nat) : 0 ≤ bgAt l x := clen_nonneg (h.take x)
theorem pcs_clen {l m : List Kl} (hl : AOk l) (hm : AOk m) {x : Nat} (hx : x < l.length) : clen (pcs l m x) = max 0 (min (bgAt l (x + 1)) (clen m) - bgAt l x) := by
  unfold pcs
  rw [clen_part hm, ← bgAt_succ hx]
  have := bgAt_nn hl x
  omega
theorem sumC_eq {l m : List Kl} (hl : AOk l) (hm : AOk m) {k : Nat} (hk : k ≤ l.length) : sumC l m k = min (bgAt l k) (clen m) := by
  induction k with
  | zero => have := clen_nonneg hm; simp [sumC, bgAt, clen]; omega
  | succ k ih =>
    rw [sumC_succ, ih (by omega), pcs_clen hl hm (by omega), bgAt_succ (by omega)]
    have := bgAt_nn hl k
    have := (kAt_ok hl (show k < l.length by omega)).1
    have := clen_nonneg hm
    omega
theorem piece_ex {P : List Kl} (hP : AOk P) {e : Int} (h0 : 0 ≤ e) {j : Nat} (hj : j ≤ P.length) (h1 : e < clen (P.take j)) : ∃ y, y < j ∧ clen (P.take y) ≤ e ∧ e < clen (P.take y) + (kAt P y).2.2 := by
  induction j with
  | zero => simp [clen] at h1; omega
  | succ j ih =>
    by_cases hlt : e < clen (P.take j)
    · obtain ⟨y, hy, h⟩ := ih (by omega) hlt
      exact ⟨y, by omega, h⟩
    · rw [clen_take (kAt_get (show j < P.length by omega))] at h1
      exact ⟨j, by omega, by omega, h1⟩
theorem sv_ptOf (c : Kl) (f n d : Int) : sv (ptOf c f n) d = sv c (f + d) := by
  unfold sv ptOf
  by_cases h : c.1 = 0
  · simp [h]
  · simp [h]; omega
theorem pcs_in {l m : List Kl} (hl : AOk l) (hm : AOk m) {x : Nat} (hx : x < l.length) {e : Int} (h0 : 0 ≤ e) (h1 : e < clen (pcs l m x)) : seen (pcs l m x) e = seen m (bgAt l x + e) ∧ seen l (bgAt l x + e) = sv (kAt l x) e ∧ bgAt l x + e < clen m ∧ bgAt l x + e < clen l := by
  have hc := pcs_clen hl hm hx
  have hb := bgAt_nn hl x
  have hs := bgAt_succ hx
  have hle := clen_take_le hl (x + 1)
  have hse : bgAt l (x + 1) ≤ clen l := hle
  refine ⟨?_, ?_, by omega, by omega⟩
  · have := seen_part hm (a := bgAt l x) (b := bgAt l x + (kAt l x).2.2) (i := e) h0 (by omega)
    unfold pcs
    rw [this]
    congr 1
    omega
  · exact seen_at hl (kAt_get hx) h0 (by omega)
theorem pcs_alike {l m : List Kl} (hl : AOk l) (hm : AOk m) {x j : Nat} (hx : x < l.length) (hj : j ≤ (pcs l m x).length) (h : ∀ y, y < j → Eqp l m x y) {e : Int} (h0 : 0 ≤ e) (h1 : e < clen ((pcs l m x).take j)) : seen l (bgAt l x + e) = seen m (bgAt l x + e) := by
  have hP : AOk (pcs l m x) := part_ok hm _ _
  obtain ⟨y, hy, h2, h3⟩ := piece_ex hP h0 hj h1
  have hle := clen_take_le hP j
  obtain ⟨e1, e2, _, _⟩ := pcs_in hl hm hx h0 (by omega)
  have e3 := seen_at hP (kAt_get (show y < (pcs l m x).length by omega)) (e := e - clen ((pcs l m x).take y)) (by omega) (by omega)
  have e4 : clen ((pcs l m x).take y) + (e - clen ((pcs l m x).take y)) = e := by omega
  rw [e4] at e3
  rw [← e1, e2, e3, h y hy, sv_ptOf]
  congr 1
  omega
theorem bg_pre {l m : List Kl} (hl : AOk l) (hm : AOk m) {k : Nat} (hk : k ≤ l.length) (h : ∀ x, x < k → ∀ y, y < (pcs l m x).length → Eqp l m x y) {f : Int} (h0 : 0 ≤ f) (h1 : f < min (bgAt l k) (clen m)) : seen l f = seen m f := by
  induction k with
  | zero => simp [bgAt, clen] at h1; omega
  | succ k ih =>
    by_cases hlt : f < bgAt l k
    · exact ih (by omega) (fun x hx => h x (by omega)) (by omega)
    · have hx : k < l.length := by omega
      have hc := pcs_clen hl hm hx
      have := pcs_alike hl hm hx (Nat.le_refl _) (h k (by omega)) (e := f - bgAt l k) (by omega) (by rw [List.take_length]; omega)
      have e4 : bgAt l k + (f - bgAt l k) = f := by omega
      rwa [e4] at this
theorem bg_done {l m : List Kl} (hl : AOk l) (hm : AOk m) (h : ∀ x, x < l.length → ∀ y, y < (pcs l m x).length → Eqp l m x y) : IsPfx l m (min (clen l) (clen m)) (sumC l m l.length) := by
  have hs := sumC_eq hl hm (Nat.le_refl l.length)
  have hb : bgAt l l.length = clen l := by unfold bgAt; rw [List.take_length]
  rw [hs, hb]
  have := clen_nonneg hl
  have := clen_nonneg hm
  exact ⟨by omega, by omega, fun i h0 h1 => bg_pre hl hm (Nat.le_refl _) h h0 (by rw [hb]; exact h1), fun hlt => by omega⟩
theorem bg_stop {l m : List Kl} (hl : AOk l) (hm : AOk m) {k j : Nat} (hk : k < l.length) (h : ∀ x, x < k → ∀ y, y < (pcs l m x).length → Eqp l m x y) (hj : j < (pcs l m k).length) (h2 : ∀ y, y < j → Eqp l m k y) (h3 : ¬ Eqp l m k j) :
    IsPfx l m (min (clen l) (clen m)) (sumC l m k + clen ((pcs l m k).take j)) := by
  have hP : AOk (pcs l m k) := part_ok hm _ _
  have hs := sumC_eq hl hm (show k ≤ l.length by omega)
  have hc := pcs_clen hl hm hk
  have hp := kAt_ok hP hj
  have ht := clen_take (kAt_get hj)
  have hle := clen_take_le hP (j + 1)
  have t0 := clen_nonneg (hP.take j)
  have b0 := bgAt_nn hl k
  have hp1 := hp.1
  have hpos : clen ((pcs l m k).take j) < clen (pcs l m k) := by omega
  obtain ⟨e1, e2, e3, e4⟩ := pcs_in hl hm hk t0 hpos
  have hsum : sumC l m k = bgAt l k := by omega
  rw [hsum]
  refine ⟨by omega, by omega, fun i i0 i1 => ?_, fun _ => ?_⟩
  · by_cases hlt : i < bgAt l k
    · exact bg_pre hl hm (by omega) h i0 (by omega)
    · have := pcs_alike hl hm hk (show j ≤ _ by omega) h2 (e := i - bgAt l k) (by omega) (by omega)
      have e5 : bgAt l k + (i - bgAt l k) = i := by omega
      rwa [e5] at this
  · have e5 := seen_at hP (kAt_get hj) (e := 0) (by omega) (by omega)
    rw [Int.add_zero] at e5
    rw [← e1, e2, e5]
    intro hc
    apply h3
    have hcl := kAt_ok hl hk
    have q0 : 0 ≤ (kAt l k).1 := by rcases hcl.2.2.2.2 with h | h <;> omega
    have q1 : 0 ≤ (kAt (pcs l m k) j).1 := by rcases hp.2.2.2.2 with h | h <;> omega
    have hx := Classical.not_not.1 (fun hn => sv_not (x := clen ((pcs l m k).take j)) (y := 0) q0 q1 hn hc)
    obtain ⟨s1, s2⟩ := hx
    unfold Eqp ptOf
    generalize hP9 : kAt (pcs l m k) j = P9 at *
    obtain ⟨p1, p2, p3⟩ := P9
    simp only at *
    by_cases hz : (kAt l k).1 = 0
    · have : p1 = 0 := by omega
      have : p2 = 0 := by rcases hp.2.2.2.2 with h | h <;> simp only at h <;> omega
      rw [if_pos hz]
      simp [*]
    · rw [if_neg hz, ← s1]
      have : p2 = (kAt l k).2.1 + clen ((pcs l m k).take j) := by rcases s2 with h | h <;> omega
      rw [this]

end Go.Proofs.YtioaehjppiodfaaGreatDoor
