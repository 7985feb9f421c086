/-
  The contract of the model's Critical; nothing that was there is written.
  The contract of the law's function that writes marks into a list of tasks: it writes into the list's own blocks alone.
  FnExactCritical: from its entry to its return.
-/
import Derived.Test.YtpmmimcafkillaaZJbS
import Derived.Test.YtpmmimcafkillaaZCopyL
import Derived.Test.YtpmmimcafkillaaZJbP
import Derived.Deep.CutRange
import Derived.Deep.CutBlock
namespace Go.Proofs.Ytpmmimcafkillaa
open Go.RowKit
open Go.Proofs.Ytpmmimcafkillaa.Rs (gmx outOf out_len out_at crR ask)
set_option linter.unusedVariables false
set_option linter.unusedSimpArgs false
set_option maxHeartbeats 400000 in
theorem max_any (x y z : Int) (w : World) (hz : (if x < y then y else x) = z) : Calls Try.prog 53 #[.int .i64 x, .int .i64 y] w fun e w' => e = .returned (.int .i64 z) ∧ w' = w := by
  by_cases h1 : x < y
  · rw [if_pos h1] at hz
    subst hz
    have g1 : decide (y < x) = false := by simp; omega
    go_enter Try.func53, Try.ntmps53
    go_wp2
    go_ret
    exact ⟨rfl, rfl⟩
  · rw [if_neg h1] at hz
    subst hz
    by_cases h2 : y < x
    · have g1 : decide (y < x) = true := by simp; omega
      go_enter Try.func53, Try.ntmps53
      go_wp2
      go_ret
      exact ⟨rfl, rfl⟩
    · obtain rfl : y = x := by omega
      have g1 : decide (y < y) = false := by simp
      go_enter Try.func53, Try.ntmps53
      go_wp2
      go_ret
      exact ⟨rfl, rfl⟩
theorem cr_le {ts : List Tv} (hj : jobOk ts = true) : ∀ (k : Nat) (x : Int), (outOf (crR ts) ts)[k]? = some x → 0 ≤ x ∧ x ≤ 1000 * (k + 1 : Nat) := by
  intro k
  induction k using Nat.strongRecOn with
  | _ k ih =>
    intro x hx
    have hlt : k < ts.length := by rw [← out_len (crR ts) ts]; exact (List.getElem?_eq_some_iff.1 hx).1
    have ht := List.getElem?_eq_getElem hlt
    have hok := job_tok hj ht
    have e := Option.some.inj (hx.symm.trans (out_at (f := crR ts) hj ht))
    simp only [crR, ht] at e
    have hgm : ∀ (vs : List Int) (B : Int), ∀ acc : Int, 0 ≤ acc → acc ≤ B → (∀ v ∈ vs, 0 ≤ v ∧ v ≤ B) → 0 ≤ gmx acc vs ∧ gmx acc vs ≤ B := by
      intro vs B
      induction vs with
      | nil => intro acc h0 h1 _; exact ⟨h0, h1⟩
      | cons v vs ih =>
        intro acc h0 h1 h
        have hv := h v (by simp)
        show 0 ≤ gmx (if acc < v then v else acc) vs ∧ _
        exact ih _ (by split <;> omega) (by split <;> omega) (fun x hx => h x (List.mem_cons_of_mem _ hx))
    have hg := hgm (Rs.ask (outOf (crR ts) ts) ts[k]) (1000 * (k : Int)) 0 (by omega) (by omega) fun v hv => by
      obtain ⟨n, hn, rfl⟩ := List.mem_map.1 hv
      have hnd := hok.need n hn
      have hnl : n.toNat < (outOf (crR ts) ts).length := by rw [out_len]; omega
      have := ih n.toNat (by omega) _ (List.getElem?_eq_getElem hnl)
      rw [List.getD_eq_getElem?_getD, List.getElem?_eq_getElem hnl, Option.getD_some]
      omega
    have := hok.cost0
    have := hok.cost1
    omega
/-- the greatest of what the first q needs give -/
def gneed (ts : List Tv) (zs : List Int) : Int := gmx 0 (zs.map fun n => (outOf (crR ts) ts).getD n.toNat 0)
theorem gneed_snoc {ts : List Tv} {zs : List Int} {q : Nat} {z y : Int} (hz : zs[q]? = some z) (hy : (outOf (crR ts) ts)[z.toNat]? = some y) : gneed ts (zs.take (q + 1)) = if gneed ts (zs.take q) < y then y else gneed ts (zs.take q) := by
  have e : zs.take (q + 1) = zs.take q ++ [z] := by rw [List.take_add_one, hz]; rfl
  unfold gneed
  rw [e, List.map_append]
  show gmx 0 (_ ++ [(outOf (crR ts) ts).getD z.toNat 0]) = _
  rw [gmx_snoc, List.getD_eq_getElem?_getD, hy, Option.getD_some]
theorem laterB' {N : Nat} {w w1 w2 : World} (h : Below N w w1) (k : Below N w1 w2) : Below N w w2 := h.trans k
set_option maxRecDepth 100000 in
set_option maxHeartbeats 6400000 in
theorem scrit_any (a : Option Addr) (cap : Nat) (ts : List Tv) (w : World) (hl : ts.length ≤ maxLen) (hr : Tks w a ts) :
    Calls Try.prog 31 #[.slice a ts.length cap] w fun e w' => e = .returned (.int .i64 (if jobOk ts then gmx 0 (outOf (crR ts) ts) else -1)) ∧ Below w.heap.size w w' := by
  have hl' := hide hl
  have hr' := hide hr
  clear hr
  unfold maxLen at hl
  obtain ⟨J, hJ⟩ : ∃ J, jobOk ts = J := ⟨_, rfl⟩
  have hJ' := hide hJ
  rw [hJ]
  clear hJ
  go_enter Try.func31, Try.ntmps31
  go_wp2_with fail
  refine (sjob_any a cap ts _ (unhide hl') (unhide hr')).mono ?_
  rintro e w1 ⟨rfl, hB1⟩
  rw [unhide hJ']
  have hB1' := hide hB1
  clear hB1
  cases J with
  | false =>
    go_wp2
    go_ret
    exact ⟨rfl, unhide hB1'⟩
  | true =>
  have hs200 : ts.length ≤ 200 := job_short (unhide hJ')
  have hrow := hide (ownI_lit0 w1 (B := w.heap.size) (unhide hB1').size)
  have hB2 := hide ((unhide hB1').alloc (unhide hB1').size (.cells #[] 2))
  go_wp2
  go_loopw [3, 4, 5] (fun v u t wr => ∃ (k g c : Nat) (m : Int), k ≤ ts.length ∧ t = .int .i64 k ∧ u = .slice (some ⟨g, 0, none⟩) k c ∧ v = .int .i64 m ∧ Hid (m = gmx 0 ((outOf (crR ts) ts).take k)) ∧ Hid (OwnI wr w.heap.size g k c ((outOf (crR ts) ts).take k)) ∧ Hid (Below w.heap.size w wr)) (fun _ _ t _ => ts.length - (intOf t).toNat)
  case atStart => exact ⟨0, w1.heap.size, 0, 0, by omega, rfl, rfl, rfl, hide rfl, hrow, hB2⟩
  case round =>
    obtain ⟨k, g, c, m, hk, rfl, rfl, rfl, hm, hO, hB⟩ := hrel
    clear hrow hB2 hB1'
    by_cases hlt : k < ts.length
    rotate_left
    · have hfin := hide (show m = gmx 0 (outOf (crR ts) ts) by rw [unhide hm, List.take_of_length_le (by rw [out_len]; omega)])
      have gk : decide ((k : Int) < ts.length) = false := by simp; omega
      clear hm
      go_wp2
      go_ret
      refine ⟨?_, unhide hB⟩
      rw [unhide hfin]
      rfl
    have gk : decide ((k : Int) < ts.length) = true := by simp; omega
    obtain ⟨b, o, p, c', t, rfl, hx, i1, c0, c1, c2, c3, hK, hmx⟩ := tks_at (unhide hr') (unhide hB) hlt
    have hx' := hide hx
    have hok := job_tok (unhide hJ') hx
    have hn10 := hok.len
    have hK' := hide hK
    have hd0 := hok.cost0
    have hd1 := hok.cost1
    clear hx hK hmx
    rename World => wo
    go_wp2
    go_loop [6, 7] (fun u v => ∃ (q : Nat) (x : Int), q ≤ t.2.2.1.length ∧ v = .int .i64 q ∧ u = .int .i64 x ∧ Hid (x = gneed ts (t.2.2.1.take q)) ∧ 0 ≤ x ∧ x ≤ 200000) (fun _ v => t.2.2.1.length - (intOf v).toNat)
    case atStart => exact ⟨0, 0, by omega, rfl, rfl, hide (by simp [gneed, gmx]), by omega, by omega⟩
    case round =>
      obtain ⟨q, x, hq, rfl, rfl, hpx, x0, x1⟩ := hrel
      by_cases hql : q < t.2.2.1.length
      · have gq : decide ((q : Int) < t.2.2.1.length) = true := by simp; omega
        obtain ⟨b2, o2, z, rfl, hz, i2, d0⟩ := ins_at (unhide hK') (Below.refl _ _) hql
        have hnd := (job_tok (unhide hJ') (unhide hx')).need z (List.mem_of_getElem? hz)
        obtain ⟨zn, rfl⟩ := Int.eq_ofNat_of_zero_le hnd.1
        have hzk : zn < k := by omega
        have hzl : zn < (outOf (crR ts) ts).length := by rw [out_len]; omega
        obtain ⟨y, hy⟩ : ∃ y, (outOf (crR ts) ts)[zn]? = some y := ⟨_, List.getElem?_eq_getElem hzl⟩
        have hyb := cr_le (unhide hJ') zn y hy
        have hyB : 0 ≤ y ∧ y ≤ 200000 := by omega
        have e0 := ownI_at (k := zn) (x := y) (by rw [List.getElem?_take_of_lt hzk]; exact hy) (unhide hO)
        have hst := hide (show gneed ts (t.2.2.1.take (q + 1)) = if x < y then y else x by rw [gneed_snoc hz (by rw [Int.toNat_natCast]; exact hy), ← unhide hpx])
        have hmb : 0 ≤ (if x < y then y else x) ∧ (if x < y then y else x) ≤ 200000 := by split <;> omega
        clear hnd hz i2 hpx hy hyb hzl
        go_wp2_with fail
        refine (max_any x y _ _ rfl).mono ?_
        rintro e w3 ⟨rfl, rfl⟩
        generalize (if x < y then y else x) = x2 at *
        go_wp2
        go_round
        case rel => exact ⟨q + 1, x2, by omega, by go_num, rfl, hide (unhide hst).symm, by omega, by omega⟩
        case measure => simp [intOf]; omega
      · have gq : decide ((q : Int) < t.2.2.1.length) = false := by simp; omega
        have hqe : q = t.2.2.1.length := by omega
        have hxv : x = gneed ts t.2.2.1 := by have h1 := unhide hpx; rw [hqe, List.take_length] at h1; exact h1
        have hval : (outOf (crR ts) ts)[k]? = some (x + t.2.2.2) := by
          rw [out_at (unhide hJ') (unhide hx')]
          simp only [crR, unhide hx']
          rw [hxv, Int.add_comm]
          rfl
        have hrowk := hide (show (outOf (crR ts) ts).take (k + 1) = (outOf (crR ts) ts).take k ++ [x + t.2.2.2] by rw [List.take_add_one, hval]; rfl)
        have hmk := hide (show gmx 0 ((outOf (crR ts) ts).take (k + 1)) = if m < x + t.2.2.2 then x + t.2.2.2 else m by rw [gmx_take hval, ← unhide hm])
        have gw : IntKind.i64.wrap (x + t.2.2.2) = x + t.2.2.2 := by rw [IntKind.wrap_i64]; omega
        have hsz := (unhide hB).size
        clear hpx hqe hxv hval hm
        go_wp2_with (refine wpList_iA _ rfl _ _ rfl w.heap.size g k c _ (x + t.2.2.2) rfl (unhide hO) rfl ?b3 ?b4 ?_)
        case b3 => omega
        intro g' cap' w5 ho hb5 hg5
        have hB5 := hide (laterB' (unhide hB) hb5)
        have c3' : w5.cell? ⟨b, o + k * 4 + 3, none⟩ = some (.int .i64 t.2.2.2) := by
          have h5 := hb5.block b i1
          simp only [World.cell?] at c3 ⊢
          rw [h5]; exact c3
        clear c0 c1 c2 c3
        rw [← unhide hrowk] at ho
        have hO5 := hide ho
        clear ho hb5 hg5 hO
        go_wp2_with fail
        refine (max_any m (x + t.2.2.2) _ _ rfl).mono ?_
        rintro e w6 ⟨rfl, rfl⟩
        rw [← unhide hmk]
        go_wp2
        go_roundw
        case rel => exact ⟨k + 1, g', cap', _, by omega, by go_num, rfl, rfl, hide rfl, hO5, hB5⟩
        case measure => simp [intOf]; omega
end Go.Proofs.Ytpmmimcafkillaa

namespace Go.Proofs.Ytpmmimcafkillaa
open Go.RowKit
set_option linter.unusedVariables false
set_option linter.unusedSimpArgs false

/-- all blocks but those from lo on and below hi stand -/
structure Rng (lo hi : Nat) (w w' : World) : Prop where
  os : w'.os = w.os
  tape : w'.tape = w.tape
  output : w'.output = w.output
  size : w.heap.size ≤ w'.heap.size
  block : ∀ k, k < w.heap.size → (k < lo ∨ hi ≤ k) → w'.heap[k]? = w.heap[k]?
theorem Rng.refl (lo hi : Nat) (w : World) : Rng lo hi w w := ⟨rfl, rfl, rfl, Nat.le_refl _, fun _ _ _ => rfl⟩
theorem Rng.more {lo hi g : Nat} {w w1 w2 : World} (h : Rng lo hi w w1) (k : w1.grownBy w2 (some g)) (h1 : lo ≤ g) (h2 : g < hi) : Rng lo hi w w2 :=
  ⟨k.os.trans h.os, k.tape.trans h.tape, k.output.trans h.output, Nat.le_trans h.size k.size, fun i hi' ho => (k.block i (Nat.lt_of_lt_of_le hi' h.size) (by intro e; injection e with e; omega)).trans (h.block i hi' ho)⟩
theorem Rng.set {lo hi g i : Nat} {v : Value} {w w1 : World} (h : Rng lo hi w w1) (h1 : lo ≤ g) (h2 : g < hi) : Rng lo hi w (w1.setCell ⟨g, i, none⟩ v) := h.more (grown_set (grown_refl _ _)) h1 h2
/-- tasks that can be written, with rows that can be -/
structure TW (lo hi : Nat) (w : World) (B : Nat) (ts : List Tv) : Prop where
  ge : lo ≤ B
  lt : B < hi
  blk : ∃ cur : Array Value, w.heap[B]? = some (.cells cur 33 (0, 0)) ∧ cur.size = ts.length * 4 ∧ ∀ (j : Nat) (t : Tv), ts[j]? = some t → ∃ g, lo ≤ g ∧ g < hi ∧ cur[j * 4 + 2]? = some (.slice (some ⟨g, 0, none⟩) t.2.2.1.length t.2.2.1.length) ∧ ∃ c, w.heap[g]? = some (.cells c 2 (0, 0)) ∧ c.size = t.2.2.1.length ∧ t.2.2.1.length ≤ maxLen
theorem TO.tw {lo hi : Nat} {w : World} {B : Nat} {ts : List Tv} (h : TO lo hi w B ts ts.length) : TW lo hi w B ts := by
  obtain ⟨cur, h1, h2, h3⟩ := h.blk
  refine ⟨h.ge, h.lt, cur, h1, h2, fun j t ht => ?_⟩
  obtain ⟨g, g1, _, _, g2, _, g3⟩ := h3 j t ht (List.getElem?_eq_some_iff.1 ht).1
  rcases g3.2 with ⟨hv, _⟩ | ⟨g', cap', cur', hv, hB, hh, _, hmx, hcs, _⟩
  · cases hv
  · injection hv with e1 e2 e3
    injection e1 with e1
    injection e1 with e1
    subst e1 e3
    exact ⟨g, hB, g1, g2, cur', hh, by simpa using hcs, hmx⟩
theorem TW.set {lo hi B i : Nat} {v : Value} {w : World} {ts : List Tv} (h : TW lo hi w B ts) (hi4 : i % 4 ≠ 2) : TW lo hi (w.setCell ⟨B, i, none⟩ v) B ts := by
  obtain ⟨cur, h1, h2, h3⟩ := h.blk
  refine ⟨h.ge, h.lt, _, heap_set_at h1, by simpa using h2, fun j t ht => ?_⟩
  obtain ⟨g, a1, a2, a3, c, a4, a5, a6⟩ := h3 j t ht
  have hne : g ≠ B := by intro e; rw [e, h1] at a4; injection a4 with a4; injection a4 with _ a4; exact absurd a4 (by decide)
  exact ⟨g, a1, a2, by rw [Array.getElem?_setIfInBounds_ne (by omega)]; exact a3, c, by rw [heap_set_ne hne]; exact a4, a5, a6⟩
theorem row_own {lo g n : Nat} {w : World} {c : Array Value} (h : w.heap[g]? = some (.cells c 2 (0, 0))) (hc : c.size = n) (hm : n ≤ maxLen) (hg : lo ≤ g) : w.ownsRow lo 2 1 (.slice (some ⟨g, 0, none⟩) n n) n c.toList :=
  ⟨by simpa using hc, Or.inr ⟨g, n, c, rfl, hg, h, Nat.le_refl _, hm, by simpa using hc, by rw [List.take_of_length_le (by simp [hc])]⟩⟩
theorem TW.marked {lo hi : Nat} {w w1 : World} {B g n : Nat} {ts : List Tv} {ys : List Value} (h : TW lo hi w B ts) (hgr : w.grownBy w1 (some g)) (hg : ∃ c, w.heap[g]? = some (.cells c 2 (0, 0)) ∧ c.size = n) (hy : w1.ownsRow lo 2 1 (.slice (some ⟨g, 0, none⟩) n n) n ys) : TW lo hi w1 B ts := by
  obtain ⟨cur, h1, h2, h3⟩ := h.blk
  obtain ⟨c0, hc0, hn0⟩ := hg
  have hBg : B ≠ g := by
    intro e; rw [e, hc0] at h1; injection h1 with h1; injection h1 with _ h1; exact absurd h1 (by decide)
  refine ⟨h.ge, h.lt, cur, ?_, h2, fun j t ht => ?_⟩
  · rw [hgr.block B (Array.getElem?_eq_some_iff.1 h1).1 (by intro e; injection e with e; exact hBg e)]; exact h1
  · obtain ⟨g', a1, a2, a3, c, a4, a5, a6⟩ := h3 j t ht
    refine ⟨g', a1, a2, a3, ?_⟩
    by_cases e : g' = g
    · subst e
      rw [hc0] at a4
      injection a4 with a4
      injection a4 with a4
      subst a4
      rcases hy.2 with ⟨hv, _⟩ | ⟨g'', cap', cur', hv, hB, hh, _, hmx, hcs, _⟩
      · cases hv
      · injection hv with e1 e2 e3
        injection e1 with e1
        injection e1 with e1
        subst e1 e3
        exact ⟨cur', hh, by omega, a6⟩
    · exact ⟨c, by rw [hgr.block g' (Array.getElem?_eq_some_iff.1 a4).1 (by intro e2; injection e2 with e2; exact e e2)]; exact a4, a5, a6⟩
theorem TW.cells {lo hi : Nat} {w : World} {B k : Nat} {ts : List Tv} (h : TW lo hi w B ts) (hk : k < ts.length) (i : Nat) (hi4 : i < 4) : ∃ v, w.cell? ⟨B, k * 4 + i, none⟩ = some v ∧ w.frozen? ⟨B, k * 4 + i, none⟩ = false := by
  obtain ⟨cur, h1, h2, h3⟩ := h.blk
  exact ⟨cur[k * 4 + i]'(by omega), by simp [World.cell?, h1, (by omega : k * 4 + i < cur.size)], by simp [World.frozen?, h1]⟩

set_option maxRecDepth 100000 in
set_option maxHeartbeats 3200000 in
theorem markts_any (lo hi B cap : Nat) (ts : List Tv) (w : World) (hl : ts.length + tot ts ≤ 1048576) (h : TW lo hi w B ts) :
    Calls Try.prog 27 #[.slice (some ⟨B, 0, none⟩) ts.length cap, .int .i64 1] w fun e w' => ∃ r, e = .returned (.int .i64 r) ∧ 0 ≤ r ∧ Rng lo hi w w' := by
  have h' := hide h
  have hge := h.ge
  have hlt0 := h.lt
  have htt : Hid (∀ k, tot (ts.take k) ≤ tot ts) := hide (tot_take ts)
  clear h
  go_enter Try.func27, Try.ntmps27
  go_wp2
  go_loopw [1, 5] (fun s t wr => ∃ (k : Nat) (q : Int), k ≤ ts.length ∧ t = .int .i64 k ∧ s = .int .i64 q ∧ 1 ≤ q ∧ q ≤ 8000000 ∧ Hid (q = 1 + 3 * k + tot (ts.take k)) ∧ Hid (TW lo hi wr B ts) ∧ Hid (Rng lo hi w wr)) (fun _ t _ => ts.length - (intOf t).toNat)
  case atStart => exact ⟨0, 1, by omega, rfl, rfl, by omega, by omega, hide (by simp [tot]), h', hide (Rng.refl _ _ _)⟩
  case round =>
    obtain ⟨k, q, hkl, rfl, rfl, q0, q1, hq, hT, hR⟩ := hrel
    by_cases hlt : k < ts.length
    · obtain ⟨t, hx⟩ : ∃ t, ts[k]? = some t := ⟨ts[k], List.getElem?_eq_getElem hlt⟩
      obtain ⟨v0, x0, f0⟩ := (unhide hT).cells hlt 0 (by omega)
      obtain ⟨v1, x1, f1⟩ := (unhide hT).cells hlt 1 (by omega)
      rw [Nat.add_zero] at x0 f0
      have hT2 := hide (TW.set (i := k * 4 + 1) (v := .int .i64 (q + 1)) (TW.set (i := k * 4) (v := .int .i64 q) (unhide hT) (by omega)) (by omega))
      have hR2 := hide (Rng.set (i := k * 4 + 1) (v := .int .i64 (q + 1)) (Rng.set (i := k * 4) (v := .int .i64 q) (unhide hR) hge hlt0) hge hlt0)
      have hsn := tot_snoc hx
      have hto := unhide htt (k + 1)
      have htl : t.2.2.1.length ≤ 1048576 := by omega
      have hqn : q + 3 + (t.2.2.1.length : Int) ≤ 8000000 := by have h5 := unhide hq; omega
      have hsn' := hide hsn
      have hx' := hide hx
      clear hx hsn hto hT hR
      go_upto_region 8 with fail
      generalize (wr.setCell ⟨B, k * 4, none⟩ (.int .i64 q)).setCell ⟨B, k * 4 + 1, none⟩ (.int .i64 (q + 1)) = w2 at *
      obtain ⟨cur, h1, h2, h3⟩ := (unhide hT2).blk
      obtain ⟨g, a1, a2, a3, c, a4, a5, a6⟩ := h3 k t (unhide hx')
      have hc : w2.cell? ⟨B, k * 4 + 2, none⟩ = some (.slice (some ⟨g, 0, none⟩) t.2.2.1.length t.2.2.1.length) := by simp [World.cell?, h1, a3]
      have hrow := hide (row_own a4 a5 a6 a1)
      have hgc := hide (show ∃ c, w2.heap[g]? = some (.cells c 2 (0, 0)) ∧ c.size = t.2.2.1.length from ⟨c, a4, a5⟩)
      clear h1 h2 h3 a3 a4 a5 x0 f0 x1 f1
      go_wp2_with fail
      refine (marki_any lo g t.2.2.1.length t.2.2.1.length _ _ _ (by omega) (by omega) (by omega) (unhide hrow)).mono ?_
      rintro e w3 ⟨rfl, ⟨ys, hy, _⟩, hgr⟩
      have hT3 := hide ((unhide hT2).marked hgr (unhide hgc) hy)
      have hR3 := hide ((unhide hR2).more hgr a1 a2)
      obtain ⟨v3, x3, f3⟩ := (unhide hT3).cells hlt 3 (by omega)
      clear hy hgr hT2 hR2 hc
      go_wp2
      go_roundw
      case rel => exact ⟨k + 1, q + 1 + 1 + t.2.2.1.length + 1, by omega, by go_num, by go_num, by omega, by omega, hide (by have h5 := unhide hq; have h6 := unhide hsn'; omega), hide (TW.set (unhide hT3) (by omega)), hide (Rng.set (unhide hR3) hge hlt0)⟩
      case measure => simp [intOf]; omega
    · have hke : k = ts.length := by omega
      have hke' := hide hke
      clear hke
      go_wp2
      go_ret
      exact ⟨q, rfl, by omega, unhide hR⟩

end Go.Proofs.Ytpmmimcafkillaa

set_option linter.unusedVariables false
set_option linter.unusedSimpArgs false
namespace Go.Proofs.Ytpmmimcafkillaa.Tr
open Go Go.Conc Go.RowKit
open Go.Proofs.Ytpmmimcafkillaa.Br (BT BTS Hd Hid Pz Pst Shn Thr EvN bt_ctl bt_cons bt_skip bt_call bt_callB bt_enter CallsB rt AtEnd0)
open Go.Proofs.Ytpmmimcafkillaa.Rs (Rule outOf out_at out_len resR crR dtR hst gmx)
open Go.Proofs.Ytpmmimcafkillaa (Tv Tks Ins jobOk job_tok TOk job_short tot szts_any tots_any eqts_any scrit_any tot_mem)
/-! the law's lone functions, whatever the draws -/
theorem BelL.rtt {N : Nat} {w w' : World} {T : Nat → Question → Nat} {d : Nat} (h : BelL N w w') : BelL N w (Br.rt T d w') := ⟨h.os, h.output, h.size, h.block⟩
def RSz (w : World) (ts : List Tv) (v : Value) (w' : World) : Prop := ∃ r, v = .int .i64 r ∧ (r = -1 ∨ (0 ≤ r ∧ r = 1048576 - ts.length - tot ts)) ∧ BelL w.heap.size w w'
theorem RSz.rt {w w' : World} {ts : List Tv} {v : Value} {T : Nat → Question → Nat} {d : Nat} (h : RSz w ts v w') : RSz w ts v (Br.rt T d w') := let ⟨r, h1, h2, h3⟩ := h; ⟨r, h1, h2, h3.rtt⟩
def RTo (w : World) (ts : List Tv) (v : Value) (w' : World) : Prop := ∃ B, v = .slice (some ⟨B, 0, none⟩) ts.length ts.length ∧ Tks w' (some ⟨B, 0, none⟩) ts ∧ BelL w.heap.size w w'
theorem RTo.rt {w w' : World} {ts : List Tv} {v : Value} {T : Nat → Question → Nat} {d : Nat} (h : RTo w ts v w') : RTo w ts v (Br.rt T d w') := let ⟨r, h1, h2, h3⟩ := h; ⟨r, h1, h2, h3.rtt⟩
def RTr (w : World) (v : Value) (w' : World) : Prop := v = .bool true ∧ BelL w.heap.size w w'
theorem RTr.rt {w w' : World} {v : Value} {T : Nat → Question → Nat} {d : Nat} (h : RTr w v w') : RTr w v (Br.rt T d w') := ⟨h.1, h.2.rtt⟩
section
variable {ts : List Tv} {w : World} {a : Option Addr} {cap : Nat}
theorem szts_B (hl : ts.length ≤ maxLen) (hT : Tks w a ts) (T : Nat → Question → Nat) (d : Nat) : Calls Try.prog 23 #[.slice a ts.length cap, .int .i64 1048576] (rt T d w) fun e w' => ∃ v, e = .returned v ∧ RSz w ts v w' :=
  calls_imp (szts_any a cap ts (rt T d w) hl hT 1048576 (by omega) (by omega)) fun e w' ⟨r, h1, h2, h3⟩ => ⟨_, h1, r, rfl, h2, belL_any (w := w) h3⟩
theorem tots_B (hl : ts.length ≤ 1048576) (hm : ∀ t ∈ ts, t.2.2.1.length ≤ 1048576) (hx : ∀ t ∈ ts, t.2.2.1.length ≤ maxLen) (hT : Tks w a ts) (T : Nat → Question → Nat) (d : Nat) : Calls Try.prog 24 #[.slice a ts.length cap] (rt T d w) fun e w' => ∃ v, e = .returned v ∧ RTo w ts v w' :=
  calls_imp (tots_any a cap ts (rt T d w) hl hm hT) fun e w' ⟨B, h1, h2, h3⟩ => ⟨_, h1, B, rfl, h2.tks hx, belL_any (w := w) h3⟩
theorem eqts_B {b : Option Addr} {cb : Nat} (hl : ts.length ≤ 1048576) (hm : ∀ t ∈ ts, t.2.2.1.length ≤ 1048576) (hT : Tks w a ts) (hT2 : Tks w b ts) (T : Nat → Question → Nat) (d : Nat) : Calls Try.prog 26 #[.slice a ts.length cap, .slice b ts.length cb] (rt T d w) fun e w' => ∃ v, e = .returned v ∧ RTr w v w' :=
  calls_imp (eqts_any a b cap cb ts (rt T d w) hl hm hT hT2) fun e w' ⟨h1, h3⟩ => ⟨_, h1, rfl, belL_any (w := w) h3⟩
theorem scrit_B (hl : ts.length ≤ maxLen) (hT : Tks w a ts) (T : Nat → Question → Nat) (d : Nat) : Calls Try.prog 31 #[.slice a ts.length cap] (rt T d w) fun e w' => ∃ v, e = .returned v ∧ PInt w (critOf ts) v w' :=
  calls_imp (scrit_any a cap ts (rt T d w) hl hT) fun e w' ⟨h1, h3⟩ => ⟨_, h1, rfl, belL_any (w := w) h3⟩
end
theorem zF23 : Zg.F 23 = true := by kernel_rfl
theorem zF24 : Zg.F 24 = true := by kernel_rfl
theorem zF26 : Zg.F 26 = true := by kernel_rfl
theorem zF31 : Zg.F 31 = true := by kernel_rfl
theorem nm14 : (Try.f14.name == "runtime.NumGoroutine") = false := by kernel_rfl
theorem b14 : Try.f14.body.isNone = false := by kernel_rfl
def PostL (W : World) (v : Value) (w' : World) : Prop := v = .bool true ∧ BelL W.heap.size W w'
theorem bt_end7 [Thr] {w W : World} {a : Act} {todo : List Item} (hd : a.defers = []) (h : a.tmps.getD 2 undef = .bool true) (hw : BelL W.heap.size W w) : BT Try.prog (AtEnd0 Try.prog (PostL W)) (G { (base 7).at a todo with mode := .returning } []) w := by
  refine Br.BT.done ⟨rfl, fun X => ⟨.bool true, ?_, rfl, hw⟩⟩
  have h2 : a.tmps[2]?.getD undef = .bool true := by rw [← h, Array.getD_eq_getD_getElem?]
  simp [G, stepG, unwind, doReturn, results, Frame.at, base, Try.func7, Try.f7, seen, GStep.after, hd, h2]
theorem tks_maxL {w : World} {a : Option Addr} {ts : List Tv} (h : Tks w a ts) : ∀ t ∈ ts, t.2.2.1.length ≤ maxLen := by
  intro t ht
  obtain ⟨j, hj⟩ := List.getElem?_of_mem ht
  obtain ⟨_, _, _, _, _, _, _, _, _, _, _, h4⟩ := h j t hj
  exact h4
set_option maxRecDepth 100000 in
set_option maxHeartbeats 8000000 in
theorem lawCr [Thr] {W : World} (a : Option Addr) (cap : Nat) (l : List Tv) (hl : l.length ≤ maxLen) (hT : Tks W a l) (hg : Br.GC Try.prog W) (hTh : Thr.N ≤ W.heap.size) :
    BT Try.prog (AtEnd0 Try.prog (PostL W)) (G (Frame.enter Try.prog 7 #[.slice a l.length cap] .normal) []) W := by
  have e7 : Frame.enter Try.prog 7 #[.slice a l.length cap] .normal = (base 7).at ⟨#[.slice a l.length cap, undef, undef, undef, undef, undef, undef, undef, undef, undef, undef, undef, undef, undef, undef, undef, undef, undef, undef, undef, undef, undef, undef, undef, undef, undef, undef], []⟩ [.code (Try.f7.body.getD .skip)] := by
    simp [Frame.enter, Frame.at, Try.func7, base, Try.f7]
  rw [e7]
  clear e7
  have hx := tks_maxL hT
  simp only [Try.f7, Option.getD_some]
  (repeat (first | (first | refine bt_ctl rfl (fun _ => stepG_seq) ?_ | refine bt_ctl rfl (fun _ => stepG_block) ?_ | refine bt_ctl rfl (fun _ => stepG_inBlock) ?_ | refine bt_ctl rfl (fun _ => stepG_skip) ?_ | refine bt_ctl rfl (fun _ => stepG_region_end) ?_ | refine bt_ctl rfl (fun _ => stepG_ret') ?_ | (refine bt_ctl rfl (fun _ => stepG_region) ?_; simp only [List.size_toArray, List.length_cons, List.length_nil, Nat.reduceAdd, Nat.zero_add, List.range, List.range.loop])) | (refine bt_cons zgOk.bodied rfl (by rfl) (by decide) (by decide) (fun dzz Kzz hKzz => ?_); go_simp; refine hKzz _ _ (fun b hb => hb) (bt_at ?_); clear hKzz Kzz; try walk_nrm) | (refine bt_skip rfl (by rfl) ?_; try walk_nrm)))
  refine bt_call (R := RSz W l) zgOk (szts_B (cap := cap) hl hT) hg (fun v w T d h => h.rt) (fun v w' h => belL_pz h.choose_spec.2.2) zF23 (by simp [zK]) Try.func23 rfl rfl rfl rfl rfl (by k_ne) (by simp [Act.eval]) (fun v w1 h1 => ?_)
  obtain ⟨r, rfl, hr, hB1⟩ := h1
  walk_nrm
  rcases hr with rfl | ⟨r0, hr⟩
  · (repeat (first | (first | refine bt_ctl rfl (fun _ => stepG_seq) ?_ | refine bt_ctl rfl (fun _ => stepG_block) ?_ | refine bt_ctl rfl (fun _ => stepG_inBlock) ?_ | refine bt_ctl rfl (fun _ => stepG_skip) ?_ | refine bt_ctl rfl (fun _ => stepG_region_end) ?_ | refine bt_ctl rfl (fun _ => stepG_ret') ?_ | (refine bt_ctl rfl (fun _ => stepG_region) ?_; simp only [List.size_toArray, List.length_cons, List.length_nil, Nat.reduceAdd, Nat.zero_add, List.range, List.range.loop])) | (refine bt_cons zgOk.bodied rfl (by rfl) (by decide) (by decide) (fun dzz Kzz hKzz => ?_); go_simp; refine hKzz _ _ (fun b hb => hb) (bt_at ?_); clear hKzz Kzz; try walk_nrm) | (refine bt_skip rfl (by rfl) ?_; try walk_nrm)))
    (refine bt_ctl rfl (fun _ => stepG_cond (t := true) rfl) ?_; simp only [if_true, if_false, Bool.false_eq_true, ↓reduceIte])
    (repeat (first | (first | refine bt_ctl rfl (fun _ => stepG_seq) ?_ | refine bt_ctl rfl (fun _ => stepG_block) ?_ | refine bt_ctl rfl (fun _ => stepG_inBlock) ?_ | refine bt_ctl rfl (fun _ => stepG_skip) ?_ | refine bt_ctl rfl (fun _ => stepG_region_end) ?_ | refine bt_ctl rfl (fun _ => stepG_ret') ?_ | (refine bt_ctl rfl (fun _ => stepG_region) ?_; simp only [List.size_toArray, List.length_cons, List.length_nil, Nat.reduceAdd, Nat.zero_add, List.range, List.range.loop])) | (refine bt_cons zgOk.bodied rfl (by rfl) (by decide) (by decide) (fun dzz Kzz hKzz => ?_); go_simp; refine hKzz _ _ (fun b hb => hb) (bt_at ?_); clear hKzz Kzz; try walk_nrm) | (refine bt_skip rfl (by rfl) ?_; try walk_nrm)))
    exact bt_end7 rfl rfl ⟨hB1.os, hB1.output, hB1.size, hB1.block⟩
  have gr : decide (r < 0) = false := decide_eq_false (by omega)
  have p1 : l.length ≤ 1048576 := by omega
  have pm : ∀ t ∈ l, t.2.2.1.length ≤ 1048576 := fun t ht => by have := tot_mem ht; omega
  have T1 := tks_low hB1 hT
  have g1 := gc_belL hB1 hg
  clear hr
  (repeat (first | (first | refine bt_ctl rfl (fun _ => stepG_seq) ?_ | refine bt_ctl rfl (fun _ => stepG_block) ?_ | refine bt_ctl rfl (fun _ => stepG_inBlock) ?_ | refine bt_ctl rfl (fun _ => stepG_skip) ?_ | refine bt_ctl rfl (fun _ => stepG_region_end) ?_ | refine bt_ctl rfl (fun _ => stepG_ret') ?_ | (refine bt_ctl rfl (fun _ => stepG_region) ?_; simp only [List.size_toArray, List.length_cons, List.length_nil, Nat.reduceAdd, Nat.zero_add, List.range, List.range.loop])) | (refine bt_cons zgOk.bodied rfl (by rfl) (by decide) (by decide) (fun dzz Kzz hKzz => ?_); go_simp; refine hKzz _ _ (fun b hb => hb) (bt_at ?_); clear hKzz Kzz; try walk_nrm) | (refine bt_skip rfl (by rfl) ?_; try walk_nrm)))
  (refine bt_ctl rfl (fun _ => stepG_cond (t := false) rfl) ?_; simp only [if_true, if_false, Bool.false_eq_true, ↓reduceIte])
  (repeat (first | (first | refine bt_ctl rfl (fun _ => stepG_seq) ?_ | refine bt_ctl rfl (fun _ => stepG_block) ?_ | refine bt_ctl rfl (fun _ => stepG_inBlock) ?_ | refine bt_ctl rfl (fun _ => stepG_skip) ?_ | refine bt_ctl rfl (fun _ => stepG_region_end) ?_ | refine bt_ctl rfl (fun _ => stepG_ret') ?_ | (refine bt_ctl rfl (fun _ => stepG_region) ?_; simp only [List.size_toArray, List.length_cons, List.length_nil, Nat.reduceAdd, Nat.zero_add, List.range, List.range.loop])) | (refine bt_cons zgOk.bodied rfl (by rfl) (by decide) (by decide) (fun dzz Kzz hKzz => ?_); go_simp; refine hKzz _ _ (fun b hb => hb) (bt_at ?_); clear hKzz Kzz; try walk_nrm) | (refine bt_skip rfl (by rfl) ?_; try walk_nrm)))
  refine bt_call (R := RTo w1 l) zgOk (tots_B (cap := cap) p1 pm hx T1) g1 (fun v w T d h => h.rt) (fun v w' h => belL_pz h.choose_spec.2.2) zF24 (by simp [zK]) Try.func24 rfl rfl rfl rfl rfl (by k_ne) (by simp [Act.eval]) (fun v w2 h2 => ?_)
  obtain ⟨b2, rfl, O2, k2⟩ := h2
  have B2 := hB1.trans k2 hB1.size
  have g2 := gc_belL k2 g1
  have s1 := hB1.size
  clear hB1 g1 T1 k2
  walk_nrm
  refine bt_call (R := PInt w2 (critOf l)) zgOk (scrit_B (cap := l.length) hl O2) g2 (fun v w T d h => h.rt) (fun v w' h => belL_pz h.2) zF31 (by simp [zK]) Try.func31 rfl rfl rfl rfl rfl (by k_ne) (by simp [Act.eval]) (fun v w3 h3 => ?_)
  obtain ⟨rfl, k3⟩ := h3
  have B3 := B2.trans k3 B2.size
  have T3 := tks_low B3 hT
  have g3 := gc_belL k3 g2
  clear B2 g2 O2 k3
  walk_nrm
  (repeat (first | (first | refine bt_ctl rfl (fun _ => stepG_seq) ?_ | refine bt_ctl rfl (fun _ => stepG_block) ?_ | refine bt_ctl rfl (fun _ => stepG_inBlock) ?_ | refine bt_ctl rfl (fun _ => stepG_skip) ?_ | refine bt_ctl rfl (fun _ => stepG_region_end) ?_ | refine bt_ctl rfl (fun _ => stepG_ret') ?_ | (refine bt_ctl rfl (fun _ => stepG_region) ?_; simp only [List.size_toArray, List.length_cons, List.length_nil, Nat.reduceAdd, Nat.zero_add, List.range, List.range.loop])) | (refine bt_cons zgOk.bodied rfl (by rfl) (by decide) (by decide) (fun dzz Kzz hKzz => ?_); go_simp; refine hKzz _ _ (fun b hb => hb) (bt_at ?_); clear hKzz Kzz; try walk_nrm) | (refine bt_skip rfl (by rfl) ?_; try walk_nrm)))
  refine bt_call (R := RTo w3 l) zgOk (tots_B (cap := cap) p1 pm hx T3) g3 (fun v w T d h => h.rt) (fun v w' h => belL_pz h.choose_spec.2.2) zF24 (by simp [zK]) Try.func24 rfl rfl rfl rfl rfl (by k_ne) (by simp [Act.eval]) (fun v w4 h4 => ?_)
  obtain ⟨b4, rfl, O4, k4⟩ := h4
  have B4 := B3.trans k4 B3.size
  have g4 := gc_belL k4 g3
  clear B3 g3 T3 k4
  walk_nrm
  (repeat (first | (first | refine bt_ctl rfl (fun _ => stepG_seq) ?_ | refine bt_ctl rfl (fun _ => stepG_block) ?_ | refine bt_ctl rfl (fun _ => stepG_inBlock) ?_ | refine bt_ctl rfl (fun _ => stepG_skip) ?_ | refine bt_ctl rfl (fun _ => stepG_region_end) ?_ | refine bt_ctl rfl (fun _ => stepG_ret') ?_ | (refine bt_ctl rfl (fun _ => stepG_region) ?_; simp only [List.size_toArray, List.length_cons, List.length_nil, Nat.reduceAdd, Nat.zero_add, List.range, List.range.loop])) | (refine bt_cons zgOk.bodied rfl (by rfl) (by decide) (by decide) (fun dzz Kzz hKzz => ?_); go_simp; refine hKzz _ _ (fun b hb => hb) (bt_at ?_); clear hKzz Kzz; try walk_nrm) | (refine bt_skip rfl (by rfl) ?_; try walk_nrm)))
  refine bt_callB (crit_B (cap := l.length) hl O4 g4 (Nat.le_trans hTh B4.size)) Try.func14 nm14 b14 rfl rfl rfl (by k_ne) (by simp [Act.eval]) (fun v w5 h5 => ?_)
  obtain ⟨rfl, k5⟩ := h5
  have B5 := B4.trans k5 B4.size
  have O5 := tks_low k5 O4
  have T5 := tks_low B5 hT
  have g5 := gc_belL k5 g4
  clear B4 g4 O4 k5
  walk_nrm
  have gn : (critOf l != critOf l) = false := by simp
  (repeat (first | (first | refine bt_ctl rfl (fun _ => stepG_seq) ?_ | refine bt_ctl rfl (fun _ => stepG_block) ?_ | refine bt_ctl rfl (fun _ => stepG_inBlock) ?_ | refine bt_ctl rfl (fun _ => stepG_skip) ?_ | refine bt_ctl rfl (fun _ => stepG_region_end) ?_ | refine bt_ctl rfl (fun _ => stepG_ret') ?_ | (refine bt_ctl rfl (fun _ => stepG_region) ?_; simp only [List.size_toArray, List.length_cons, List.length_nil, Nat.reduceAdd, Nat.zero_add, List.range, List.range.loop])) | (refine bt_cons zgOk.bodied rfl (by rfl) (by decide) (by decide) (fun dzz Kzz hKzz => ?_); go_simp; refine hKzz _ _ (fun b hb => hb) (bt_at ?_); clear hKzz Kzz; try walk_nrm) | (refine bt_skip rfl (by rfl) ?_; try walk_nrm)))
  (refine bt_ctl rfl (fun _ => stepG_cond (t := false) rfl) ?_; simp only [if_true, if_false, Bool.false_eq_true, ↓reduceIte])
  (repeat (first | (first | refine bt_ctl rfl (fun _ => stepG_seq) ?_ | refine bt_ctl rfl (fun _ => stepG_block) ?_ | refine bt_ctl rfl (fun _ => stepG_inBlock) ?_ | refine bt_ctl rfl (fun _ => stepG_skip) ?_ | refine bt_ctl rfl (fun _ => stepG_region_end) ?_ | refine bt_ctl rfl (fun _ => stepG_ret') ?_ | (refine bt_ctl rfl (fun _ => stepG_region) ?_; simp only [List.size_toArray, List.length_cons, List.length_nil, Nat.reduceAdd, Nat.zero_add, List.range, List.range.loop])) | (refine bt_cons zgOk.bodied rfl (by rfl) (by decide) (by decide) (fun dzz Kzz hKzz => ?_); go_simp; refine hKzz _ _ (fun b hb => hb) (bt_at ?_); clear hKzz Kzz; try walk_nrm) | (refine bt_skip rfl (by rfl) ?_; try walk_nrm)))
  refine bt_call (R := RTo w5 l) zgOk (tots_B (cap := cap) p1 pm hx T5) g5 (fun v w T d h => h.rt) (fun v w' h => belL_pz h.choose_spec.2.2) zF24 (by simp [zK]) Try.func24 rfl rfl rfl rfl rfl (by k_ne) (by simp [Act.eval]) (fun v w6 h6 => ?_)
  obtain ⟨b6, rfl, O6, k6⟩ := h6
  have B6 := B5.trans k6 B5.size
  have g6 := gc_belL k6 g5
  have O56 := tks_low k6 O5
  clear B5 g5 T5 k6
  walk_nrm
  refine bt_call (R := RTr w6) zgOk (eqts_B (cap := l.length) (cb := l.length) p1 pm O56 O6) g6 (fun v w T d h => h.rt) (fun v w' h => belL_pz h.2) zF26 (by simp [zK]) Try.func26 rfl rfl rfl rfl rfl (by k_ne) (by simp [Act.eval]) (fun v w7 h7 => ?_)
  obtain ⟨rfl, k7⟩ := h7
  have B7 := B6.trans k7 B6.size
  clear B6 g6 O6 O56 k7
  walk_nrm
  (repeat (first | (first | refine bt_ctl rfl (fun _ => stepG_seq) ?_ | refine bt_ctl rfl (fun _ => stepG_block) ?_ | refine bt_ctl rfl (fun _ => stepG_inBlock) ?_ | refine bt_ctl rfl (fun _ => stepG_skip) ?_ | refine bt_ctl rfl (fun _ => stepG_region_end) ?_ | refine bt_ctl rfl (fun _ => stepG_ret') ?_ | (refine bt_ctl rfl (fun _ => stepG_region) ?_; simp only [List.size_toArray, List.length_cons, List.length_nil, Nat.reduceAdd, Nat.zero_add, List.range, List.range.loop])) | (refine bt_cons zgOk.bodied rfl (by rfl) (by decide) (by decide) (fun dzz Kzz hKzz => ?_); go_simp; refine hKzz _ _ (fun b hb => hb) (bt_at ?_); clear hKzz Kzz; try walk_nrm) | (refine bt_skip rfl (by rfl) ?_; try walk_nrm)))
  (refine bt_ctl rfl (fun _ => stepG_cond (t := false) rfl) ?_; simp only [if_true, if_false, Bool.false_eq_true, ↓reduceIte])
  (repeat (first | (first | refine bt_ctl rfl (fun _ => stepG_seq) ?_ | refine bt_ctl rfl (fun _ => stepG_block) ?_ | refine bt_ctl rfl (fun _ => stepG_inBlock) ?_ | refine bt_ctl rfl (fun _ => stepG_skip) ?_ | refine bt_ctl rfl (fun _ => stepG_region_end) ?_ | refine bt_ctl rfl (fun _ => stepG_ret') ?_ | (refine bt_ctl rfl (fun _ => stepG_region) ?_; simp only [List.size_toArray, List.length_cons, List.length_nil, Nat.reduceAdd, Nat.zero_add, List.range, List.range.loop])) | (refine bt_cons zgOk.bodied rfl (by rfl) (by decide) (by decide) (fun dzz Kzz hKzz => ?_); go_simp; refine hKzz _ _ (fun b hb => hb) (bt_at ?_); clear hKzz Kzz; try walk_nrm) | (refine bt_skip rfl (by rfl) ?_; try walk_nrm)))
  exact bt_end7 rfl rfl ⟨B7.os, B7.output, B7.size, B7.block⟩
end Go.Proofs.Ytpmmimcafkillaa.Tr
