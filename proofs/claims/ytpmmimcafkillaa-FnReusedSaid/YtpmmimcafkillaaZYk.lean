/-
  The contract of roundsOf: each task stands in the first round behind all that it needs; new memory alone.
  workedOut, beside leavers: steps.
  workedOut, beside leavers: what is held from round to round; its pieces.
-/
import Derived.Test.YtpmmimcafkillaaZRnM
import Derived.Test.YtpmmimcafkillaaZFmM
import Derived.Deep.CutRange
import Derived.Deep.CutBlock
import Derived.Lib.MinMax
import Derived.Test.YtpmmimcafkillaaZYi
namespace Go.Proofs.Ytpmmimcafkillaa.Rn
open Go Go.RowKit
open Go.Proofs.Ytpmmimcafkillaa
open Go.Proofs.Ytpmmimcafkillaa.Rs
set_option linter.unusedVariables false
set_option linter.unusedSimpArgs false
def plF (ts : List Tv) (zs : List Int) : Int := (zs.map fun n => (outOf plR ts).getD n.toNat 0).foldl (fun p x => if p < x + 1 then x + 1 else p) 0
theorem plF_snoc {ts : List Tv} {zs : List Int} {q : Nat} {z : Int} (hz : zs[q]? = some z) : plF ts (zs.take (q + 1)) = max (plF ts (zs.take q)) ((outOf plR ts).getD z.toNat 0 + 1) := by
  have e : zs.take (q + 1) = zs.take q ++ [z] := by rw [List.take_add_one, hz]; rfl
  rw [e, plF, List.map_append, List.foldl_append]
  show (if plF ts (zs.take q) < _ then _ else plF ts (zs.take q)) = _
  simp only [Int.max_def]
  split <;> split <;> omega
theorem plF_all {ts : List Tv} {k : Nat} {t : Tv} (hj : jobOk ts = true) (ht : ts[k]? = some t) : plF ts t.2.2.1 = (plc ts k : Int) := by
  have h := plc_at hj ht
  rw [out_at hj ht] at h
  exact Option.some.inj h
def RdP (w : World) (n : Nat) (rs : List (List Int)) (e : Ending) (w' : World) : Prop := ∃ gP g c gs ps sl, e = .returned (.slice (some ⟨g, 0, none⟩) rs.length c) ∧ RM w w' gP g c n gs ps rs sl
set_option maxRecDepth 100000 in
set_option maxHeartbeats 6400000 in
theorem irnd_any (a : Option Addr) (cap : Nat) (ts : List Tv) (w : World) (hl : ts.length ≤ maxLen) (hj : jobOk ts = true) (hr : Tks w a ts) :
    Calls Try.prog 57 #[.slice a ts.length cap] w (RdP w ts.length (rnds ts)) := by
  have hr' := hide hr
  have hj' := hide hj
  have hs200 : ts.length ≤ 200 := job_short hj
  clear hr hj hl
  obtain ⟨i1, hi, hy0, hy1, hy2⟩ := info_parts (show (Try.prog.info? 3).map (fun i => (i.zero, i.size, i.bytes)) = some (some (.int .i64 0), 1, 8) by kernel_rfl)
  go_enter Try.func57, Try.ntmps57
  go_wp2_with (refine wpList_make_full _ rfl _ _ 105 rfl w.heap.size 3 i1 (.int .i64 0) 1 Try.underlying105 hi hy0 hy1 .i64 .i64 _ _ ts.length rfl rfl rfl rfl ?b2 ?b3 ?b4 ?_)
  case b2 => rw [hy2]; omega
  case b3 => unfold maxLen; omega
  case b4 => simp
  intro w2 oP gw2
  have B1 := hide (show Below w.heap.size w (w.alloc (.cells #[] 29)) from (Below.refl _ _).alloc (Nat.le_refl _) _)
  have R1 := hide (show OwnR (w.alloc (.cells #[] 29)) w.heap.size w.heap.size 0 0 [] from ⟨rfl, .inr ⟨w.heap.size, 0, #[], rfl, Nat.le_refl _, heap_alloc_new w _, Nat.le_refl _, by unfold maxLen; omega, rfl, rfl⟩⟩)
  have M0 := hide (show RM w w2 (w.heap.size + 1) w.heap.size 0 ts.length [] (midI (outOf plR ts) ts.length 0) [] [] from
    ⟨by show World.ownsRow _ _ _ _ _ _ _; rw [show midI (outOf plR ts) ts.length 0 = List.replicate ts.length (0 : Int) by simp [midI], ← made_I]; simpa using oP, ownsRow_below (unhide R1) (grown_none gw2), fun p q l h => (by simp at h), rfl, fun p q l h => (by simp at h), fun p p' q q' h => (by simp at h), laterB (unhide B1) (grown_none gw2)⟩)
  clear oP gw2 B1 R1 hi hy0 hy1 hy2
  generalize w.heap.size + 1 = gP at *
  have hrn0 := hide (show rn ts 0 = [] from rfl)
  obtain ⟨gR0, hgR0⟩ : ∃ gR0, w.heap.size = gR0 := ⟨_, rfl⟩
  have M1 := hide (show RM w w2 gP gR0 0 ts.length [] (midI (outOf plR ts) ts.length 0) [] [] by rw [← hgR0]; exact unhide M0)
  rw [hgR0]
  clear M0 hgR0
  go_wp2
  go_loopw [3, 16] (fun u t wr => ∃ (k gR cR m : Nat) (gs : List (Nat × Nat)) (sl : List Value), k ≤ ts.length ∧ t = .int .i64 k ∧ u = .slice (some ⟨gR, 0, none⟩) m cR ∧ Hid ((rn ts k).length = m) ∧ m ≤ k ∧ Hid (RM w wr gP gR cR ts.length gs (midI (outOf plR ts) ts.length k) (rn ts k) sl)) (fun _ t _ => ts.length - (intOf t).toNat)
  case atStart => exact ⟨0, gR0, 0, 0, [], [], by omega, rfl, rfl, hide rfl, by omega, M1⟩
  case round =>
    obtain ⟨k, gR, cR, m, gs, sl, hk, rfl, rfl, hm, hmk, hM⟩ := hrel
    clear M1 hrn0
    by_cases hlt : k < ts.length
    rotate_left
    · have hke : k = ts.length := by omega
      have gk : decide ((k : Int) < ts.length) = false := by simp; omega
      have hfin := hide (show RdP w ts.length (rnds ts) (.returned (.slice (some ⟨gR, 0, none⟩) m cR)) wr by
        subst hke
        exact ⟨gP, gR, cR, gs, _, sl, by rw [rnds, unhide hm], unhide hM⟩)
      clear hM hke
      go_wp2
      go_ret
      exact unhide hfin
    have gk : decide ((k : Int) < ts.length) = true := by simp; omega
    obtain ⟨b, o, p, c, t, rfl, hx, i1, c0, c1, c2, c3, hK, hmx⟩ := tks_at (unhide hr') (unhide hM).bel hlt
    have hx' := hide hx
    have hK' := hide hK
    have hmx' := hide hmx
    have hn10 := (job_tok (unhide hj') hx).len
    clear hx hK hmx
    rename World => wo
    go_wp2
    have hb5 := hide (show Below wo.heap.size wo (wo.alloc (.cells #[.int .i64 t.1, .int .i64 t.2.1, .slice p t.2.2.1.length c, .int .i64 t.2.2.2] 33)) from (Below.refl _ _).alloc (Nat.le_refl _) _)
    generalize wo.alloc (.cells #[.int .i64 t.1, .int .i64 t.2.1, .slice p t.2.2.1.length c, .int .i64 t.2.2.2] 33) = w5 at *
    have hM5 := hide ((unhide hM).later (unhide hb5))
    have hI5 := hide ((unhide hK').below (unhide hb5))
    generalize wo.heap.size = bT at *
    clear hb5 hM hK' c0 c1 c2 c3 i1
    go_loop [7, 24] (fun u v => ∃ (q : Nat) (x : Int), q ≤ t.2.2.1.length ∧ v = .int .i64 q ∧ u = .int .i64 x ∧ Hid (x = plF ts (t.2.2.1.take q)) ∧ Hid (x ≤ 200)) (fun _ v => t.2.2.1.length - (intOf v).toNat)
    case atStart => exact ⟨0, 0, by omega, rfl, rfl, hide (by simp [plF]), hide (by omega)⟩
    case round =>
      obtain ⟨q, x, hq, rfl, rfl, hpx, hx200⟩ := hrel
      by_cases hql : q < t.2.2.1.length
      · have gq : decide ((q : Int) < t.2.2.1.length) = true := by simp; omega
        obtain ⟨b2, o2, z, rfl, hz, i2, d0⟩ := ins_at (unhide hI5) (Below.refl _ _) hql
        have hnd := (job_tok (unhide hj') (unhide hx')).need z (List.mem_of_getElem? hz)
        obtain ⟨zn, rfl⟩ := Int.eq_ofNat_of_zero_le hnd.1
        have hzk : zn < k := by omega
        have hpl := plc_at (unhide hj') (List.getElem?_eq_getElem (show zn < ts.length by omega))
        have hsn := hide (plF_snoc (ts := ts) hz)
        have hgd : (outOf plR ts).getD zn 0 = (plc ts zn : Int) := by rw [List.getD_eq_getElem?_getD, hpl]; rfl
        have hcb : 0 ≤ (plc ts zn : Int) ∧ (plc ts zn : Int) < 200 := by
          have h1 := (ri_rn (unhide hj') k hk).all zn hzk
          have := unhide hm
          omega
        have hst := hide (show plF ts (t.2.2.1.take (q + 1)) = max x ((plc ts zn : Int) + 1) by rw [unhide hsn, ← unhide hpx, Int.toNat_natCast, hgd])
        have hmid : ((midI (outOf plR ts) ts.length k).map iv)[zn]? = some (iv (plc ts zn : Int)) := by
          rw [List.getElem?_map, midI, List.getElem?_append_left (by rw [List.length_take, out_len]; omega), List.getElem?_take_of_lt hzk, hpl]; rfl
        obtain ⟨v5, e0, e1, e2, _⟩ := own_at (i := zn) (unhide hM5).P (by omega)
        obtain rfl : v5 = iv (plc ts zn : Int) := Option.some.inj (e2.symm.trans hmid)
        have h200 := unhide hx200
        clear hsn hgd hmid e2 hpl hnd hz i2 hpx
        have hzl : zn < ts.length := by omega
        generalize (plc ts zn : Int) = c5 at *
        have gw : IntKind.i64.wrap (c5 + 1) = c5 + 1 := by rw [IntKind.wrap_i64]; omega
        go_wp2
        go_round
        case rel => exact ⟨q + 1, _, by omega, by go_num, rfl, hide (by rw [unhide hst]), hide (by simp only [Int.max_def]; split <;> omega)⟩
        case measure => simp [intOf]; omega
      · have gq : decide ((q : Int) < t.2.2.1.length) = false := by simp; omega
        have hqe : q = t.2.2.1.length := by omega
        have hpk0 : x = (plc ts k : Int) := by
          have h1 := unhide hpx
          rw [hqe, List.take_length, plF_all (unhide hj') (unhide hx')] at h1
          exact h1
        have hpk := hide hpk0
        clear hpx hqe hpk0
        obtain ⟨P, hP⟩ : ∃ P : Nat, plc ts k = P := ⟨_, rfl⟩
        have hxP : x = (P : Int) := by rw [unhide hpk, hP]
        subst hxP
        have hPm : P ≤ m := by
          rcases plc_low (unhide hj') (unhide hx') with h | ⟨j, h1, h2⟩
          · omega
          · have := (ri_rn (unhide hj') k hk).all j h1
            have := unhide hm
            omega
        have hP' := hide hP
        clear hP hpk
        obtain ⟨bt, hbt⟩ : ∃ bt, ((P : Int) == (m : Int)) = bt := ⟨_, rfl⟩
        go_upto_if 39 with fail
        have hbt' := hide hbt
        clear hbt
        go_cut [3] from 40 to 43 (fun u wx => ∃ (gR2 cR2 m2 : Nat) (gs2 : List (Nat × Nat)) (sl2 : List Value) (rs2 : List (List Int)), u = .slice (some ⟨gR2, 0, none⟩) m2 cR2 ∧ Hid (rs2 = if P = (rn ts k).length then rn ts k ++ [[]] else rn ts k) ∧ Hid (rs2.length = m2) ∧ P < m2 ∧ m2 ≤ k + 1 ∧ Hid (RM w wx gP gR2 cR2 ts.length gs2 (midI (outOf plR ts) ts.length k) rs2 sl2))
        case first =>
          cases bt with
          | true =>
            have hnew : P = m := by have := unhide hbt'; simp at this; omega
            have hnew' := hide hnew
            clear hnew
            have hsl := (unhide hM5).R.1
            have hmm := unhide hm
            go_wp2_with (refine wpList_oX _ rfl _ _ rfl w.heap.size gR m cR sl (.slice (some ⟨w5.heap.size, 0, none⟩) 0 0) rfl rfl ?b1 (w5.heap.size + 1) ?b2 rfl ?b3 ?b4 ?_)
            case b1 => have h1 := ownsRow_below (unhide hM5).R ((Below.refl _ _).alloc (Nat.le_refl _) (.cells #[] 2)); rw [hmm] at h1; exact h1
            case b3 => omega
            case b4 => have := (unhide hM5).bel.size; simp; omega
            intro g' cap' w7 ho hg
            have hfin := hide ((unhide hM5).more (g' := g') (cap' := cap') (by rw [hmm]; exact ho) hg (by rw [hsl]; omega))
            clear ho hg
            go_wp2_with fail
            go_meet
            exact ⟨g', cap', m + 1, _, _, _, rfl, hide (by rw [if_pos (by have := unhide hnew'; omega)]), hide (by simp; omega), by have := unhide hnew'; omega, by omega, hfin⟩
          | false =>
            have hnew : P ≠ m := by have := unhide hbt'; simp at this; omega
            go_wp2_with fail
            go_meet
            exact ⟨gR, cR, m, gs, sl, _, rfl, hide (by rw [if_neg (by have := unhide hm; omega)]), hm, by omega, by omega, hM5⟩
        case rest =>
          obtain ⟨gR2, cR2, m2, gs2, sl2, rs2, rfl, hrs2, hm2, hPm2, hmk2, hM6⟩ := hcut
          rename World => w6
          clear hM5 hI5
          have hmidk := hide (show (midI (outOf plR ts) ts.length k).set k (P : Int) = midI (outOf plR ts) ts.length (k + 1) from midI_set (out_len _ _) (by rw [plc_at (unhide hj') (unhide hx'), unhide hP']))
          have hmlen : ((midI (outOf plR ts) ts.length k).map iv).length = ts.length := by rw [List.length_map]; exact midI_len (out_len _ _) hk
          obtain ⟨v5, e0, e1, e2, _⟩ := own_at (i := k) (unhide hM6).P (by omega)
          have hM7 := hide ((unhide hM6).place k (P : Int))
          have hk200 : k < 200 := by omega
          clear e2 hmlen hM6
          go_upto_region 15 with fail
          generalize w6.setCell ⟨gP, k, none⟩ (.int .i64 P) = w8 at *
          clear e0 e1
          rw [unhide hmidk] at hM7
          have hlr := (unhide hM7).len
          obtain ⟨q, hq0⟩ : ∃ q, gs2[P]? = some q := ⟨gs2[P]'(by have := unhide hm2; omega), List.getElem?_eq_getElem _⟩
          obtain ⟨l, hl0⟩ : ∃ l, rs2[P]? = some l := ⟨rs2[P]'(by have := unhide hm2; omega), List.getElem?_eq_getElem _⟩
          obtain ⟨v6, d0, d1, d2, _⟩ := own_at (i := P) (unhide hM7).R (by have := unhide hm2; omega)
          obtain rfl : v6 = slv q l := Option.some.inj (d2.symm.trans ((unhide hM7).sl P q l hq0 hl0))
          have hq := hide hq0
          have hl := hide hl0
          have hI8 := hide ((unhide hM7).I P q l hq0 hl0)
          have hbel8 := hide (unhide hM7).bel.size
          have hll : l.length ≤ 200 := by
            have h1 := unhide hrs2
            rw [h1] at hl0
            have h2 : (rn ts k)[P]? = some l ∨ l = [] := by
              split at hl0
              · rcases Nat.lt_or_ge P (rn ts k).length with h | h
                · rw [List.getElem?_append_left h] at hl0; exact .inl hl0
                · rw [List.getElem?_append_right h] at hl0
                  right
                  have := List.mem_of_getElem? hl0
                  simpa using this
              · exact .inl hl0
            rcases h2 with h2 | rfl
            · have := ((ri_rn (unhide hj') k hk).mem P l h2).2.2; omega
            · simp
          have hnext := hide (show rn ts (k + 1) = rs2.modify P (· ++ [(k : Int)]) by rw [rn, rput, unhide hP', unhide hrs2])
          clear d2 hq0 hl0 hlr
          simp only [slv] at d0
          go_wp2_with (refine wpList_iX _ rfl _ _ rfl w.heap.size q.1 l.length q.2 l (k : Int) rfl (unhide hI8) rfl ?b3 ?b4 ?_)
          case b3 => omega
          case b4 => exact unhide hbel8
          intro g' cap' w9 ho hg hlie
          have hM9 := hide ((unhide hM7).grow (unhide hq) (unhide hl) ho hg hlie)
          have hR9 := own_kept (ownsRow_below (unhide hM7).R ((Below.refl _ _).alloc (Nat.le_refl _) (.cells #[.int .i64 (k : Int)] 2))) hg (row_ty (unhide hM7).R (unhide hI8) (by decide))
          obtain ⟨v7, f0, f1, f2, _⟩ := own_at (i := P) hR9 (by have := unhide hm2; omega)
          clear f2 hR9 ho hg hlie d0 d1 hI8
          go_wp2
          go_roundw
          case rel => exact ⟨k + 1, gR2, cR2, m2, _, _, by omega, by go_num, rfl, hide (by rw [unhide hnext, List.length_modify, unhide hm2]), hmk2, by rw [unhide hnext]; exact hM9⟩
          case measure => simp [intOf]; omega
end Go.Proofs.Ytpmmimcafkillaa.Rn

set_option linter.unusedVariables false
set_option linter.unusedSimpArgs false
namespace Go.Proofs.Ytpmmimcafkillaa.Tr
open Go Go.Conc Go.ConcN Go.RowKit Go.Conc.Lib Go.ConcR.Gen Go.ConcM
open Go.ConcR (KK wgBlock WgAt stA smA rd wr mk DC0)
open Go.Proofs.Ytpmmimcafkillaa.Br (BT BTS Hd Hid Pz Pst Shn Thr EvN bt_ctl bt_cons bt_skip bt_call CallsB)
section
variable {P : Program} {Q : Goroutine → World → Prop}
/-- one step of goroutine 0's own, known in whatever world is seen so -/
theorem bt_known [Thr] {g g' : Goroutine} {w w' : World} (hrun : g.status = .running) (h : ∀ S W, Hd S w W → ∃ W' es, stepG P true g W = .go g' W' es ∧ Hd S w' W' ∧ (∀ e ∈ es, EvN S e) ∧ deafBehind 0 es = 0) (hn : BT P Q g' w') : BT P Q g w := fun S =>
  Br.BTS.step hrun fun W hh => by
    obtain ⟨W', es, h1, h2, h3, h4⟩ := h S W hh
    exact ⟨g', w', W', es, h1, h2, h3, by rw [h4]; exact hn S⟩
theorem hd_alloc [Thr] {S : Nat → Prop} {w W : World} (h : Hd S w W) (ob : Obj) : Hd S (w.alloc ob) (W.alloc ob) := by
  have hsz : W.heap.size = w.heap.size := h.size
  refine ⟨⟨h.tape, rfl, h.os, h.output, by show (W.heap.push ob).size = (w.heap.push ob).size; simp [hsz], fun b hb => ?_, fun b hb => ?_⟩, h.thr⟩
  · show (W.heap.push ob)[b]? = (w.heap.push ob)[b]?
    rw [Array.getElem?_push, Array.getElem?_push, hsz]
    split
    · rfl
    · exact h.out b hb
  · obtain ⟨c, e, h1, h2⟩ := h.inn b hb
    have hlt : b < w.heap.size := (Array.getElem?_eq_some_iff.1 h1).1
    refine ⟨c, e, ?_, ?_⟩
    · show (w.heap.push ob)[b]? = _
      rw [Array.getElem?_push, if_neg (by omega)]; exact h1
    · show (W.heap.push ob)[b]? = _
      rw [Array.getElem?_push, if_neg (by omega)]; exact h2
/-- a cell that is seen is there -/
theorem hd_cell [Thr] {S : Nat → Prop} {w W : World} (h : Hd S w W) {ad : Addr} {v : Value} (hc : w.cell? ad = some v) : W.cell? ad = some v ∧ ¬ S ad.block := by
  have hns : ¬ S ad.block := fun hs => by
    obtain ⟨c, e, h1, _⟩ := h.inn _ hs
    have h1' : w.heap[ad.block]? = some (.cells #[] e (0, 0)) := h1
    simp [World.cell?, h1'] at hc
  exact ⟨cell_blk (h.out _ hns) hc, hns⟩
theorem bt_load [Thr] {g g' : Goroutine} {w : World} {ad : Addr} {v : Value} (hrun : g.status = .running) (hc : w.cell? ad = some v) (h : ∀ W : World, W.cell? ad = some v → stepG P true g W = .go g' W #[⟨.cell ad, false, false⟩]) (hn : BT P Q g' w) : BT P Q g w :=
  bt_known hrun (fun S W hh => ⟨_, _, h W (hd_cell hh hc).1, hh, (by intro e he; simp at he; subst he; exact evN_cell (hd_cell hh hc).2), rfl⟩) hn
end
section
variable {main : Bool} {b : Frame} {a : Act} {kk : List Item} {cs : List Frame} {w : World} {ops : Array Oper} {i : Nat} {rest : List Nat} {o : Oper}
theorem stepG_makeMap {x : Operand} (ho : ops[i]? = some o) (hw : Region.wanted o (yielded ops a.tmps) = true) (hk : b.kind ≠ .early) (hop : o.op = .makeMap 79 (some x)) {n : Nat} (hn : n ≤ 100000) (hx : a.eval x = .int .i64 (n : Int)) :
    stepG Try.prog main (G (b.at a (.inRegion ops (i :: rest) :: kk)) cs) w = .go (G (b.at (a.put o.dst (.map (some w.heap.size))) (.inRegion ops rest :: kk)) cs) (w.alloc (.map #[] 0)) #[] := by
  have hr : (execOp a.eval o).run Try.prog w = .ok (.value (.map (some w.heap.size))) (w.alloc (.map #[] 0)) := by
    unfold execOp
    simp only [hop, Option.map_some, hx]
    simp [go_sem, Instr.makeMap]
  have he : (execOp a.eval o).events Try.prog w #[] = #[] := by
    unfold execOp
    simp only [hop, Option.map_some, hx]
    simp [go_sem, Instr.makeMap]
  rw [stepG_value ho hw hk hr]
  unfold listed
  rw [he, seen_none]
end
end Go.Proofs.Ytpmmimcafkillaa.Tr

set_option linter.unusedVariables false
set_option linter.unusedSimpArgs false
namespace Go.Proofs.Ytpmmimcafkillaa.Tr
open Go Go.Conc Go.ConcN Go.RowKit Go.Conc.Lib Go.ConcR.Gen Go.ConcM
open Go.ConcR (KK wgBlock WgAt stA smA rd wr mk DC0)
open Go.Proofs.Ytpmmimcafkillaa.Br (BT BTS Hd Hid Pz Pst Shn Thr EvN bt_ctl bt_cons bt_skip bt_call CallsB rt)
open Go.Proofs.Ytpmmimcafkillaa.Rs (Rule outOf out_at out_len plc plc_need rnds rn rput rnds round_at round_len ri_rnds ri_rn plc_low)
open Go.Proofs.Ytpmmimcafkillaa (Tv Tks Ins jobOk job_tok TOk job_short OwnI ownI_at own_ge own_at own_lt)
open Go.Proofs.Ytpmmimcafkillaa.Rn (slv RM RdP irnd_any)
/-- below N all stands; nothing is said of tape, draws and time -/
structure BelL (N : Nat) (a b : World) : Prop where
  os : Later a.os b.os
  output : b.output = a.output
  size : a.heap.size ≤ b.heap.size
  block : ∀ k, k < N → b.heap[k]? = a.heap[k]?
theorem BelL.refl (N : Nat) (a : World) : BelL N a a := ⟨.refl _, rfl, Nat.le_refl _, fun _ _ => rfl⟩
theorem BelL.trans {N M : Nat} {a b c : World} (h : BelL N a b) (k : BelL M b c) (hNM : N ≤ M) : BelL N a c := ⟨h.os.trans k.os, k.output.trans h.output, Nat.le_trans h.size k.size, fun i hi => (k.block i (by omega)).trans (h.block i hi)⟩
theorem BelL.mono {N M : Nat} {a b : World} (h : BelL N a b) (hM : M ≤ N) : BelL M a b := ⟨h.os, h.output, h.size, fun i hi => h.block i (by omega)⟩
theorem gc_belL {w w' : World} (h : BelL w.heap.size w w') (hg : Br.GC Try.prog w) : Br.GC Try.prog w' := fun g hgg => by
  obtain ⟨c, t, f, e⟩ := hg g hgg
  exact ⟨c, t, f, (h.block g (Array.getElem?_eq_some_iff.1 e).1).trans e⟩
theorem belL_pz {w w' : World} (h : BelL w.heap.size w w') : ∀ b, Pz w b → Pz w' b := fun b ⟨e, he⟩ => ⟨e, (h.block b (Array.getElem?_eq_some_iff.1 he).1).trans he⟩
theorem belL_cell {w w' : World} {N : Nat} (h : BelL N w w') {ad : Addr} {x : Value} (hb : ad.block < N) (hc : w.cell? ad = some x) : w'.cell? ad = some x := cell_blk (h.block _ hb) hc
/-- the rounds, as they are read -/
def RdA (N : Nat) (w : World) (g c : Nat) (rs : List (List Int)) : Prop := N ≤ g ∧ ∀ (p : Nat) l, rs[p]? = some l → ∃ q cq, w.cell? ⟨g, p, none⟩ = some (slv (q, cq) l) ∧ (N ≤ q ∧ q < w.heap.size) ∧ ∀ (k : Nat) x, l[k]? = some x → w.cell? ⟨q, k, none⟩ = some (.int .i64 x)
theorem rdA_of {w w' : World} {gP g c n : Nat} {gs : List (Nat × Nat)} {ps : List Int} {rs : List (List Int)} {sl : List Value} (h : RM w w' gP g c n gs ps rs sl) : RdA w.heap.size w' g c rs := by
  refine ⟨own_ge h.R, fun p l hl => ?_⟩
  have hp : p < rs.length := (List.getElem?_eq_some_iff.1 hl).1
  obtain ⟨q, hq⟩ : ∃ q, gs[p]? = some q := ⟨gs[p]'(by rw [h.len]; exact hp), List.getElem?_eq_getElem _⟩
  obtain ⟨v, h1, _, h3, _⟩ := own_at (i := p) h.R (by omega)
  have hs := h.sl p q l hq hl
  rw [h3] at hs
  have hI := h.I p q l hq hl
  exact ⟨q.1, q.2, by rw [h1, Option.some.inj hs], ⟨own_ge hI, own_lt hI⟩, fun k x hx => ownI_at hx hI⟩
theorem RdA.bel {N M : Nat} {w w' : World} {g c : Nat} {rs : List (List Int)} (h : RdA N w g c rs) (hb : ∀ b, N ≤ b → b < w.heap.size → (∀ e, w.heap[b]? ≠ some (.cells #[.int .u64 0, .int .u32 0] e (0, 0))) → w'.heap[b]? = w.heap[b]?) (hs : w.heap.size ≤ w'.heap.size) : RdA N w' g c rs := by
  refine ⟨h.1, fun p l hl => ?_⟩
  obtain ⟨q, cq, h1, h2, h3⟩ := h.2 p l hl
  refine ⟨q, cq, cell_blk (hb _ h.1 (cell_lt h1) (fun e he => ?_)) h1, ⟨h2.1, Nat.lt_of_lt_of_le h2.2 hs⟩, fun k x hx => cell_blk (hb _ h2.1 (cell_lt (h3 k x hx)) (fun e he => ?_)) (h3 k x hx)⟩
  · simp only [World.cell?, he] at h1
    rcases p with _ | _ | p <;> simp [slv] at h1
  · have h4 := h3 k x hx
    simp only [World.cell?, he] at h4
    rcases k with _ | _ | k <;> simp at h4
/-- how many have been worked out behind p rounds -/
def cnt (ts : List Tv) (p : Nat) : Nat := ((rnds ts).take p).flatten.length
theorem cnt_succ {ts : List Tv} {p : Nat} {l : List Int} (h : (rnds ts)[p]? = some l) : cnt ts (p + 1) = cnt ts p + l.length := by
  unfold cnt
  rw [List.take_add_one, h]
  simp
theorem rput_flat (rs : List (List Int)) (p i : Nat) (hp : p ≤ rs.length) : (rput rs p i).flatten.length = rs.flatten.length + 1 := by
  have key : ∀ (rs : List (List Int)) (p : Nat), p < rs.length → (rs.modify p (· ++ [(i : Int)])).flatten.length = rs.flatten.length + 1 := by
    intro rs
    induction rs with
    | nil => intro p hp; simp at hp
    | cons x rs ih =>
      intro p hp
      cases p with
      | zero => simp; omega
      | succ p =>
        have := ih p (by simpa using hp)
        simp only [List.modify_succ_cons, List.flatten_cons, List.length_append]
        omega
  unfold rput
  split
  · rw [key _ _ (by simp; omega)]; simp
  · exact key _ _ (by omega)
theorem rn_flat {ts : List Tv} (hj : jobOk ts = true) : ∀ k, k ≤ ts.length → (rn ts k).flatten.length = k
  | 0, _ => by simp [rn]
  | k + 1, hk => by
    have ih := rn_flat hj k (by omega)
    have hle : plc ts k ≤ (rn ts k).length := by
      rcases plc_low hj (List.getElem?_eq_getElem (show k < ts.length by omega)) with h | ⟨j, h1, h2⟩
      · omega
      · have := (ri_rn hj k (by omega)).all j h1; omega
    rw [rn, rput_flat _ _ _ hle, ih]
theorem cnt_all {ts : List Tv} (hj : jobOk ts = true) : cnt ts (rnds ts).length = ts.length := by
  unfold cnt
  rw [List.take_length]
  exact rn_flat hj _ (Nat.le_refl _)
theorem cntR_le {ts : List Tv} (hj : jobOk ts = true) (p : Nat) : cnt ts p ≤ ts.length := by
  have h := rn_flat hj ts.length (Nat.le_refl _)
  have e : (rnds ts).flatten.length = ((rnds ts).take p).flatten.length + ((rnds ts).drop p).flatten.length := by
    rw [← List.length_append, ← List.flatten_append, List.take_append_drop]
  unfold cnt
  have : (rnds ts).flatten.length = ts.length := h
  omega
/-- ████ WHAT IS HELD BEHIND p ROUNDS ████ -/
structure InvW (ts : List Tv) (f : Rule) (wv : World) (a : Option Addr) (cap : Nat) (rule : Value) (g c : Nat) (p : Nat) (w : World) : Prop where
  bel : BelL wv.heap.size wv w
  jb : w.cell? ⟨wv.heap.size, 0, none⟩ = some (.slice a ts.length cap)
  rb : w.cell? ⟨wv.heap.size + 1, 0, none⟩ = some rule
  lg : w.heap[wv.heap.size + 3]? = some (.cells #[.int .i32 0, .int .u32 0, .map (some (wv.heap.size + 2)), .int .i64 (cnt ts p : Int)] 92 (0, 0))
  mp : ∀ l, HeldA (wv.heap.size + 2) ts (outOf f ts) p l [] w
  bk : w.cell? ⟨wv.heap.size + 4, 0, none⟩ = some (.pointer (some ⟨wv.heap.size + 3, 0, none⟩))
  rd : RdA (wv.heap.size + 5) w g c (rnds ts)
end Go.Proofs.Ytpmmimcafkillaa.Tr
