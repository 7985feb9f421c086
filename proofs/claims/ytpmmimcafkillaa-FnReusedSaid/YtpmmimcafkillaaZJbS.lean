/-
  The contract of the program's greatestSum: nothing that was there is written.
  Critical, and the results, beside leavers.
  Contracts of the model's JobOk and of what it calls; nothing that was there is written.
-/
import Derived.Test.YtpmmimcafkillaaZJbP
import Derived.Test.YtpmmimcafkillaaZXp
import Derived.Test.YtpmmimcafkillaaZYo
namespace Go.Proofs.Ytpmmimcafkillaa
open Go.RowKit
set_option linter.unusedVariables false
set_option linter.unusedSimpArgs false
end Go.Proofs.Ytpmmimcafkillaa

set_option linter.unusedVariables false
set_option linter.unusedSimpArgs false
namespace Go.Proofs.Ytpmmimcafkillaa.Tr
open Go Go.Conc Go.RowKit
open Go.Proofs.Ytpmmimcafkillaa.Br (BT BTS Hd Hid Pz Pst Shn Thr EvN bt_ctl bt_cons bt_skip bt_call bt_callB bt_enter CallsB rt)
open Go.Proofs.Ytpmmimcafkillaa.Rs (Rule outOf out_at out_len resR dtR hst)
open Go.Proofs.Ytpmmimcafkillaa (Tv Tks Ins jobOk job_tok TOk job_short)
section
variable {main : Bool} {b : Frame} {a : Act} {kk : List Item} {cs : List Frame} {w : World} {ops : Array Oper} {i : Nat} {rest : List Nat} {o : Oper}
theorem stepG_mkf {g : Nat} {xs : Array Operand} (ho : ops[i]? = some o) (hw : Region.wanted o (yielded ops a.tmps) = true) (hk : b.kind ≠ .early) (hop : o.op = .makeFunc (.func g) #[] xs) :
    stepG Try.prog main (G (b.at a (.inRegion ops (i :: rest) :: kk)) cs) w = .go (G (b.at (a.put o.dst (.func (.func g) #[] (xs.map a.eval))) (.inRegion ops rest :: kk)) cs) w #[] := by
  have hr : (execOp a.eval o).run Try.prog w = .ok (.value (.func (.func g) #[] (xs.map a.eval))) w := by
    unfold execOp
    simp only [hop]
    simp [go_sem, Instr.makeFunc]
  have he : (execOp a.eval o).events Try.prog w #[] = #[] := by
    unfold execOp
    simp only [hop]
    simp [go_sem, Instr.makeFunc]
  rw [stepG_value ho hw hk hr]
  unfold listed
  rw [he, seen_none]
end
theorem bt_pure [Thr] {P : Program} {Q : Goroutine → World → Prop} {g g' : Goroutine} {w : World} (hrun : g.status = .running) (h : ∀ W : World, stepG P true g W = .go g' W #[]) (hn : BT P Q g' w) : BT P Q g w :=
  bt_known hrun (fun S W hh => ⟨_, _, h W, hh, by simp, rfl⟩) hn
theorem loud48 : (Try.prog.funcs[(base 48).fn]?).any (·.norace) = false := by kernel_rfl
theorem nm42 : (Try.f42.name == "runtime.NumGoroutine") = false := by kernel_rfl
theorem b42 : Try.f42.body.isNone = false := by kernel_rfl
theorem zF37 : Zg.F 37 = true := by kernel_rfl
theorem zK (f : FuncId) : Zg.K f = [] := rfl
/-- below, whatever the draws -/
theorem belL_any {T : Nat → Question → Nat} {d : Nat} {w w' : World} (h : Below (rt T d w).heap.size (rt T d w) w') : BelL w.heap.size w w' := ⟨by rw [h.os]; exact .refl _, h.output, h.size, h.block⟩
section
variable {ts : List Tv} {w : World} {a : Option Addr} {cap : Nat}
def RJob (w : World) (ts : List Tv) (v : Value) (w' : World) : Prop := v = .bool (jobOk ts) ∧ BelL w.heap.size w w'
def PInt (w : World) (x : Int) (v : Value) (w' : World) : Prop := v = .int .i64 x ∧ BelL w.heap.size w w'
theorem PInt.rt {x : Int} {v : Value} {w' : World} {T : Nat → Question → Nat} {d : Nat} (h : PInt w x v w') : PInt w x v (Br.rt T d w') := ⟨h.1, ⟨h.2.os, h.2.output, h.2.size, h.2.block⟩⟩
theorem RJob.rt {v : Value} {w' : World} {T : Nat → Question → Nat} {d : Nat} (h : RJob w ts v w') : RJob w ts v (Br.rt T d w') := ⟨h.1, ⟨h.2.os, h.2.output, h.2.size, h.2.block⟩⟩
theorem job_B (hl : ts.length ≤ maxLen) (hT : Tks w a ts) (T : Nat → Question → Nat) (d : Nat) : Calls Try.prog 37 #[.slice a ts.length cap] (rt T d w) fun e w' => ∃ v, e = .returned v ∧ RJob w ts v w' :=
  calls_imp (ijob_any a cap ts (rt T d w) hl hT) fun e w' h => ⟨_, h.1, rfl, belL_any h.2⟩
theorem ins_own {w : World} {B : Nat} {l : List Int} (h : w.heap[B]? = some (.cells (l.map (Value.int .i64)).toArray 2 (0, 0))) : Ins w (some ⟨B, 0, none⟩) l := by
  intro j x hx
  refine ⟨B, 0, rfl, (Array.getElem?_eq_some_iff.1 h).1, ?_⟩
  simp [World.cell?, h, hx]
/-- what a row of one's own is, behind N -/
def PRow (w : World) (l : List Int) (v : Value) (w' : World) : Prop := ∃ B, v = .slice (some ⟨B, 0, none⟩) l.length l.length ∧ w.heap.size ≤ B ∧ w'.heap[B]? = some (.cells (l.map (Value.int .i64)).toArray 2 (0, 0)) ∧ BelL w.heap.size w w'
set_option maxRecDepth 100000 in
set_option maxHeartbeats 4000000 in
/-- ████ resultsOf ████ -/
theorem resOf_B [Thr] (hJ : jobOk ts = true) (hl : ts.length ≤ maxLen) (hT : Tks w a ts) (hg : Br.GC Try.prog w) (hTh : Thr.N ≤ w.heap.size) :
    CallsB Try.prog 48 #[.slice a ts.length cap] w (PRow w (outOf (resR ts) ts)) := by
  intro cc cs Q hk
  have e48 : Frame.enter Try.prog 48 #[.slice a ts.length cap] .normal = (base 48).at ⟨#[.slice a ts.length cap, undef, undef, undef, undef, undef], []⟩ [.code (Try.f48.body.getD .skip)] := by
    simp [Frame.enter, Frame.at, Try.func48, base, Try.f48]
  rw [e48]
  clear e48
  simp only [Try.f48, Option.getD_some]
  (repeat (first | refine kA ?_ | refine kB ?_ | refine kC ?_ | refine kD ?_ | refine kE ?_ | refine kF ?_ | (refine kG ?_; simp only [List.size_toArray, List.length_cons, List.length_nil, Nat.reduceAdd, Nat.zero_add, List.range, List.range.loop]) | (refine kO rfl (by rfl) (by decide) (by decide) (fun dzz Kzz hKzz => ?_); go_simp; refine hKzz _ _ (fun b hb => hb) (bt_at ?_); clear hKzz Kzz; try walk_nrm) | (refine bt_skip rfl (by rfl) ?_; try walk_nrm)))
  refine bt_alloc' rfl (fun W hW => by rw [stepG_box24 rfl rfl (by k_ne) rfl rfl, hW]) ?_
  walk_nrm
  obtain ⟨w1, e1, s1, b1, n1, o1, p1⟩ := alloc_out w (.cells #[.slice a ts.length cap] 24 (0, 0))
  rw [e1]
  have hB1 : BelL w.heap.size w w1 := ⟨by rw [o1]; exact .refl _, p1, by omega, b1⟩
  have c1 : w1.cell? ⟨w.heap.size, 0, none⟩ = some (.slice a ts.length cap) := by simp [World.cell?, n1]
  have hT1 : Tks w1 a ts := tks_low hB1 hT
  have hg1 : Br.GC Try.prog w1 := gc_belL hB1 hg
  clear e1 b1 n1 o1 p1
  (repeat (first | refine kA ?_ | refine kB ?_ | refine kC ?_ | refine kD ?_ | refine kE ?_ | refine kF ?_ | (refine kG ?_; simp only [List.size_toArray, List.length_cons, List.length_nil, Nat.reduceAdd, Nat.zero_add, List.range, List.range.loop]) | (refine kO rfl (by rfl) (by decide) (by decide) (fun dzz Kzz hKzz => ?_); go_simp; refine hKzz _ _ (fun b hb => hb) (bt_at ?_); clear hKzz Kzz; try walk_nrm) | (refine bt_skip rfl (by rfl) ?_; try walk_nrm)))
  refine bt_load (w := w1) rfl c1 (fun W hW => stepG_load24 rfl rfl (by k_ne) rfl rfl hW loud48) ?_
  walk_nrm
  refine bt_pure rfl (fun W => stepG_mkf rfl rfl (by k_ne) rfl) ?_
  walk_nrm
  have hR := ok66 (cap := cap) (qb := ⟨w.heap.size, 0, none⟩) hJ c1 hT1
  refine bt_callB (work_B (cap := cap) hJ hl hR hT1 (res_bd hJ) hg1 (by omega)) Try.func42 nm42 b42 rfl rfl rfl (by k_ne) (by simp [Act.eval]) (fun v w3 h3 => ?_)
  obtain ⟨B, rfl, hBge, hBB, hB3⟩ := h3
  have hB3' : BelL w.heap.size w w3 := hB1.trans hB3 (by omega)
  walk_nrm
  (repeat (first | refine kA ?_ | refine kB ?_ | refine kC ?_ | refine kD ?_ | refine kE ?_ | refine kF ?_ | (refine kG ?_; simp only [List.size_toArray, List.length_cons, List.length_nil, Nat.reduceAdd, Nat.zero_add, List.range, List.range.loop]) | (refine kO rfl (by rfl) (by decide) (by decide) (fun dzz Kzz hKzz => ?_); go_simp; refine hKzz _ _ (fun b hb => hb) (bt_at ?_); clear hKzz Kzz; try walk_nrm) | (refine bt_skip rfl (by rfl) ?_; try walk_nrm)))
  exact Br.BT.leave (v := .slice (some ⟨B, 0, none⟩) (outOf (resR ts) ts).length (outOf (resR ts) ts).length) ⟨rfl, rfl, rfl, Try.f48, Try.func48, by simp [results, Try.f48, Frame.at]⟩ (hk _ _ ⟨B, rfl, by omega, hBB, ⟨hB3'.os, hB3'.output, hB3'.size, hB3'.block⟩⟩)
def resOf (ts : List Tv) : List Int := if jobOk ts then outOf (resR ts) ts else []
end
end Go.Proofs.Ytpmmimcafkillaa.Tr

namespace Go.Proofs.Ytpmmimcafkillaa
open Go.RowKit
set_option linter.unusedVariables false
set_option linter.unusedSimpArgs false

set_option maxHeartbeats 400000 in
theorem in_any (x lo hi : Int) (v : Bool) (w : World) (hv : (decide (lo ≤ x) && decide (x ≤ hi)) = v) :
    Calls Try.prog 40 #[.int .i64 x, .int .i64 lo, .int .i64 hi] w fun e w' => e = .returned (.bool v) ∧ w' = w := by
  subst hv
  by_cases h1 : lo ≤ x
  · by_cases h2 : x ≤ hi
    · go_enter Try.func40, Try.ntmps40
      go_wp2
      go_ret
      exact ⟨ret_bool (by simp [h1, h2]), rfl⟩
    · go_enter Try.func40, Try.ntmps40
      go_wp2
      go_ret
      exact ⟨ret_bool (by simp [h2]), rfl⟩
  · have hd : decide (lo ≤ x) = false := by simpa using h1
    go_enter Try.func40, Try.ntmps40
    go_wp2
    go_ret
    exact ⟨rfl, rfl⟩
set_option maxHeartbeats 400000 in
theorem sfr_any (x : Int) (w : World) : Calls Try.prog 47 #[.int .i64 x] w fun e w' => e = .returned (.bool (frm x)) ∧ w' = w := by
  obtain ⟨v, hv⟩ : ∃ v, frm x = v := ⟨_, rfl⟩
  rw [hv]
  have hv' := hide hv
  clear hv
  go_enter Try.func47, Try.ntmps47
  go_wp2_with fail
  refine (in_any x 0 10000000 v _ (unhide hv')).mono ?_
  rintro e w1 ⟨rfl, rfl⟩
  go_wp2
  go_ret
  exact ⟨rfl, rfl⟩

/-- where the needs stand ahead of number j: the least that may follow -/
def lst (zs : List Int) (j : Nat) : Int := if j = 0 then 0 else zs.getD (j - 1) 0 + 1
theorem lst_succ {zs : List Int} {j : Nat} {x : Int} (h : zs[j]? = some x) : lst zs (j + 1) = x + 1 := by
  simp [lst, List.getD_eq_getElem?_getD, h]
theorem lst_pos {zs : List Int} {j : Nat} {y : Int} (h : zs[j - 1]? = some y) (hj : 0 < j) : lst zs j = y + 1 := by
  rw [lst, if_neg (by omega), List.getD_eq_getElem?_getD, h]; rfl

set_option maxRecDepth 100000 in
set_option maxHeartbeats 6400000 in
theorem sjob_any (a : Option Addr) (cap : Nat) (ts : List Tv) (w : World) (hl : ts.length ≤ maxLen) (hr : Tks w a ts) :
    Calls Try.prog 19 #[.slice a ts.length cap] w fun e w' => e = .returned (.bool (jobOk ts)) ∧ Below w.heap.size w w' := by
  unfold maxLen at hl
  have hr' := hide hr
  clear hr
  by_cases h200 : ts.length ≤ 200
  rotate_left
  · have g0 : decide ((200 : Int) < ts.length) = true := by simp; omega
    have hf := hide (show jobOk ts = false by simp [jobOk]; omega)
    go_enter Try.func19, Try.ntmps19
    go_wp2
    go_ret
    exact ⟨ret_bool (unhide hf).symm, Below.refl _ _⟩
  have g0 : decide ((200 : Int) < ts.length) = false := by simp; omega
  have hf := hide (show jobOk ts = okFrom 0 (ts.drop 0) by simp [jobOk, h200])
  go_enter Try.func19, Try.ntmps19
  go_wp2
  go_loopw [3] (fun t wr => ∃ k : Nat, k ≤ ts.length ∧ t = .int .i64 k ∧ Hid (jobOk ts = okFrom k (ts.drop k)) ∧ Hid (Below w.heap.size w wr)) (fun t _ => ts.length - (intOf t).toNat)
  case atStart => exact ⟨0, by omega, rfl, hf, hide (Below.refl _ _)⟩
  case round =>
    obtain ⟨k, hk, rfl, hm, hB⟩ := hrel
    by_cases hlt : k < ts.length
    rotate_left
    · have hfin := hide (show jobOk ts = true by rw [unhide hm, drop_end hlt]; rfl)
      clear hm
      go_wp2
      go_ret
      exact ⟨ret_bool (unhide hfin).symm, unhide hB⟩
    obtain ⟨b, o, p, c, t, rfl, hx, i1, c0, c1, c2, c3, hK, hmx⟩ := tks_at (unhide hr') (unhide hB) hlt
    have hd := hide (show jobOk ts = (tskOk k t && okFrom (k + 1) (ts.drop (k + 1))) by rw [unhide hm, drop_at hx]; rfl)
    have hK' := hide hK
    have hmx' := hide hmx
    clear hx hm hK hmx
    obtain ⟨kd, vl, zs, d⟩ := t
    simp only at c0 c1 c2 c3 hd hK' hmx'
    have hzl : zs.length ≤ 9223372036854775807 := by have h9 := unhide hmx'; unfold maxLen at h9; omega
    obtain ⟨x1, e1⟩ : ∃ x, (decide ((0 : Int) ≤ kd) && decide (kd ≤ (9 : Int))) = x := ⟨_, rfl⟩
    obtain ⟨x3, e3⟩ : ∃ x, frm vl = x := ⟨_, rfl⟩
    obtain ⟨x4, e4⟩ : ∃ x, decide (zs.length ≤ 10) = x := ⟨_, rfl⟩
    obtain ⟨x5, e5⟩ : ∃ x, (decide ((1 : Int) ≤ d) && decide (d ≤ (1000 : Int))) = x := ⟨_, rfl⟩
    have hd2 := hide (show jobOk ts = (x1 && x3 && (x4 && ndOk k 0 zs) && x5 && okFrom (k + 1) (ts.drop (k + 1))) by rw [unhide hd]; simp only [tskOk, nOk, ← e1, ← e3, ← e4, ← e5, Bool.and_assoc])
    have g4 : decide ((10 : Int) < (zs.length : Int)) = !x4 := by
      rw [← e4]
      by_cases h : zs.length ≤ 10
      · rw [decide_eq_true h, decide_eq_false (by omega)]; rfl
      · rw [decide_eq_false h, decide_eq_true (by omega)]; rfl
    have e1' := hide e1
    have e3' := hide e3
    have e4' := hide e4
    have e5' := hide e5
    have hE := hide ((unhide hB).alloc (unhide hB).size (.cells #[.int .i64 kd, .int .i64 vl, .slice p zs.length c, .int .i64 d] 33))
    clear e1 e3 e4 e5 hd
    go_wp2_with fail
    refine (in_any kd 0 9 x1 _ (unhide e1')).mono ?_
    rintro e w1 ⟨rfl, rfl⟩
    cases x1 with
    | false =>
      have hfin := hide (show jobOk ts = false by rw [unhide hd2]; simp)
      clear hd2
      go_wp2
      go_ret
      exact ⟨ret_bool (unhide hfin).symm, unhide hE⟩
    | true =>
    go_wp2_with fail
    refine (sfr_any vl _).mono ?_
    rintro e w1 ⟨rfl, rfl⟩
    rw [unhide e3']
    cases x3 with
    | false =>
      have hfin := hide (show jobOk ts = false by rw [unhide hd2]; simp)
      clear hd2
      go_wp2
      go_ret
      exact ⟨ret_bool (unhide hfin).symm, unhide hE⟩
    | true =>
    cases x4 with
    | false =>
      have hfin := hide (show jobOk ts = false by rw [unhide hd2]; simp)
      clear hd2
      simp only [Bool.not_false] at g4
      go_wp2
      go_ret
      exact ⟨ret_bool (unhide hfin).symm, unhide hE⟩
    | true =>
    simp only [Bool.not_true] at g4
    go_wp2_with fail
    refine (in_any d 1 1000 x5 _ (unhide e5')).mono ?_
    rintro e w1 ⟨rfl, rfl⟩
    cases x5 with
    | false =>
      have hfin := hide (show jobOk ts = false by rw [unhide hd2]; simp)
      clear hd2
      go_wp2
      go_ret
      exact ⟨ret_bool (unhide hfin).symm, unhide hE⟩
    | true =>
    have hz10 : zs.length ≤ 10 := by have h9 := unhide e4'; simpa using h9
    have hd3 := hide (show jobOk ts = (ndOk k (lst zs 0) (zs.drop 0) && okFrom (k + 1) (ts.drop (k + 1))) by rw [unhide hd2]; simp [lst])
    have hK2 := hide ((unhide hK').below ((Below.refl wr.heap.size wr).alloc (Nat.le_refl _) (.cells #[.int .i64 kd, .int .i64 vl, .slice p zs.length c, .int .i64 d] 33)))
    have hcE := hide (show (wr.alloc (.cells #[.int .i64 kd, .int .i64 vl, .slice p zs.length c, .int .i64 d] 33)).cell? ⟨wr.heap.size, 2, none⟩ = some (.slice p zs.length c) by simp [go_sem])
    clear hd2 e1' e3' e4' e5' hK' hmx' c0 c1 c2 c3 hB
    have hg10 : decide ((10 : Int) < (zs.length : Int)) = false := g4
    clear g4
    generalize wr.alloc (.cells #[.int .i64 kd, .int .i64 vl, .slice p zs.length c, .int .i64 d] 33) = wo at *
    generalize wr.heap.size = E at *
    clear wr
    go_wp2
    go_loopw [5] (fun t wr => ∃ j : Nat, j ≤ zs.length ∧ t = .int .i64 j ∧ Hid (0 ≤ lst zs j) ∧ Hid (jobOk ts = (ndOk k (lst zs j) (zs.drop j) && okFrom (k + 1) (ts.drop (k + 1)))) ∧ Hid (Below wo.heap.size wo wr)) (fun t _ => zs.length - (intOf t).toNat)
    case atStart => exact ⟨0, by omega, rfl, hide (by simp [lst]), hd3, hide (Below.refl _ _)⟩
    case round =>
      clear hd3
      obtain ⟨j, hj, rfl, hls0, hm, hb⟩ := hrel
      have cE : wr.cell? ⟨E, 2, none⟩ = some (.slice p zs.length c) := cell_later (unhide hb) (unhide hcE)
      by_cases hlj : j < zs.length
      rotate_left
      · have hfin := hide (show jobOk ts = okFrom (k + 1) (ts.drop (k + 1)) by rw [unhide hm, drop_end hlj]; rfl)
        clear hm
        go_wp2
        go_roundw
        case rel => exact ⟨k + 1, by omega, by go_num, hfin, hide (laterB (unhide hE) (unhide hb))⟩
        case measure => simp [intOf]; omega
      obtain ⟨b1, o1, x, rfl, hx, i2, c0⟩ := ins_at (unhide hK2) (unhide hb) hlj
      have hdj := hide (show jobOk ts = (decide (lst zs j ≤ x) && decide (x < k) && ndOk k (x + 1) (zs.drop (j + 1)) && okFrom (k + 1) (ts.drop (k + 1))) by rw [unhide hm, drop_at hx]; rfl)
      have hls := hide (lst_succ hx)
      have hx' := hide hx
      clear hm hx
      obtain ⟨y1, f1⟩ : ∃ y, (decide ((0 : Int) ≤ x) && decide (x ≤ (k : Int) - 1)) = y := ⟨_, rfl⟩
      cases y1 with
      | false =>
        have hfin := hide (show jobOk ts = false by
          rw [unhide hdj]
          have h0 := unhide hls0
          have h1 : (decide (lst zs j ≤ x) && decide (x < (k : Int))) = false := by
            simp at f1 ⊢
            intro h2
            have := f1 (by omega)
            omega
          rw [h1]; rfl)
        clear hdj
        go_wp2_with fail
        go_quiet ((go_at_call 40; exact Calls.quiet_of_same (in_any _ _ _ _ _ (by assumption))))
        go_wp2
        go_ret
        exact ⟨ret_bool (unhide hfin).symm, below_drewN (laterB (unhide hE) (unhide hb)) _⟩
      | true =>
        have hxx : 0 ≤ x ∧ x < k := by simp at f1; omega
        have hxx' := hide hxx
        clear hxx
        by_cases h0 : j = 0
        · have hfin := hide (show jobOk ts = (ndOk k (lst zs (j + 1)) (zs.drop (j + 1)) && okFrom (k + 1) (ts.drop (k + 1))) by
            have h5 := unhide hxx'
            rw [unhide hdj, unhide hls, h0, show lst zs 0 = 0 from rfl, decide_eq_true h5.1, decide_eq_true h5.2]; rfl)
          have g2 : decide ((0 : Int) < j) = false := by simp; omega
          have g3 : decide (0 < j) = false := by simp; omega
          have hnl := hide (show 0 ≤ lst zs (j + 1) by have h5 := unhide hxx'; rw [unhide hls]; omega)
          clear hdj h0 hls0 hls hx'
          go_wp2_with fail
          go_quiet ((go_at_call 40; exact Calls.quiet_of_same (in_any _ _ _ _ _ (by assumption))))
          go_wp2
          go_roundw
          case rel => exact ⟨j + 1, by omega, by go_num, hnl, hfin, hide (below_drewN (unhide hb) _)⟩
          case measure => simp [intOf]; omega
        · obtain ⟨y, hy⟩ : ∃ y, zs[j - 1]? = some y := ⟨zs[j - 1], List.getElem?_eq_getElem (by omega)⟩
          obtain ⟨b2, o2, e2, i3, d0⟩ := unhide hK2 (j - 1) y hy
          injection e2 with e2
          injection e2 with e2 e3
          subst e2 e3
          have d0 := cell_later (unhide hb) d0
          have hlp := hide (lst_pos hy (by omega))
          have g2 : decide ((0 : Int) < j) = true := by simp; omega
          have g3 : decide (0 < j) = true := by simp; omega
          have hkm : (j : Int) - 1 = ((j - 1 : Nat) : Int) := by omega
          have hk2 : j - 1 < zs.length := by omega
          have hbi : b1 < wr.heap.size := Nat.lt_of_lt_of_le i3 (unhide hb).size
          obtain ⟨M, hM⟩ : ∃ M, j - 1 = M := ⟨_, rfl⟩
          rw [hM] at hkm d0 hk2
          clear hM hy
          obtain ⟨y2, f2⟩ : ∃ v, decide (x ≤ y) = v := ⟨_, rfl⟩
          cases y2 with
          | true =>
            have hfin := hide (show jobOk ts = false by
              rw [unhide hdj, unhide hlp, decide_eq_false (p := y + 1 ≤ x) (by simp at f2; omega)]; rfl)
            clear hdj h0 hls0 hls hx' hlp
            go_wp2_with fail
            go_quiet ((go_at_call 40; exact Calls.quiet_of_same (in_any _ _ _ _ _ (by assumption))))
            go_wp2
            go_ret
            exact ⟨ret_bool (unhide hfin).symm, below_drewN (laterB (unhide hE) (unhide hb)) _⟩
          | false =>
            have hfin := hide (show jobOk ts = (ndOk k (lst zs (j + 1)) (zs.drop (j + 1)) && okFrom (k + 1) (ts.drop (k + 1))) by
              have h5 := unhide hxx'
              rw [unhide hdj, unhide hls, unhide hlp, decide_eq_true (p := y + 1 ≤ x) (by simp at f2; omega), decide_eq_true h5.2]; rfl)
            have hnl := hide (show 0 ≤ lst zs (j + 1) by have h5 := unhide hxx'; rw [unhide hls]; omega)
            clear hdj h0 hls0 hls hx' hlp
            go_wp2_with fail
            go_quiet ((go_at_call 40; exact Calls.quiet_of_same (in_any _ _ _ _ _ (by assumption))))
            go_wp2
            go_roundw
            case rel => exact ⟨j + 1, by omega, by go_num, hnl, hfin, hide (below_drewN (unhide hb) _)⟩
            case measure => simp [intOf]; omega

end Go.Proofs.Ytpmmimcafkillaa
