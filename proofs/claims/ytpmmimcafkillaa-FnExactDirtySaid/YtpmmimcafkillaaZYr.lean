/-
  Dirty, beside leavers: up to the numbers that are worked out.
-/
import Derived.Test.YtpmmimcafkillaaZUa
import Derived.Test.YtpmmimcafkillaaZUc
import Derived.Test.YtpmmimcafkillaaZUb
set_option linter.unusedVariables false
set_option linter.unusedSimpArgs false
namespace Go.Proofs.Ytpmmimcafkillaa.Tr
open Go Go.Conc Go.RowKit
open Go.Proofs.Ytpmmimcafkillaa.Br (BT BTS Hd Hid Pz Pst Shn Thr EvN bt_ctl bt_cons bt_skip bt_call bt_callB bt_enter CallsB rt)
open Go.Proofs.Ytpmmimcafkillaa.Rs (Rule outOf out_at out_len resR crR dtR hst gmx)
open Go.Proofs.Ytpmmimcafkillaa (Tv Tks Ins jobOk job_tok TOk job_short chOk icha_any OwnI dlk row_ownX)
section
variable {main : Bool} {b : Frame} {a : Act} {kk : List Item} {cs : List Frame} {w : World} {ops : Array Oper} {i : Nat} {rest : List Nat} {o : Oper}
theorem stepG_box29 {x : Operand} {p : Option Addr} {n c : Nat} (ho : ops[i]? = some o) (hw : Region.wanted o (yielded ops a.tmps) = true) (hk : b.kind ≠ .early) (hop : o.op = .box 29 x) (hx : a.eval x = .slice p n c) :
    stepG Try.prog main (G (b.at a (.inRegion ops (i :: rest) :: kk)) cs) w = .go (G (b.at (a.put o.dst (.pointer (some ⟨w.heap.size, 0, none⟩))) (.inRegion ops rest :: kk)) cs) (w.alloc (.cells #[.slice p n c] 29 (0, 0))) #[] := by
  have hr : (execOp a.eval o).run Try.prog w = .ok (.value (.pointer (some ⟨w.heap.size, 0, none⟩))) (w.alloc (.cells #[.slice p n c] 29 (0, 0))) := by
    unfold execOp
    simp only [hop, hx]
    simp [go_sem]
  have he : (execOp a.eval o).events Try.prog w #[] = #[] := by
    unfold execOp
    simp only [hop, hx]
    simp [go_sem]
  rw [stepG_value ho hw hk hr]
  unfold listed
  rw [he, seen_none]
end
theorem loud16 : (Try.prog.funcs[(base 16).fn]?).any (·.norace) = false := by kernel_rfl
theorem zF44 : Zg.F 44 = true := by kernel_rfl
def RCh (w : World) (x : Bool) (v : Value) (w' : World) : Prop := v = .bool x ∧ BelL w.heap.size w w'
theorem RCh.rt {w w' : World} {x : Bool} {v : Value} {T : Nat → Question → Nat} {d : Nat} (h : RCh w x v w') : RCh w x v (Br.rt T d w') := ⟨h.1, ⟨h.2.os, h.2.output, h.2.size, h.2.block⟩⟩
section
variable {ts : List Tv} {w : World} {a p : Option Addr} {cap c : Nat} {ch : List Int}
theorem cha_B {n : Int} (hl : ch.length ≤ maxLen) (hI : Ins w p ch) (T : Nat → Question → Nat) (d : Nat) : Calls Try.prog 44 #[.slice p ch.length c, .int .i64 n] (rt T d w) fun e w' => ∃ v, e = .returned v ∧ RCh w (chOk n ch) v w' :=
  calls_imp (icha_any p c ch n (rt T d w) hl hI) fun e w' h => ⟨_, h.1, rfl, by rw [h.2]; exact belL_any (w := w) (Below.refl _ _)⟩
set_option maxRecDepth 100000 in
set_option maxHeartbeats 4000000 in
theorem dirty_A [Thr] {Q : Goroutine → World → Prop} {cc : Frame} {cs : List Frame} {l : List Int} (hl : ts.length ≤ maxLen) (hT : Tks w a ts) (hcl : ch.length ≤ maxLen) (hI : Ins w p ch) (hg : Br.GC Try.prog w) (hTh : Thr.N ≤ w.heap.size)
    (hk0 : (jobOk ts && chOk ts.length ch) = false → ∀ v w', PRow w [] v w' → BT Try.prog Q (G (cc.finish v) cs) w')
    (hk1 : jobOk ts = true → chOk ts.length ch = true → ∀ (B : Nat) (w' : World), w.heap.size ≤ B → w'.heap[B]? = some (.cells ((outOf (dtR ch) ts).map (Value.int .i64)).toArray 2 (0, 0)) → BelL w.heap.size w w' → ∀ y1 y2 y3 y4 y6 y7 y8 y9 y10 y11 y12 y13 y14 y15 y16 y17 y18 y19 y20 y21 y22 y23 y24 y25 y26 y27 y28 y29 y30 y31 y32 y33 y34 y35 y36 y37 y38 y39 y40 : Value, BT Try.prog Q (G ((base 16).at ⟨#[.slice a ts.length cap, y1, y2, y3, y4, .slice (some ⟨B, 0, none⟩) (outOf (dtR ch) ts).length (outOf (dtR ch) ts).length, y6, y7, y8, y9, y10, y11, y12, y13, y14, y15, y16, y17, y18, y19, y20, y21, y22, y23, y24, y25, y26, y27, y28, y29, y30, y31, y32, y33, y34, y35, y36, y37, y38, y39, y40], []⟩ [.code (sdc 3 (Try.f16.body.getD .skip))]) (cc :: cs)) w') :
    BT Try.prog Q (G (Frame.enter Try.prog 16 #[.slice a ts.length cap, .slice p ch.length c] .normal) (cc :: cs)) w := by
  have e16 : Frame.enter Try.prog 16 #[.slice a ts.length cap, .slice p ch.length c] .normal = (base 16).at ⟨#[.slice a ts.length cap, .slice p ch.length c, undef, undef, undef, undef, undef, undef, undef, undef, undef, undef, undef, undef, undef, undef, undef, undef, undef, undef, undef, undef, undef, undef, undef, undef, undef, undef, undef, undef, undef, undef, undef, undef, undef, undef, undef, undef, undef, undef, undef], []⟩ [.code (Try.f16.body.getD .skip)] := by
    simp [Frame.enter, Frame.at, Try.func16, base, Try.f16]
  rw [e16]
  clear e16
  simp only [sdc, Try.f16, Option.getD_some] at hk1 ⊢
  (repeat (first | refine kA ?_ | refine kB ?_ | refine kC ?_ | refine kF ?_ | (refine kG ?_; simp only [List.size_toArray, List.length_cons, List.length_nil, Nat.reduceAdd, Nat.zero_add, List.range, List.range.loop]) | (refine kO rfl (by rfl) (by decide) (by decide) (fun dzz Kzz hKzz => ?_); go_simp; refine hKzz _ _ (fun b hb => hb) (bt_at ?_); clear hKzz Kzz; try walk_nrm) | (refine bt_skip rfl (by rfl) ?_; try walk_nrm)))
  refine bt_alloc' rfl (fun W hW => by rw [stepG_box29 rfl rfl (by k_ne) rfl rfl, hW]) ?_
  walk_nrm
  obtain ⟨w1, e1, s1, b1, n1, o1, p1⟩ := alloc_out w (.cells #[.slice p ch.length c] 29 (0, 0))
  rw [e1]
  have hB1 : BelL w.heap.size w w1 := ⟨by rw [o1]; exact .refl _, p1, by omega, b1⟩
  have c1 : w1.cell? ⟨w.heap.size, 0, none⟩ = some (.slice p ch.length c) := by simp [World.cell?, n1]
  have hT1 : Tks w1 a ts := tks_low hB1 hT
  have hI1 : Ins w1 p ch := ins_low hB1 hI
  have hg1 : Br.GC Try.prog w1 := gc_belL hB1 hg
  clear e1 b1 n1 o1 p1
  (repeat (first | refine kA ?_ | refine kB ?_ | refine kC ?_ | refine kF ?_ | (refine kG ?_; simp only [List.size_toArray, List.length_cons, List.length_nil, Nat.reduceAdd, Nat.zero_add, List.range, List.range.loop]) | (refine kO rfl (by rfl) (by decide) (by decide) (fun dzz Kzz hKzz => ?_); go_simp; refine hKzz _ _ (fun b hb => hb) (bt_at ?_); clear hKzz Kzz; try walk_nrm) | (refine bt_skip rfl (by rfl) ?_; try walk_nrm)))
  refine bt_call (R := RJob w1 ts) zgOk (job_B (cap := cap) hl hT1) hg1 (fun v w T d h => h.rt) (fun v w' h => belL_pz h.2) zF37 (by simp [zK]) Try.func37 rfl rfl rfl rfl rfl (by k_ne) (by simp [Act.eval]) (fun v w2 h2 => ?_)
  obtain ⟨rfl, hB2⟩ := h2
  have hB2' : BelL w.heap.size w w2 := hB1.trans hB2 (by omega)
  have c2 : w2.cell? ⟨w.heap.size, 0, none⟩ = some (.slice p ch.length c) := belL_cell hB2 (by show w.heap.size < _; omega) c1
  have hT2 : Tks w2 a ts := tks_low hB2 hT1
  have hI2 : Ins w2 p ch := ins_low hB2 hI1
  have hg2 : Br.GC Try.prog w2 := gc_belL hB2 hg1
  have s2 : w.heap.size < w2.heap.size := by have := hB2.size; omega
  clear hB1 hB2 c1 hT1 hI1 hg1 s1
  walk_nrm
  cases hJ : jobOk ts with
  | false =>
    (repeat (first | refine kA ?_ | refine kB ?_ | refine kC ?_ | refine kF ?_ | (refine kG ?_; simp only [List.size_toArray, List.length_cons, List.length_nil, Nat.reduceAdd, Nat.zero_add, List.range, List.range.loop]) | (refine kO rfl (by rfl) (by decide) (by decide) (fun dzz Kzz hKzz => ?_); go_simp; refine hKzz _ _ (fun b hb => hb) (bt_at ?_); clear hKzz Kzz; try walk_nrm) | (refine bt_skip rfl (by rfl) ?_; try walk_nrm)))
    refine kJ rfl ?_
    (repeat (first | refine kA ?_ | refine kB ?_ | refine kC ?_ | refine kF ?_ | (refine kG ?_; simp only [List.size_toArray, List.length_cons, List.length_nil, Nat.reduceAdd, Nat.zero_add, List.range, List.range.loop]) | (refine kO rfl (by rfl) (by decide) (by decide) (fun dzz Kzz hKzz => ?_); go_simp; refine hKzz _ _ (fun b hb => hb) (bt_at ?_); clear hKzz Kzz; try walk_nrm) | (refine bt_skip rfl (by rfl) ?_; try walk_nrm)))
    refine bt_alloc' rfl (fun W hW => by rw [stepG_bs29 rfl rfl (by k_ne) rfl, hW]) ?_
    walk_nrm
    obtain ⟨w5, e5, s5, b5, n5, o5, p5⟩ := alloc_out w2 (.cells #[] 2 (0, 0))
    rw [e5]
    have hB5 : BelL w.heap.size w w5 := hB2'.trans ⟨by rw [o5]; exact .refl _, p5, by omega, b5⟩ hB2'.size
    (repeat (first | refine kA ?_ | refine kB ?_ | refine kC ?_ | refine kF ?_ | (refine kG ?_; simp only [List.size_toArray, List.length_cons, List.length_nil, Nat.reduceAdd, Nat.zero_add, List.range, List.range.loop]) | (refine kO rfl (by rfl) (by decide) (by decide) (fun dzz Kzz hKzz => ?_); go_simp; refine hKzz _ _ (fun b hb => hb) (bt_at ?_); clear hKzz Kzz; try walk_nrm) | (refine bt_skip rfl (by rfl) ?_; try walk_nrm)))
    exact Br.BT.leave (v := .slice (some ⟨w2.heap.size, 0, none⟩) 0 0) ⟨rfl, rfl, rfl, Try.f16, Try.func16, by simp [results, Try.f16, Frame.at]⟩ (hk0 (by simp [hJ]) _ _ ⟨w2.heap.size, rfl, hB2'.size, by simp [World.at, n5], ⟨hB5.os, hB5.output, hB5.size, hB5.block⟩⟩)
  | true =>
    (repeat (first | refine kA ?_ | refine kB ?_ | refine kC ?_ | refine kF ?_ | (refine kG ?_; simp only [List.size_toArray, List.length_cons, List.length_nil, Nat.reduceAdd, Nat.zero_add, List.range, List.range.loop]) | (refine kO rfl (by rfl) (by decide) (by decide) (fun dzz Kzz hKzz => ?_); go_simp; refine hKzz _ _ (fun b hb => hb) (bt_at ?_); clear hKzz Kzz; try walk_nrm) | (refine bt_skip rfl (by rfl) ?_; try walk_nrm)))
    refine bt_load (w := w2) rfl c2 (fun W hW => stepG_load29 rfl rfl (by k_ne) rfl rfl hW loud16) ?_
    walk_nrm
    (repeat (first | refine kA ?_ | refine kB ?_ | refine kC ?_ | refine kF ?_ | (refine kG ?_; simp only [List.size_toArray, List.length_cons, List.length_nil, Nat.reduceAdd, Nat.zero_add, List.range, List.range.loop]) | (refine kO rfl (by rfl) (by decide) (by decide) (fun dzz Kzz hKzz => ?_); go_simp; refine hKzz _ _ (fun b hb => hb) (bt_at ?_); clear hKzz Kzz; try walk_nrm) | (refine bt_skip rfl (by rfl) ?_; try walk_nrm)))
    refine bt_call (R := RCh w2 (chOk ts.length ch)) zgOk (cha_B (c := c) (n := ts.length) hcl hI2) hg2 (fun v w T d h => h.rt) (fun v w' h => belL_pz h.2) zF44 (by simp [zK]) Try.func44 rfl rfl rfl rfl rfl (by k_ne) (by simp [Act.eval]) (fun v w3 h3 => ?_)
    obtain ⟨rfl, hB3⟩ := h3
    have hB3' : BelL w.heap.size w w3 := hB2'.trans hB3 (by omega)
    have c3 : w3.cell? ⟨w.heap.size, 0, none⟩ = some (.slice p ch.length c) := belL_cell hB3 (by show w.heap.size < _; omega) c2
    have hT3 : Tks w3 a ts := tks_low hB3 hT2
    have hI3 : Ins w3 p ch := ins_low hB3 hI2
    have hg3 : Br.GC Try.prog w3 := gc_belL hB3 hg2
    clear hB3 c2 hT2 hI2 hg2
    walk_nrm
    cases hC : chOk ts.length ch with
    | false =>
      (repeat (first | refine kA ?_ | refine kB ?_ | refine kC ?_ | refine kF ?_ | (refine kG ?_; simp only [List.size_toArray, List.length_cons, List.length_nil, Nat.reduceAdd, Nat.zero_add, List.range, List.range.loop]) | (refine kO rfl (by rfl) (by decide) (by decide) (fun dzz Kzz hKzz => ?_); go_simp; refine hKzz _ _ (fun b hb => hb) (bt_at ?_); clear hKzz Kzz; try walk_nrm) | (refine bt_skip rfl (by rfl) ?_; try walk_nrm)))
      refine kJ rfl ?_
      (repeat (first | refine kA ?_ | refine kB ?_ | refine kC ?_ | refine kF ?_ | (refine kG ?_; simp only [List.size_toArray, List.length_cons, List.length_nil, Nat.reduceAdd, Nat.zero_add, List.range, List.range.loop]) | (refine kO rfl (by rfl) (by decide) (by decide) (fun dzz Kzz hKzz => ?_); go_simp; refine hKzz _ _ (fun b hb => hb) (bt_at ?_); clear hKzz Kzz; try walk_nrm) | (refine bt_skip rfl (by rfl) ?_; try walk_nrm)))
      refine bt_alloc' rfl (fun W hW => by rw [stepG_bs29 rfl rfl (by k_ne) rfl, hW]) ?_
      walk_nrm
      obtain ⟨w5, e5, s5, b5, n5, o5, p5⟩ := alloc_out w3 (.cells #[] 2 (0, 0))
      rw [e5]
      have hB5 : BelL w.heap.size w w5 := hB3'.trans ⟨by rw [o5]; exact .refl _, p5, by omega, b5⟩ hB3'.size
      (repeat (first | refine kA ?_ | refine kB ?_ | refine kC ?_ | refine kF ?_ | (refine kG ?_; simp only [List.size_toArray, List.length_cons, List.length_nil, Nat.reduceAdd, Nat.zero_add, List.range, List.range.loop]) | (refine kO rfl (by rfl) (by decide) (by decide) (fun dzz Kzz hKzz => ?_); go_simp; refine hKzz _ _ (fun b hb => hb) (bt_at ?_); clear hKzz Kzz; try walk_nrm) | (refine bt_skip rfl (by rfl) ?_; try walk_nrm)))
      exact Br.BT.leave (v := .slice (some ⟨w3.heap.size, 0, none⟩) 0 0) ⟨rfl, rfl, rfl, Try.f16, Try.func16, by simp [results, Try.f16, Frame.at]⟩ (hk0 (by simp [hJ, hC]) _ _ ⟨w3.heap.size, rfl, hB3'.size, by simp [World.at, n5], ⟨hB5.os, hB5.output, hB5.size, hB5.block⟩⟩)
    | true =>
      (repeat (first | refine kA ?_ | refine kB ?_ | refine kC ?_ | refine kF ?_ | (refine kG ?_; simp only [List.size_toArray, List.length_cons, List.length_nil, Nat.reduceAdd, Nat.zero_add, List.range, List.range.loop]) | (refine kO rfl (by rfl) (by decide) (by decide) (fun dzz Kzz hKzz => ?_); go_simp; refine hKzz _ _ (fun b hb => hb) (bt_at ?_); clear hKzz Kzz; try walk_nrm) | (refine bt_skip rfl (by rfl) ?_; try walk_nrm)))
      refine kI rfl ?_
      (repeat (first | refine kA ?_ | refine kB ?_ | refine kC ?_ | refine kF ?_ | (refine kG ?_; simp only [List.size_toArray, List.length_cons, List.length_nil, Nat.reduceAdd, Nat.zero_add, List.range, List.range.loop]) | (refine kO rfl (by rfl) (by decide) (by decide) (fun dzz Kzz hKzz => ?_); go_simp; refine hKzz _ _ (fun b hb => hb) (bt_at ?_); clear hKzz Kzz; try walk_nrm) | (refine bt_skip rfl (by rfl) ?_; try walk_nrm)))
      refine bt_pure rfl (fun W => stepG_mkf rfl rfl (by k_ne) rfl) ?_
      walk_nrm
      have hch : ch.length ≤ 200 := by
        have h := hC
        simp only [chOk, Bool.and_eq_true, decide_eq_true_eq] at h
        exact h.1
      have hR := ok45 (cap := c) (qb := ⟨w.heap.size, 0, none⟩) c3 (by omega) hI3 ts.length
      have s3 : w.heap.size ≤ w3.heap.size := hB3'.size
      refine bt_callB (work_B (cap := cap) hJ hl hR hT3 (fun x hx => by have := dt_bd hJ x hx; omega) hg3 (by omega)) Try.func42 nm42 b42 rfl rfl rfl (by k_ne) (by simp [Act.eval]) (fun v w4 h4 => ?_)
      obtain ⟨B, rfl, hBge, hBB, hB4⟩ := h4
      have hB4' : BelL w.heap.size w w4 := hB3'.trans hB4 s3
      walk_nrm
      refine kO rfl (by rfl) (by decide) (by decide) (fun dzz Kzz hKzz => ?_)
      go_simp
      refine hKzz _ _ (fun b hb => hb) (bt_at ?_)
      clear hKzz Kzz
      try walk_nrm
      refine kC ?_
      exact hk1 hJ hC B w4 (by omega) hBB hB4' _ _ _ _ _ _ _ _ _ _ _ _ _ _ _ _ _ _ _ _ _ _ _ _ _ _ _ _ _ _ _ _ _ _ _ _ _ _ _
def dty (ts : List Tv) (ch : List Int) : List Int := if jobOk ts && chOk ts.length ch then dlk (outOf (dtR ch) ts) ts.length else []
theorem okD : Br.okC (Br.okOp Zg Try.prog []) (sdc 3 (Try.f16.body.getD .skip)) = true := by kernel_rfl
/-- ████ Dirty ████ -/
theorem dirty_B [Thr] (hl : ts.length ≤ maxLen) (hT : Tks w a ts) (hcl : ch.length ≤ maxLen) (hI : Ins w p ch) (hg : Br.GC Try.prog w) (hTh : Thr.N ≤ w.heap.size) :
    CallsB Try.prog 16 #[.slice a ts.length cap, .slice p ch.length c] w (RDtB w (dty ts ch)) := by
  intro cc cs Q hk
  refine dirty_A (l := []) hl hT hcl hI hg hTh (fun h0 v w' h => ?_) (fun hJ hC B w' hB hBB hBl => ?_)
  · obtain ⟨B, rfl, hge, hh, hb⟩ := h
    refine hk _ w' ⟨B, 0, ?_, ?_, hb⟩
    · simp [dty, h0]
    · simp only [dty, h0, Bool.false_eq_true, if_false]
      exact row_ownX hh (by simp) (by unfold maxLen; simp) hge
  · intro y1 y2 y3 y4 y6 y7 y8 y9 y10 y11 y12 y13 y14 y15 y16 y17 y18 y19 y20 y21 y22 y23 y24 y25 y26 y27 y28 y29 y30 y31 y32 y33 y34 y35 y36 y37 y38 y39 y40
    have hn := out_len (dtR ch) ts
    have hj := job_short hJ
    have hd : dty ts ch = dlk (outOf (dtR ch) ts) (outOf (dtR ch) ts).length := by simp [dty, hJ, hC, hn]
    have hi := ins_own hBB
    refine Br.BT.body (R := fun v w4 => RDtB w (dty ts ch) v w4 ∧ BelL w'.heap.size w' w4) zgOk Try.func16 rfl okD rfl (gc_belL hBl hg) (fun v w T d ⟨h, h2⟩ => ⟨h.rt, h2.rtt⟩) (fun T dd => ?_) (fun v w4 h => belL_pz h.2) (fun v w4 h => hk v w4 h.1)
    refine wp_mono (dirty_tail (w := rt T dd w') (o := outOf (dtR ch) ts) (fun j x hx => hi j x hx) rfl (by omega) (.slice a ts.length cap) y1 y2 y3 y4 y6 y7 y8 y9 y10 y11 y12 y13 y14 y15 y16 y17 y18 y19 y20 y21 y22 y23 y24 y25 y26 y27 y28 y29 y30 y31 y32 y33 y34 y35 y36 y37 y38 y39 y40) (bodyPost_mono ?_ ?_)
    · rintro v w4 ⟨v', e, g, c, rfl, h2, h3⟩
      have h4 : BelL w'.heap.size w' w4 := belL_any h3
      refine ⟨_, e, ⟨g, c, by rw [hd], ?_, hBl.trans h4 hBl.size⟩, h4⟩
      rw [hd]
      exact Go.Proofs.Ytpmmimcafkillaa.own_mono h2 hBl.size
    · rintro e w4 ⟨v, h, _⟩
      exact ⟨v, h⟩
end
end Go.Proofs.Ytpmmimcafkillaa.Tr
