/-
  FnExactResults: the law.
-/
import Derived.Test.YtpmmimcafkillaaZRb
set_option linter.unusedVariables false
set_option linter.unusedSimpArgs false
namespace Go.Proofs.Ytpmmimcafkillaa.Tr
open Go Go.Conc Go.RowKit
open Go.Proofs.Ytpmmimcafkillaa.Br (BT BTS Hd Hid Pz Pst Shn Thr EvN bt_ctl bt_cons bt_skip bt_call bt_callB bt_enter CallsB rt AtEnd0)
open Go.Proofs.Ytpmmimcafkillaa.Rs (Rule outOf out_at out_len resR crR dtR hst gmx)
open Go.Proofs.Ytpmmimcafkillaa (Tv Tks Ins jobOk job_tok TOk job_short tot tot_mem TO TX OwnI Mkd row_ownX)
theorem row_of {w : World} {B lo : Nat} {l : List Int} (h : w.heap[B]? = some (.cells (l.map (Value.int .i64)).toArray 2 (0, 0))) (hl : l.length ≤ 200) (hlo : lo ≤ B) : w.ownsRow lo 2 1 (.slice (some ⟨B, 0, none⟩) l.length l.length) l.length (l.map (Value.int .i64)) :=
  row_ownX h (by simp) (by unfold maxLen; omega) hlo
theorem marki_row {w : World} {B : Nat} {l : List Int} {T : Nat → Question → Nat} {d : Nat} (h : w.heap[B]? = some (.cells (l.map (Value.int .i64)).toArray 2 (0, 0))) (hl : l.length ≤ 200) : Calls Try.prog 28 #[.slice (some ⟨B, 0, none⟩) l.length l.length, .int .i64 1] (Br.rt T d w) fun e w' => ∃ v, e = .returned v ∧ RMi 0 B l.length l.length 1 w v w' := by
  refine marki_B (by omega) (by omega) (by omega) (row_of h hl (Nat.zero_le _)) (fun hn ⟨e, he⟩ => ?_) fun hz w' ys hy => ?_
  · rw [h] at he
    simp at he
    rw [he.1] at hn
    simp at hn
  · have hl0 : l = [] := List.eq_nil_of_length_eq_zero hz
    subst hl0
    rcases hy.2 with ⟨hv, _⟩ | ⟨g', cap', cur', hv, _, hh, _, _, hcs, _⟩
    · cases hv
    · injection hv with e1 e2 e3
      injection e1 with e1
      injection e1 with e1
      subst e1
      have hc0 : cap' = 0 := e3.symm
      subst hc0
      have h2 : cur' = #[] := Array.size_eq_zero_iff.1 (by simpa using hcs)
      rw [hh, h, h2]
      rfl
theorem bt_end5 [Thr] {w W : World} {a : Act} {todo : List Item} (hd : a.defers = []) (h : a.tmps.getD 2 undef = .bool true) (hw : BelL W.heap.size W w) : BT Try.prog (AtEnd0 Try.prog (PostL W)) (G { (base 5).at a todo with mode := .returning } []) w := by
  refine Br.BT.done ⟨rfl, fun X => ⟨.bool true, ?_, rfl, hw⟩⟩
  have h2 : a.tmps[2]?.getD undef = .bool true := by rw [← h, Array.getD_eq_getD_getElem?]
  simp [G, stepG, unwind, doReturn, results, Frame.at, base, Try.func5, Try.f5, seen, GStep.after, hd, h2]
def sd : Nat → Code → Code
  | 0, c => c
  | n + 1, .seq _ b => sd n b
  | _, c => c
set_option maxRecDepth 100000 in
set_option maxHeartbeats 16000000 in
theorem lawRs2 [Thr] {W : World} (a : Option Addr) (cap : Nat) (l : List Tv) (hl : l.length ≤ maxLen) (hT : Tks W a l) (hg : Br.GC Try.prog W) (hTh : Thr.N ≤ W.heap.size) (p1 : l.length ≤ 1048576) (pm : ∀ t ∈ l, t.2.2.1.length ≤ 1048576) (hx : ∀ t ∈ l, t.2.2.1.length ≤ maxLen)
    {R : List Int} (hR : resOf l = R) (hRl : R.length ≤ 200) {w3 w10 : World} {b3 c3 b5 : Nat} (N3 : W.heap.size ≤ w3.heap.size) (I3 : Ins w3 (some ⟨b3, 0, none⟩) R) (hb5 : w3.heap.size ≤ b5) (B10 : BelL W.heap.size W w10) (C40 : BelL w3.heap.size w3 w10) (hh10 : w10.heap[b5]? = some (.cells (R.map (Value.int .i64)).toArray 2 (0, 0))) (g10 : Br.GC Try.prog w10) (y1 y2 y3 y5 y7 y8 y9 y10 y11 y12 y13 y14 y15 y16 y17 y18 y19 y20 y21 y22 y23 y24 y25 y26 y27 y28 y29 y30 y31 y32 y33 y34 y35 y36 y37 y38 y39 y40 y41 y42 y43 y44 y45 y46 y47 y48 y49 y50 y51 y52 y53 y54 y55 y56 y57 y58 y59 y60 y61 y62 y63 y64 y65 y66 y67 y68 : Value) :
    BT Try.prog (AtEnd0 Try.prog (PostL W)) (G ((base 5).at ⟨#[.slice a l.length cap, y1, y2, y3, .slice (some ⟨b3, 0, none⟩) R.length c3, y5, .slice (some ⟨b5, 0, none⟩) R.length R.length, y7, y8, y9, y10, y11, y12, y13, y14, y15, y16, y17, y18, y19, y20, y21, y22, y23, y24, y25, y26, y27, y28, y29, y30, y31, y32, y33, y34, y35, y36, y37, y38, y39, y40, y41, y42, y43, y44, y45, y46, y47, y48, y49, y50, y51, y52, y53, y54, y55, y56, y57, y58, y59, y60, y61, y62, y63, y64, y65, y66, y67, y68], []⟩ [.code (sd 12 (Try.f5.body.getD .skip))]) []) w10 := by
  simp only [sd, Try.f5, Option.getD_some]
  (repeat (first | (first | refine bt_ctl rfl (fun _ => stepG_seq) ?_ | refine bt_ctl rfl (fun _ => stepG_skip) ?_ | refine bt_ctl rfl (fun _ => stepG_region_end) ?_ | refine bt_ctl rfl (fun _ => stepG_ret') ?_ | (refine bt_ctl rfl (fun _ => stepG_region) ?_; simp only [List.size_toArray, List.length_cons, List.length_nil, Nat.reduceAdd, Nat.zero_add, List.range, List.range.loop])) | (refine bt_cons zgOk.bodied rfl (by rfl) (by decide) (by decide) (fun dzz Kzz hKzz => ?_); go_simp; refine hKzz _ _ (fun b hb => hb) (bt_at ?_); clear hKzz Kzz; try walk_nrm) | (refine bt_skip rfl (by rfl) ?_; try walk_nrm)))
  obtain ⟨S, hS⟩ : ∃ S : Int, (1 : Int) + (R.length : Int) = S := ⟨_, rfl⟩
  have hS0 : decide (S < 0) = false := decide_eq_false (by omega)
  have hSS : (S != S) = false := by simp
  refine bt_call (R := RMi 0 b5 R.length R.length 1 w10) zgOk (fun T d => marki_row hh10 hRl) g10 (fun v w T d h => h.rt) (fun v w' h => h.2.2.pz) zF28 (by simp [zK]) Try.func28 rfl rfl rfl rfl rfl (by k_ne) (by simp [Act.eval]) (fun v w11 h11 => ?_)
  obtain ⟨rfl, ⟨ys, own11, mk⟩, k11⟩ := h11
  rw [hS]
  have B11 := B10.trans (k11.belL (N := W.heap.size) (fun k hk => by have := hk.1; omega) B10.size) (Nat.le_refl _)
  have C41 := C40.trans (k11.belL (N := w3.heap.size) (fun k hk => by have := hk.1; omega) C40.size) (Nat.le_refl _)
  have g11 := gc_belL B11 hg
  clear B10 C40 hh10 g10 k11
  walk_nrm
  (repeat (first | (first | refine bt_ctl rfl (fun _ => stepG_seq) ?_ | refine bt_ctl rfl (fun _ => stepG_skip) ?_ | refine bt_ctl rfl (fun _ => stepG_region_end) ?_ | refine bt_ctl rfl (fun _ => stepG_ret') ?_ | (refine bt_ctl rfl (fun _ => stepG_region) ?_; simp only [List.size_toArray, List.length_cons, List.length_nil, Nat.reduceAdd, Nat.zero_add, List.range, List.range.loop])) | (refine bt_cons zgOk.bodied rfl (by rfl) (by decide) (by decide) (fun dzz Kzz hKzz => ?_); go_simp; refine hKzz _ _ (fun b hb => hb) (bt_at ?_); clear hKzz Kzz; try walk_nrm) | (refine bt_skip rfl (by rfl) ?_; try walk_nrm)))
  refine bt_call (R := PInt w11 (1 + (R.length : Int))) zgOk (fun T d => heldi_B (by omega) (by omega) (by omega) own11 mk) g11 (fun v w T d h => h.rt) (fun v w' h => belL_pz h.2) zF29 (by simp [zK]) Try.func29 rfl rfl rfl rfl rfl (by k_ne) (by simp [Act.eval]) (fun v w12 h12 => ?_)
  obtain ⟨rfl, k12⟩ := h12
  rw [hS]
  have B12 := B11.trans k12 B11.size
  have C42 := C41.trans k12 C41.size
  have own12 := own_belL own11 k12
  have g12 := gc_belL k12 g11
  have T12 := tks_low B12 hT
  clear B11 C41 own11 g11 k12
  walk_nrm
  (repeat (first | (first | refine bt_ctl rfl (fun _ => stepG_seq) ?_ | refine bt_ctl rfl (fun _ => stepG_skip) ?_ | refine bt_ctl rfl (fun _ => stepG_region_end) ?_ | refine bt_ctl rfl (fun _ => stepG_ret') ?_ | (refine bt_ctl rfl (fun _ => stepG_region) ?_; simp only [List.size_toArray, List.length_cons, List.length_nil, Nat.reduceAdd, Nat.zero_add, List.range, List.range.loop])) | (refine bt_cons zgOk.bodied rfl (by rfl) (by decide) (by decide) (fun dzz Kzz hKzz => ?_); go_simp; refine hKzz _ _ (fun b hb => hb) (bt_at ?_); clear hKzz Kzz; try walk_nrm) | (refine bt_skip rfl (by rfl) ?_; try walk_nrm)))
  (refine bt_ctl rfl (fun _ => stepG_cond (t := false) rfl) ?_; simp only [if_true, if_false, Bool.false_eq_true, ↓reduceIte])
  (repeat (first | (first | refine bt_ctl rfl (fun _ => stepG_seq) ?_ | refine bt_ctl rfl (fun _ => stepG_skip) ?_ | refine bt_ctl rfl (fun _ => stepG_region_end) ?_ | refine bt_ctl rfl (fun _ => stepG_ret') ?_ | (refine bt_ctl rfl (fun _ => stepG_region) ?_; simp only [List.size_toArray, List.length_cons, List.length_nil, Nat.reduceAdd, Nat.zero_add, List.range, List.range.loop])) | (refine bt_cons zgOk.bodied rfl (by rfl) (by decide) (by decide) (fun dzz Kzz hKzz => ?_); go_simp; refine hKzz _ _ (fun b hb => hb) (bt_at ?_); clear hKzz Kzz; try walk_nrm) | (refine bt_skip rfl (by rfl) ?_; try walk_nrm)))
  (refine bt_ctl rfl (fun _ => stepG_cond (t := false) rfl) ?_; simp only [if_true, if_false, Bool.false_eq_true, ↓reduceIte])
  (repeat (first | (first | refine bt_ctl rfl (fun _ => stepG_seq) ?_ | refine bt_ctl rfl (fun _ => stepG_skip) ?_ | refine bt_ctl rfl (fun _ => stepG_region_end) ?_ | refine bt_ctl rfl (fun _ => stepG_ret') ?_ | (refine bt_ctl rfl (fun _ => stepG_region) ?_; simp only [List.size_toArray, List.length_cons, List.length_nil, Nat.reduceAdd, Nat.zero_add, List.range, List.range.loop])) | (refine bt_cons zgOk.bodied rfl (by rfl) (by decide) (by decide) (fun dzz Kzz hKzz => ?_); go_simp; refine hKzz _ _ (fun b hb => hb) (bt_at ?_); clear hKzz Kzz; try walk_nrm) | (refine bt_skip rfl (by rfl) ?_; try walk_nrm)))
  refine bt_call (R := RTo w12 l) zgOk (tots_B (cap := cap) p1 pm hx T12) g12 (fun v w T d h => h.rt) (fun v w' h => belL_pz h.choose_spec.2.2) zF24 (by simp [zK]) Try.func24 rfl rfl rfl rfl rfl (by k_ne) (by simp [Act.eval]) (fun v w13 h13 => ?_)
  obtain ⟨b13, rfl, O13, k13⟩ := h13
  have B13 := B12.trans k13 B12.size
  have C43 := C42.trans k13 C42.size
  have own13 := own_belL own12 k13
  have g13 := gc_belL k13 g12
  clear B12 C42 own12 g12 k13 T12
  walk_nrm
  have hres13 := res_B (cap := l.length) hl O13 g13 (Nat.le_trans hTh B13.size)
  rw [hR] at hres13
  refine bt_callB hres13 Try.func21 nm21 b21 rfl rfl rfl (by k_ne) (by simp [Act.eval]) (fun v w14 h14 => ?_)
  obtain ⟨b14, rfl, ge14, hh14, k14⟩ := h14
  have B14 := B13.trans k14 B13.size
  have C44 := C43.trans k14 C43.size
  have own14 := own_belL own13 k14
  have g14 := gc_belL k14 g13
  clear B13 C43 own13 g13 k14 O13 hres13
  walk_nrm
  (repeat (first | (first | refine bt_ctl rfl (fun _ => stepG_seq) ?_ | refine bt_ctl rfl (fun _ => stepG_skip) ?_ | refine bt_ctl rfl (fun _ => stepG_region_end) ?_ | refine bt_ctl rfl (fun _ => stepG_ret') ?_ | (refine bt_ctl rfl (fun _ => stepG_region) ?_; simp only [List.size_toArray, List.length_cons, List.length_nil, Nat.reduceAdd, Nat.zero_add, List.range, List.range.loop])) | (refine bt_cons zgOk.bodied rfl (by rfl) (by decide) (by decide) (fun dzz Kzz hKzz => ?_); go_simp; refine hKzz _ _ (fun b hb => hb) (bt_at ?_); clear hKzz Kzz; try walk_nrm) | (refine bt_skip rfl (by rfl) ?_; try walk_nrm)))
  refine bt_call (R := RTr w14) zgOk (fun T d => eqi_B (l := R) (cap := R.length) (cb := c3) (by omega) (ins_own hh14) (ins_low C44 I3)) g14 (fun v w T d h => h.rt) (fun v w' h => belL_pz h.2) zF25 (by simp [zK]) Try.func25 rfl rfl rfl rfl rfl (by k_ne) (by simp [Act.eval]) (fun v w15 h15 => ?_)
  obtain ⟨rfl, k15⟩ := h15
  have B15 := B14.trans k15 B14.size
  have own15 := own_belL own14 k15
  have g15 := gc_belL k15 g14
  clear B14 C44 own14 g14 k15
  walk_nrm
  (repeat (first | (first | refine bt_ctl rfl (fun _ => stepG_seq) ?_ | refine bt_ctl rfl (fun _ => stepG_skip) ?_ | refine bt_ctl rfl (fun _ => stepG_region_end) ?_ | refine bt_ctl rfl (fun _ => stepG_ret') ?_ | (refine bt_ctl rfl (fun _ => stepG_region) ?_; simp only [List.size_toArray, List.length_cons, List.length_nil, Nat.reduceAdd, Nat.zero_add, List.range, List.range.loop])) | (refine bt_cons zgOk.bodied rfl (by rfl) (by decide) (by decide) (fun dzz Kzz hKzz => ?_); go_simp; refine hKzz _ _ (fun b hb => hb) (bt_at ?_); clear hKzz Kzz; try walk_nrm) | (refine bt_skip rfl (by rfl) ?_; try walk_nrm)))
  (refine bt_ctl rfl (fun _ => stepG_cond (t := false) rfl) ?_; simp only [if_true, if_false, Bool.false_eq_true, ↓reduceIte])
  (repeat (first | (first | refine bt_ctl rfl (fun _ => stepG_seq) ?_ | refine bt_ctl rfl (fun _ => stepG_skip) ?_ | refine bt_ctl rfl (fun _ => stepG_region_end) ?_ | refine bt_ctl rfl (fun _ => stepG_ret') ?_ | (refine bt_ctl rfl (fun _ => stepG_region) ?_; simp only [List.size_toArray, List.length_cons, List.length_nil, Nat.reduceAdd, Nat.zero_add, List.range, List.range.loop])) | (refine bt_cons zgOk.bodied rfl (by rfl) (by decide) (by decide) (fun dzz Kzz hKzz => ?_); go_simp; refine hKzz _ _ (fun b hb => hb) (bt_at ?_); clear hKzz Kzz; try walk_nrm) | (refine bt_skip rfl (by rfl) ?_; try walk_nrm)))
  refine bt_call (R := PInt w15 (1 + (R.length : Int))) zgOk (fun T d => heldi_B (by omega) (by omega) (by omega) own15 mk) g15 (fun v w T d h => h.rt) (fun v w' h => belL_pz h.2) zF29 (by simp [zK]) Try.func29 rfl rfl rfl rfl rfl (by k_ne) (by simp [Act.eval]) (fun v w16 h16 => ?_)
  obtain ⟨rfl, k16⟩ := h16
  rw [hS]
  have B16 := B15.trans k16 B15.size
  clear B15 own15 g15 k16
  walk_nrm
  (repeat (first | (first | refine bt_ctl rfl (fun _ => stepG_seq) ?_ | refine bt_ctl rfl (fun _ => stepG_skip) ?_ | refine bt_ctl rfl (fun _ => stepG_region_end) ?_ | refine bt_ctl rfl (fun _ => stepG_ret') ?_ | (refine bt_ctl rfl (fun _ => stepG_region) ?_; simp only [List.size_toArray, List.length_cons, List.length_nil, Nat.reduceAdd, Nat.zero_add, List.range, List.range.loop])) | (refine bt_cons zgOk.bodied rfl (by rfl) (by decide) (by decide) (fun dzz Kzz hKzz => ?_); go_simp; refine hKzz _ _ (fun b hb => hb) (bt_at ?_); clear hKzz Kzz; try walk_nrm) | (refine bt_skip rfl (by rfl) ?_; try walk_nrm)))
  (refine bt_ctl rfl (fun _ => stepG_cond (t := false) rfl) ?_; simp only [if_true, if_false, Bool.false_eq_true, ↓reduceIte])
  (repeat (first | (first | refine bt_ctl rfl (fun _ => stepG_seq) ?_ | refine bt_ctl rfl (fun _ => stepG_skip) ?_ | refine bt_ctl rfl (fun _ => stepG_region_end) ?_ | refine bt_ctl rfl (fun _ => stepG_ret') ?_ | (refine bt_ctl rfl (fun _ => stepG_region) ?_; simp only [List.size_toArray, List.length_cons, List.length_nil, Nat.reduceAdd, Nat.zero_add, List.range, List.range.loop])) | (refine bt_cons zgOk.bodied rfl (by rfl) (by decide) (by decide) (fun dzz Kzz hKzz => ?_); go_simp; refine hKzz _ _ (fun b hb => hb) (bt_at ?_); clear hKzz Kzz; try walk_nrm) | (refine bt_skip rfl (by rfl) ?_; try walk_nrm)))
  (refine bt_ctl rfl (fun _ => stepG_cond (t := false) rfl) ?_; simp only [if_true, if_false, Bool.false_eq_true, ↓reduceIte])
  (repeat (first | (first | refine bt_ctl rfl (fun _ => stepG_seq) ?_ | refine bt_ctl rfl (fun _ => stepG_skip) ?_ | refine bt_ctl rfl (fun _ => stepG_region_end) ?_ | refine bt_ctl rfl (fun _ => stepG_ret') ?_ | (refine bt_ctl rfl (fun _ => stepG_region) ?_; simp only [List.size_toArray, List.length_cons, List.length_nil, Nat.reduceAdd, Nat.zero_add, List.range, List.range.loop])) | (refine bt_cons zgOk.bodied rfl (by rfl) (by decide) (by decide) (fun dzz Kzz hKzz => ?_); go_simp; refine hKzz _ _ (fun b hb => hb) (bt_at ?_); clear hKzz Kzz; try walk_nrm) | (refine bt_skip rfl (by rfl) ?_; try walk_nrm)))
  exact bt_end5 rfl rfl ⟨B16.os, B16.output, B16.size, B16.block⟩
end Go.Proofs.Ytpmmimcafkillaa.Tr
