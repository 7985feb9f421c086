/-
  FnExactResults: the law, from its entry.
-/
import Derived.Test.YtpmmimcafkillaaZRc
set_option linter.unusedVariables false
set_option linter.unusedSimpArgs false
namespace Go.Proofs.Ytpmmimcafkillaa.Tr
open Go Go.Conc Go.RowKit
open Go.Proofs.Ytpmmimcafkillaa.Br (BT BTS Hd Hid Pz Pst Shn Thr EvN bt_ctl bt_cons bt_skip bt_call bt_callB bt_enter CallsB rt AtEnd0)
open Go.Proofs.Ytpmmimcafkillaa.Rs (Rule outOf out_at out_len resR crR dtR hst gmx)
open Go.Proofs.Ytpmmimcafkillaa (Tv Tks Ins jobOk job_tok TOk job_short tot tot_mem TO TX OwnI Mkd row_ownX)
set_option maxRecDepth 100000 in
set_option maxHeartbeats 16000000 in
theorem lawRs [Thr] {W : World} (a : Option Addr) (cap : Nat) (l : List Tv) (hl : l.length ≤ maxLen) (hT : Tks W a l) (hg : Br.GC Try.prog W) (hTh : Thr.N ≤ W.heap.size) :
    BT Try.prog (AtEnd0 Try.prog (PostL W)) (G (Frame.enter Try.prog 5 #[.slice a l.length cap] .normal) []) W := by
  have e5 : Frame.enter Try.prog 5 #[.slice a l.length cap] .normal = (base 5).at ⟨#[.slice a l.length cap, undef, undef, undef, undef, undef, undef, undef, undef, undef, undef, undef, undef, undef, undef, undef, undef, undef, undef, undef, undef, undef, undef, undef, undef, undef, undef, undef, undef, undef, undef, undef, undef, undef, undef, undef, undef, undef, undef, undef, undef, undef, undef, undef, undef, undef, undef, undef, undef, undef, undef, undef, undef, undef, undef, undef, undef, undef, undef, undef, undef, undef, undef, undef, undef, undef, undef, undef, undef], []⟩ [.code (Try.f5.body.getD .skip)] := by
    simp [Frame.enter, Frame.at, Try.func5, base, Try.f5]
  rw [e5]
  clear e5
  have hx := tks_maxL hT
  obtain ⟨R, hR⟩ : ∃ R, resOf l = R := ⟨_, rfl⟩
  have hRl : R.length ≤ 200 := by rw [← hR]; exact res_len
  simp only [Try.f5, Option.getD_some]
  (repeat (first | (first | refine bt_ctl rfl (fun _ => stepG_seq) ?_ | refine bt_ctl rfl (fun _ => stepG_skip) ?_ | refine bt_ctl rfl (fun _ => stepG_region_end) ?_ | refine bt_ctl rfl (fun _ => stepG_ret') ?_ | (refine bt_ctl rfl (fun _ => stepG_region) ?_; simp only [List.size_toArray, List.length_cons, List.length_nil, Nat.reduceAdd, Nat.zero_add, List.range, List.range.loop])) | (refine bt_cons zgOk.bodied rfl (by rfl) (by decide) (by decide) (fun dzz Kzz hKzz => ?_); go_simp; refine hKzz _ _ (fun b hb => hb) (bt_at ?_); clear hKzz Kzz; try walk_nrm) | (refine bt_skip rfl (by rfl) ?_; try walk_nrm)))
  refine bt_call (R := RSz W l) zgOk (szts_B (cap := cap) hl hT) hg (fun v w T d h => h.rt) (fun v w' h => belL_pz h.choose_spec.2.2) zF23 (by simp [zK]) Try.func23 rfl rfl rfl rfl rfl (by k_ne) (by simp [Act.eval]) (fun v w1 h1 => ?_)
  obtain ⟨r, rfl, hr, hB1⟩ := h1
  walk_nrm
  rcases hr with rfl | ⟨r0, hr⟩
  · (repeat (first | (first | refine bt_ctl rfl (fun _ => stepG_seq) ?_ | refine bt_ctl rfl (fun _ => stepG_skip) ?_ | refine bt_ctl rfl (fun _ => stepG_region_end) ?_ | refine bt_ctl rfl (fun _ => stepG_ret') ?_ | (refine bt_ctl rfl (fun _ => stepG_region) ?_; simp only [List.size_toArray, List.length_cons, List.length_nil, Nat.reduceAdd, Nat.zero_add, List.range, List.range.loop])) | (refine bt_cons zgOk.bodied rfl (by rfl) (by decide) (by decide) (fun dzz Kzz hKzz => ?_); go_simp; refine hKzz _ _ (fun b hb => hb) (bt_at ?_); clear hKzz Kzz; try walk_nrm) | (refine bt_skip rfl (by rfl) ?_; try walk_nrm)))
    (refine bt_ctl rfl (fun _ => stepG_cond (t := true) rfl) ?_; simp only [if_true, if_false, Bool.false_eq_true, ↓reduceIte])
    (repeat (first | (first | refine bt_ctl rfl (fun _ => stepG_seq) ?_ | refine bt_ctl rfl (fun _ => stepG_skip) ?_ | refine bt_ctl rfl (fun _ => stepG_region_end) ?_ | refine bt_ctl rfl (fun _ => stepG_ret') ?_ | (refine bt_ctl rfl (fun _ => stepG_region) ?_; simp only [List.size_toArray, List.length_cons, List.length_nil, Nat.reduceAdd, Nat.zero_add, List.range, List.range.loop])) | (refine bt_cons zgOk.bodied rfl (by rfl) (by decide) (by decide) (fun dzz Kzz hKzz => ?_); go_simp; refine hKzz _ _ (fun b hb => hb) (bt_at ?_); clear hKzz Kzz; try walk_nrm) | (refine bt_skip rfl (by rfl) ?_; try walk_nrm)))
    exact bt_end5 rfl rfl ⟨hB1.os, hB1.output, hB1.size, hB1.block⟩
  have gr : decide (r < 0) = false := decide_eq_false (by omega)
  have p1 : l.length ≤ 1048576 := by omega
  have ptot : l.length + tot l ≤ 1048576 := by omega
  have pm : ∀ t ∈ l, t.2.2.1.length ≤ 1048576 := fun t ht => by have := tot_mem ht; omega
  have T1 := tks_low hB1 hT
  have g1 := gc_belL hB1 hg
  clear hr
  (repeat (first | (first | refine bt_ctl rfl (fun _ => stepG_seq) ?_ | refine bt_ctl rfl (fun _ => stepG_skip) ?_ | refine bt_ctl rfl (fun _ => stepG_region_end) ?_ | refine bt_ctl rfl (fun _ => stepG_ret') ?_ | (refine bt_ctl rfl (fun _ => stepG_region) ?_; simp only [List.size_toArray, List.length_cons, List.length_nil, Nat.reduceAdd, Nat.zero_add, List.range, List.range.loop])) | (refine bt_cons zgOk.bodied rfl (by rfl) (by decide) (by decide) (fun dzz Kzz hKzz => ?_); go_simp; refine hKzz _ _ (fun b hb => hb) (bt_at ?_); clear hKzz Kzz; try walk_nrm) | (refine bt_skip rfl (by rfl) ?_; try walk_nrm)))
  (refine bt_ctl rfl (fun _ => stepG_cond (t := false) rfl) ?_; simp only [if_true, if_false, Bool.false_eq_true, ↓reduceIte])
  (repeat (first | (first | refine bt_ctl rfl (fun _ => stepG_seq) ?_ | refine bt_ctl rfl (fun _ => stepG_skip) ?_ | refine bt_ctl rfl (fun _ => stepG_region_end) ?_ | refine bt_ctl rfl (fun _ => stepG_ret') ?_ | (refine bt_ctl rfl (fun _ => stepG_region) ?_; simp only [List.size_toArray, List.length_cons, List.length_nil, Nat.reduceAdd, Nat.zero_add, List.range, List.range.loop])) | (refine bt_cons zgOk.bodied rfl (by rfl) (by decide) (by decide) (fun dzz Kzz hKzz => ?_); go_simp; refine hKzz _ _ (fun b hb => hb) (bt_at ?_); clear hKzz Kzz; try walk_nrm) | (refine bt_skip rfl (by rfl) ?_; try walk_nrm)))
  refine bt_call (R := RTo w1 l) zgOk (tots_B (cap := cap) p1 pm hx T1) g1 (fun v w T d h => h.rt) (fun v w' h => belL_pz h.choose_spec.2.2) zF24 (by simp [zK]) Try.func24 rfl rfl rfl rfl rfl (by k_ne) (by simp [Act.eval]) (fun v w2 h2 => ?_)
  obtain ⟨b2, rfl, O2, k2⟩ := h2
  have B2 := hB1.trans k2 hB1.size
  have g2 := gc_belL k2 g1
  clear hB1 g1 T1 k2
  walk_nrm
  refine bt_call (R := RRow w2 R) zgOk (fun T d => hR ▸ sres_B (cap := l.length) hl O2) g2 (fun v w T d h => h.rt) (fun v w' h => belL_pz h.choose_spec.choose_spec.2.2) zF22 (by simp [zK]) Try.func22 rfl rfl rfl rfl rfl (by k_ne) (by simp [Act.eval]) (fun v w3 h3 => ?_)
  obtain ⟨b3, c3, rfl, I3, k3⟩ := h3
  have B3 := B2.trans k3 B2.size
  have T3 := tks_low B3 hT
  have g3 := gc_belL k3 g2
  have N3 := Nat.le_trans B2.size k3.size
  have N3' : W.heap.size ≤ w3.heap.size := N3
  clear B2 g2 O2 k3
  walk_nrm
  (repeat (first | (first | refine bt_ctl rfl (fun _ => stepG_seq) ?_ | refine bt_ctl rfl (fun _ => stepG_skip) ?_ | refine bt_ctl rfl (fun _ => stepG_region_end) ?_ | refine bt_ctl rfl (fun _ => stepG_ret') ?_ | (refine bt_ctl rfl (fun _ => stepG_region) ?_; simp only [List.size_toArray, List.length_cons, List.length_nil, Nat.reduceAdd, Nat.zero_add, List.range, List.range.loop])) | (refine bt_cons zgOk.bodied rfl (by rfl) (by decide) (by decide) (fun dzz Kzz hKzz => ?_); go_simp; refine hKzz _ _ (fun b hb => hb) (bt_at ?_); clear hKzz Kzz; try walk_nrm) | (refine bt_skip rfl (by rfl) ?_; try walk_nrm)))
  refine bt_call (R := RToX w3 l) zgOk (fun T d => totsX_B (cap := cap) p1 pm T3) g3 (fun v w T d h => h.rt) (fun v w' h => belL_pz h.choose_spec.2.2) zF24 (by simp [zK]) Try.func24 rfl rfl rfl rfl rfl (by k_ne) (by simp [Act.eval]) (fun v w4 h4 => ?_)
  obtain ⟨b4, rfl, X4, k4⟩ := h4
  have B4 := B3.trans k4 B3.size
  have C34 := k4
  have g4 := gc_belL k4 g3
  clear B3 g3 T3
  walk_nrm
  (repeat (first | (first | refine bt_ctl rfl (fun _ => stepG_seq) ?_ | refine bt_ctl rfl (fun _ => stepG_skip) ?_ | refine bt_ctl rfl (fun _ => stepG_region_end) ?_ | refine bt_ctl rfl (fun _ => stepG_ret') ?_ | (refine bt_ctl rfl (fun _ => stepG_region) ?_; simp only [List.size_toArray, List.length_cons, List.length_nil, Nat.reduceAdd, Nat.zero_add, List.range, List.range.loop])) | (refine bt_cons zgOk.bodied rfl (by rfl) (by decide) (by decide) (fun dzz Kzz hKzz => ?_); go_simp; refine hKzz _ _ (fun b hb => hb) (bt_at ?_); clear hKzz Kzz; try walk_nrm) | (refine bt_skip rfl (by rfl) ?_; try walk_nrm)))
  have hres4 := res_B (cap := l.length) hl (X4.tks hx) g4 (Nat.le_trans hTh B4.size)
  rw [hR] at hres4
  refine bt_callB hres4 Try.func21 nm21 b21 rfl rfl rfl (by k_ne) (by simp [Act.eval]) (fun v w5 h5 => ?_)
  obtain ⟨b5, rfl, ge5, hh5, k5⟩ := h5
  have B5 := B4.trans k5 B4.size
  have C35 := C34.trans k5 C34.size
  have X5 := to_belL X4 k5
  have g5 := gc_belL k5 g4
  have N5 := k5.size
  clear B4 g4 C34 hres4
  walk_nrm
  (repeat (first | (first | refine bt_ctl rfl (fun _ => stepG_seq) ?_ | refine bt_ctl rfl (fun _ => stepG_skip) ?_ | refine bt_ctl rfl (fun _ => stepG_region_end) ?_ | refine bt_ctl rfl (fun _ => stepG_ret') ?_ | (refine bt_ctl rfl (fun _ => stepG_region) ?_; simp only [List.size_toArray, List.length_cons, List.length_nil, Nat.reduceAdd, Nat.zero_add, List.range, List.range.loop])) | (refine bt_cons zgOk.bodied rfl (by rfl) (by decide) (by decide) (fun dzz Kzz hKzz => ?_); go_simp; refine hKzz _ _ (fun b hb => hb) (bt_at ?_); clear hKzz Kzz; try walk_nrm) | (refine bt_skip rfl (by rfl) ?_; try walk_nrm)))
  refine bt_call (R := RTr w5) zgOk (fun T d => eqi_B (l := R) (cap := R.length) (cb := c3) (by omega) (ins_own hh5) (ins_low C35 I3)) g5 (fun v w T d h => h.rt) (fun v w' h => belL_pz h.2) zF25 (by simp [zK]) Try.func25 rfl rfl rfl rfl rfl (by k_ne) (by simp [Act.eval]) (fun v w6 h6 => ?_)
  obtain ⟨rfl, k6⟩ := h6
  have B6 := B5.trans k6 B5.size
  have C36 := C35.trans k6 C35.size
  have X6 := to_belL X5 k6
  have hh6 := (k6.block b5 (Array.getElem?_eq_some_iff.1 hh5).1).trans hh5
  have g6 := gc_belL k6 g5
  have T6 := tks_low B6 hT
  have N6 := k6.size
  clear B5 g5 C35 X5 hh5 k6
  walk_nrm
  (repeat (first | (first | refine bt_ctl rfl (fun _ => stepG_seq) ?_ | refine bt_ctl rfl (fun _ => stepG_skip) ?_ | refine bt_ctl rfl (fun _ => stepG_region_end) ?_ | refine bt_ctl rfl (fun _ => stepG_ret') ?_ | (refine bt_ctl rfl (fun _ => stepG_region) ?_; simp only [List.size_toArray, List.length_cons, List.length_nil, Nat.reduceAdd, Nat.zero_add, List.range, List.range.loop])) | (refine bt_cons zgOk.bodied rfl (by rfl) (by decide) (by decide) (fun dzz Kzz hKzz => ?_); go_simp; refine hKzz _ _ (fun b hb => hb) (bt_at ?_); clear hKzz Kzz; try walk_nrm) | (refine bt_skip rfl (by rfl) ?_; try walk_nrm)))
  (refine bt_ctl rfl (fun _ => stepG_cond (t := false) rfl) ?_; simp only [if_true, if_false, Bool.false_eq_true, ↓reduceIte])
  (repeat (first | (first | refine bt_ctl rfl (fun _ => stepG_seq) ?_ | refine bt_ctl rfl (fun _ => stepG_skip) ?_ | refine bt_ctl rfl (fun _ => stepG_region_end) ?_ | refine bt_ctl rfl (fun _ => stepG_ret') ?_ | (refine bt_ctl rfl (fun _ => stepG_region) ?_; simp only [List.size_toArray, List.length_cons, List.length_nil, Nat.reduceAdd, Nat.zero_add, List.range, List.range.loop])) | (refine bt_cons zgOk.bodied rfl (by rfl) (by decide) (by decide) (fun dzz Kzz hKzz => ?_); go_simp; refine hKzz _ _ (fun b hb => hb) (bt_at ?_); clear hKzz Kzz; try walk_nrm) | (refine bt_skip rfl (by rfl) ?_; try walk_nrm)))
  refine bt_call (R := RTo w6 l) zgOk (tots_B (cap := cap) p1 pm hx T6) g6 (fun v w T d h => h.rt) (fun v w' h => belL_pz h.choose_spec.2.2) zF24 (by simp [zK]) Try.func24 rfl rfl rfl rfl rfl (by k_ne) (by simp [Act.eval]) (fun v w7 h7 => ?_)
  obtain ⟨b7, rfl, O7, k7⟩ := h7
  have B7 := B6.trans k7 B6.size
  have C37 := C36.trans k7 C36.size
  have X7 := to_belL X6 k7
  have hh7 := (k7.block b5 (Array.getElem?_eq_some_iff.1 hh6).1).trans hh6
  have g7 := gc_belL k7 g6
  have N7 := k7.size
  clear B6 g6 C36 X6 hh6 k7 T6
  walk_nrm
  refine bt_call (R := RTr w7) zgOk (eqts_B (cap := l.length) (cb := l.length) p1 pm (X7.tks hx) O7) g7 (fun v w T d h => h.rt) (fun v w' h => belL_pz h.2) zF26 (by simp [zK]) Try.func26 rfl rfl rfl rfl rfl (by k_ne) (by simp [Act.eval]) (fun v w8 h8 => ?_)
  obtain ⟨rfl, k8⟩ := h8
  have B8 := B7.trans k8 B7.size
  have C38 := C37.trans k8 C37.size
  have X8 := to_belL X7 k8
  have hh8 := (k8.block b5 (Array.getElem?_eq_some_iff.1 hh7).1).trans hh7
  have g8 := gc_belL k8 g7
  have N8 := k8.size
  clear B7 g7 C37 X7 hh7 k8 O7
  walk_nrm
  (repeat (first | (first | refine bt_ctl rfl (fun _ => stepG_seq) ?_ | refine bt_ctl rfl (fun _ => stepG_skip) ?_ | refine bt_ctl rfl (fun _ => stepG_region_end) ?_ | refine bt_ctl rfl (fun _ => stepG_ret') ?_ | (refine bt_ctl rfl (fun _ => stepG_region) ?_; simp only [List.size_toArray, List.length_cons, List.length_nil, Nat.reduceAdd, Nat.zero_add, List.range, List.range.loop])) | (refine bt_cons zgOk.bodied rfl (by rfl) (by decide) (by decide) (fun dzz Kzz hKzz => ?_); go_simp; refine hKzz _ _ (fun b hb => hb) (bt_at ?_); clear hKzz Kzz; try walk_nrm) | (refine bt_skip rfl (by rfl) ?_; try walk_nrm)))
  (refine bt_ctl rfl (fun _ => stepG_cond (t := false) rfl) ?_; simp only [if_true, if_false, Bool.false_eq_true, ↓reduceIte])
  (repeat (first | (first | refine bt_ctl rfl (fun _ => stepG_seq) ?_ | refine bt_ctl rfl (fun _ => stepG_skip) ?_ | refine bt_ctl rfl (fun _ => stepG_region_end) ?_ | refine bt_ctl rfl (fun _ => stepG_ret') ?_ | (refine bt_ctl rfl (fun _ => stepG_region) ?_; simp only [List.size_toArray, List.length_cons, List.length_nil, Nat.reduceAdd, Nat.zero_add, List.range, List.range.loop])) | (refine bt_cons zgOk.bodied rfl (by rfl) (by decide) (by decide) (fun dzz Kzz hKzz => ?_); go_simp; refine hKzz _ _ (fun b hb => hb) (bt_at ?_); clear hKzz Kzz; try walk_nrm) | (refine bt_skip rfl (by rfl) ?_; try walk_nrm)))
  refine bt_call (R := RMt (fun k => w3.heap.size ≤ k ∧ (k < w4.heap.size ∧ ¬ Pz w8 k)) w8) zgOk (fun T d => markts_B (cap := l.length) ptot X8) g8 (fun v w T d h => h.rt) (fun v w' h => h.choose_spec.2.2.pz) zF27 (by simp [zK]) Try.func27 rfl rfl rfl rfl rfl (by k_ne) (by simp [Act.eval]) (fun v w9 h9 => ?_)
  obtain ⟨r9, rfl, r90, k9⟩ := h9
  have hgr9 : decide (r9 < 0) = false := decide_eq_false (by omega)
  have B9 := B8.trans (k9.belL (N := W.heap.size) (fun k hk => by have := hk.1; omega) B8.size) (Nat.le_refl _)
  have C39 := C38.trans (k9.belL (N := w3.heap.size) (fun k hk => hk.1) C38.size) (Nat.le_refl _)
  have hh9 := (k9.block b5 (Array.getElem?_eq_some_iff.1 hh8).1 (fun hk => by have := hk.2.1; omega)).trans hh8
  have g9 := gc_belL B9 hg
  have N9 := k9.size
  clear B8 g8 C38 X8 hh8 k9
  walk_nrm
  (repeat (first | (first | refine bt_ctl rfl (fun _ => stepG_seq) ?_ | refine bt_ctl rfl (fun _ => stepG_skip) ?_ | refine bt_ctl rfl (fun _ => stepG_region_end) ?_ | refine bt_ctl rfl (fun _ => stepG_ret') ?_ | (refine bt_ctl rfl (fun _ => stepG_region) ?_; simp only [List.size_toArray, List.length_cons, List.length_nil, Nat.reduceAdd, Nat.zero_add, List.range, List.range.loop])) | (refine bt_cons zgOk.bodied rfl (by rfl) (by decide) (by decide) (fun dzz Kzz hKzz => ?_); go_simp; refine hKzz _ _ (fun b hb => hb) (bt_at ?_); clear hKzz Kzz; try walk_nrm) | (refine bt_skip rfl (by rfl) ?_; try walk_nrm)))
  refine bt_call (R := RTr w9) zgOk (fun T d => eqi_B (l := R) (cap := R.length) (cb := c3) (by omega) (ins_own hh9) (ins_low C39 I3)) g9 (fun v w T d h => h.rt) (fun v w' h => belL_pz h.2) zF25 (by simp [zK]) Try.func25 rfl rfl rfl rfl rfl (by k_ne) (by simp [Act.eval]) (fun v w10 h10 => ?_)
  obtain ⟨rfl, k10⟩ := h10
  have B10 := B9.trans k10 B9.size
  have C40 := C39.trans k10 C39.size
  have hh10 := (k10.block b5 (Array.getElem?_eq_some_iff.1 hh9).1).trans hh9
  have g10 := gc_belL k10 g9
  clear B9 C39 hh9 g9 k10
  walk_nrm
  (repeat (first | (first | refine bt_ctl rfl (fun _ => stepG_seq) ?_ | refine bt_ctl rfl (fun _ => stepG_skip) ?_ | refine bt_ctl rfl (fun _ => stepG_region_end) ?_ | refine bt_ctl rfl (fun _ => stepG_ret') ?_ | (refine bt_ctl rfl (fun _ => stepG_region) ?_; simp only [List.size_toArray, List.length_cons, List.length_nil, Nat.reduceAdd, Nat.zero_add, List.range, List.range.loop])) | (refine bt_cons zgOk.bodied rfl (by rfl) (by decide) (by decide) (fun dzz Kzz hKzz => ?_); go_simp; refine hKzz _ _ (fun b hb => hb) (bt_at ?_); clear hKzz Kzz; try walk_nrm) | (refine bt_skip rfl (by rfl) ?_; try walk_nrm)))
  (refine bt_ctl rfl (fun _ => stepG_cond (t := false) rfl) ?_; simp only [if_true, if_false, Bool.false_eq_true, ↓reduceIte])
  refine bt_ctl rfl (fun _ => stepG_skip) ?_
  have h2 := fun y1 y2 y3 y5 y7 y8 y9 y10 y11 y12 y13 y14 y15 y16 y17 y18 y19 y20 y21 y22 y23 y24 y25 y26 y27 y28 y29 y30 y31 y32 y33 y34 y35 y36 y37 y38 y39 y40 y41 y42 y43 y44 y45 y46 y47 y48 y49 y50 y51 y52 y53 y54 y55 y56 y57 y58 y59 y60 y61 y62 y63 y64 y65 y66 y67 y68 => lawRs2 (w10 := w10) (c3 := c3) a cap l hl hT hg hTh p1 pm hx hR hRl N3' I3 (Nat.le_trans k4.size ge5) B10 C40 hh10 g10 y1 y2 y3 y5 y7 y8 y9 y10 y11 y12 y13 y14 y15 y16 y17 y18 y19 y20 y21 y22 y23 y24 y25 y26 y27 y28 y29 y30 y31 y32 y33 y34 y35 y36 y37 y38 y39 y40 y41 y42 y43 y44 y45 y46 y47 y48 y49 y50 y51 y52 y53 y54 y55 y56 y57 y58 y59 y60 y61 y62 y63 y64 y65 y66 y67 y68
  simp only [sd, Try.f5, Option.getD_some] at h2
  exact h2 _ _ _ _ _ _ _ _ _ _ _ _ _ _ _ _ _ _ _ _ _ _ _ _ _ _ _ _ _ _ _ _ _ _ _ _ _ _ _ _ _ _ _ _ _ _ _ _ _ _ _ _ _ _ _ _ _ _ _ _ _ _ _ _ _ _
end Go.Proofs.Ytpmmimcafkillaa.Tr
