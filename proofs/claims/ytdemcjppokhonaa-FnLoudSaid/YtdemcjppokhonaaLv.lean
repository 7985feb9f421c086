/-
  The law of FnLoud, beside leavers: it answers true.
-/
import Derived.Test.YtdemcjppokhonaaLv2
import Derived.Test.YtdemcjppokhonaaXc
set_option linter.unusedVariables false
set_option linter.unusedSimpArgs false
namespace Go.Proofs.Ytdemcjppokhonaa
open Go Go.Conc Go.RowKit
set_option maxHeartbeats 6400000 in
set_option maxRecDepth 100000 in
theorem lawLoud (a : Option Addr) (ca : Nat) (n : Nat) (w : World) (hg : GC Try.prog w) (hr : RdB w w.heap.size a n) :
    BA Try.prog (AtEnd0 Try.prog (PostL w)) (G (Frame.enter Try.prog 5 #[.slice a n ca] .normal) []) w := by
  rw [enter_at _ Try.func5 rfl]
  simp only [Try.f5, Option.getD_some, List.size_toArray, List.length_cons, List.length_nil, Nat.reduceAdd, Nat.reduceSub, Array.replicate_succ, Array.replicate_zero, List.push_toArray, List.append_toArray, List.nil_append, List.cons_append]
  (repeat (first | (first | refine ba_ctl rfl (fun _ => stepG_seq) ?_ | refine ba_ctl rfl (fun _ => stepG_skip) ?_ | refine ba_ctl rfl (fun _ => stepG_block) ?_ | refine ba_ctl rfl (fun _ => stepG_loop) ?_ | refine ba_ctl rfl (fun _ => stepG_inLoop) ?_ | refine ba_ctl rfl (fun _ => stepG_inBlock) ?_ | refine ba_ctl rfl (fun _ => stepG_region_end) ?_ | refine ba_ctl rfl (fun _ => stepG_ret') ?_ | (refine ba_ctl rfl (fun _ => stepG_region) ?_; simp only [List.size_toArray, List.length_cons, List.length_nil, Nat.reduceAdd, Nat.zero_add, List.range, List.range.loop])) | (refine ba_cons bod rfl (by rfl) rfl (by decide) (fun dzz Kzz hKzz => ?_); go_simp; refine hKzz _ _ (BA.at ?_ dzz); clear hKzz Kzz; try walk_nrm) | (refine ba_skip rfl (by rfl) ?_; try walk_nrm)))
  refine ba_call setOk (bigB a n ca w) hg bolR rfl Try.func12 (by rfl) (by rfl) rfl (by rfl) rfl (by decide) (by simp [Act.eval]) ?_
  rintro v w0 ⟨rfl, b0⟩
  try walk_nrm
  by_cases hl : 4096 < n
  · rw [decide_eq_true hl]
    (repeat (first | (first | refine ba_ctl rfl (fun _ => stepG_seq) ?_ | refine ba_ctl rfl (fun _ => stepG_skip) ?_ | refine ba_ctl rfl (fun _ => stepG_block) ?_ | refine ba_ctl rfl (fun _ => stepG_loop) ?_ | refine ba_ctl rfl (fun _ => stepG_inLoop) ?_ | refine ba_ctl rfl (fun _ => stepG_inBlock) ?_ | refine ba_ctl rfl (fun _ => stepG_region_end) ?_ | refine ba_ctl rfl (fun _ => stepG_ret') ?_ | (refine ba_ctl rfl (fun _ => stepG_region) ?_; simp only [List.size_toArray, List.length_cons, List.length_nil, Nat.reduceAdd, Nat.zero_add, List.range, List.range.loop])) | (refine ba_cons bod rfl (by rfl) rfl (by decide) (fun dzz Kzz hKzz => ?_); go_simp; refine hKzz _ _ (BA.at ?_ dzz); clear hKzz Kzz; try walk_nrm) | (refine ba_skip rfl (by rfl) ?_; try walk_nrm)))
    (refine ba_ctl rfl (fun _ => stepG_cond (t := true) rfl) ?_; simp only [if_true, if_false, Bool.false_eq_true, ↓reduceIte])
    (repeat (first | (first | refine ba_ctl rfl (fun _ => stepG_seq) ?_ | refine ba_ctl rfl (fun _ => stepG_skip) ?_ | refine ba_ctl rfl (fun _ => stepG_block) ?_ | refine ba_ctl rfl (fun _ => stepG_loop) ?_ | refine ba_ctl rfl (fun _ => stepG_inLoop) ?_ | refine ba_ctl rfl (fun _ => stepG_inBlock) ?_ | refine ba_ctl rfl (fun _ => stepG_region_end) ?_ | refine ba_ctl rfl (fun _ => stepG_ret') ?_ | (refine ba_ctl rfl (fun _ => stepG_region) ?_; simp only [List.size_toArray, List.length_cons, List.length_nil, Nat.reduceAdd, Nat.zero_add, List.range, List.range.loop])) | (refine ba_cons bod rfl (by rfl) rfl (by decide) (fun dzz Kzz hKzz => ?_); go_simp; refine hKzz _ _ (BA.at ?_ dzz); clear hKzz Kzz; try walk_nrm) | (refine ba_skip rfl (by rfl) ?_; try walk_nrm)))
    exact ba_end (Fin := fun _ _ => True) (t := 2) Try.func5 (by rfl) (by kernel_rfl) rfl fun d => ⟨rfl, b0.at d⟩
  rw [decide_eq_false hl]
  have G0 := b0.gc hg
  have r0 := b0.rdb hr
  (repeat (first | (first | refine ba_ctl rfl (fun _ => stepG_seq) ?_ | refine ba_ctl rfl (fun _ => stepG_skip) ?_ | refine ba_ctl rfl (fun _ => stepG_block) ?_ | refine ba_ctl rfl (fun _ => stepG_loop) ?_ | refine ba_ctl rfl (fun _ => stepG_inLoop) ?_ | refine ba_ctl rfl (fun _ => stepG_inBlock) ?_ | refine ba_ctl rfl (fun _ => stepG_region_end) ?_ | refine ba_ctl rfl (fun _ => stepG_ret') ?_ | (refine ba_ctl rfl (fun _ => stepG_region) ?_; simp only [List.size_toArray, List.length_cons, List.length_nil, Nat.reduceAdd, Nat.zero_add, List.range, List.range.loop])) | (refine ba_cons bod rfl (by rfl) rfl (by decide) (fun dzz Kzz hKzz => ?_); go_simp; refine hKzz _ _ (BA.at ?_ dzz); clear hKzz Kzz; try walk_nrm) | (refine ba_skip rfl (by rfl) ?_; try walk_nrm)))
  (refine ba_ctl rfl (fun _ => stepG_cond (t := false) rfl) ?_; simp only [if_true, if_false, Bool.false_eq_true, ↓reduceIte])
  (repeat (first | (first | refine ba_ctl rfl (fun _ => stepG_seq) ?_ | refine ba_ctl rfl (fun _ => stepG_skip) ?_ | refine ba_ctl rfl (fun _ => stepG_block) ?_ | refine ba_ctl rfl (fun _ => stepG_loop) ?_ | refine ba_ctl rfl (fun _ => stepG_inLoop) ?_ | refine ba_ctl rfl (fun _ => stepG_inBlock) ?_ | refine ba_ctl rfl (fun _ => stepG_region_end) ?_ | refine ba_ctl rfl (fun _ => stepG_ret') ?_ | (refine ba_ctl rfl (fun _ => stepG_region) ?_; simp only [List.size_toArray, List.length_cons, List.length_nil, Nat.reduceAdd, Nat.zero_add, List.range, List.range.loop])) | (refine ba_cons bod rfl (by rfl) rfl (by decide) (fun dzz Kzz hKzz => ?_); go_simp; refine hKzz _ _ (BA.at ?_ dzz); clear hKzz Kzz; try walk_nrm) | (refine ba_skip rfl (by rfl) ?_; try walk_nrm)))
  refine ba_call setOk (dldB a n ca w0 (by omega) r0) G0 dldR rfl Try.func20 (by rfl) (by rfl) rfl (by rfl) rfl (by decide) (by simp [Act.eval]) ?_
  rintro v w1 ⟨gL, cL, L, lo, sh, rfl, hL, f1, b1⟩
  try walk_nrm
  have B1 : Bel w.heap.size w w1 := b0.trans (b1.mono b0.size)
  have G1 := B1.gc hg
  (repeat (first | (first | refine ba_ctl rfl (fun _ => stepG_seq) ?_ | refine ba_ctl rfl (fun _ => stepG_skip) ?_ | refine ba_ctl rfl (fun _ => stepG_block) ?_ | refine ba_ctl rfl (fun _ => stepG_loop) ?_ | refine ba_ctl rfl (fun _ => stepG_inLoop) ?_ | refine ba_ctl rfl (fun _ => stepG_inBlock) ?_ | refine ba_ctl rfl (fun _ => stepG_region_end) ?_ | refine ba_ctl rfl (fun _ => stepG_ret') ?_ | (refine ba_ctl rfl (fun _ => stepG_region) ?_; simp only [List.size_toArray, List.length_cons, List.length_nil, Nat.reduceAdd, Nat.zero_add, List.range, List.range.loop])) | (refine ba_cons bod rfl (by rfl) rfl (by decide) (fun dzz Kzz hKzz => ?_); go_simp; refine hKzz _ _ (BA.at ?_ dzz); clear hKzz Kzz; try walk_nrm) | (refine ba_skip rfl (by rfl) ?_; try walk_nrm)))
  refine ba_call setOk (iloudB (some ⟨gL, 0, none⟩) cL L lo sh w1 f1) G1 floR rfl Try.func21 (by rfl) (by rfl) rfl (by rfl) rfl (by decide) (by simp [Act.eval]) ?_
  rintro v w2 ⟨n2, rfl, s2, b2⟩
  try walk_nrm
  have B2 : Bel w.heap.size w w2 := B1.trans (b2.mono B1.size)
  have G2 := B2.gc hg
  have f2 := (b2.fls f1).mono (Nat.le_refl _) b2.size
  (repeat (first | (first | refine ba_ctl rfl (fun _ => stepG_seq) ?_ | refine ba_ctl rfl (fun _ => stepG_skip) ?_ | refine ba_ctl rfl (fun _ => stepG_block) ?_ | refine ba_ctl rfl (fun _ => stepG_loop) ?_ | refine ba_ctl rfl (fun _ => stepG_inLoop) ?_ | refine ba_ctl rfl (fun _ => stepG_inBlock) ?_ | refine ba_ctl rfl (fun _ => stepG_region_end) ?_ | refine ba_ctl rfl (fun _ => stepG_ret') ?_ | (refine ba_ctl rfl (fun _ => stepG_region) ?_; simp only [List.size_toArray, List.length_cons, List.length_nil, Nat.reduceAdd, Nat.zero_add, List.range, List.range.loop])) | (refine ba_cons bod rfl (by rfl) rfl (by decide) (fun dzz Kzz hKzz => ?_); go_simp; refine hKzz _ _ (BA.at ?_ dzz); clear hKzz Kzz; try walk_nrm) | (refine ba_skip rfl (by rfl) ?_; try walk_nrm)))
  refine ba_call setOk (sloudB (some ⟨gL, 0, none⟩) cL L lo sh w2 f2) G2 floR rfl Try.func22 (by rfl) (by rfl) rfl (by rfl) rfl (by decide) (by simp [Act.eval]) ?_
  rintro v w3 ⟨n3, rfl, s3, b3⟩
  try walk_nrm
  have B3 : Bel w.heap.size w w3 := B2.trans (b3.mono B2.size)
  have G3 := B3.gc hg
  (repeat (first | (first | refine ba_ctl rfl (fun _ => stepG_seq) ?_ | refine ba_ctl rfl (fun _ => stepG_skip) ?_ | refine ba_ctl rfl (fun _ => stepG_block) ?_ | refine ba_ctl rfl (fun _ => stepG_loop) ?_ | refine ba_ctl rfl (fun _ => stepG_inLoop) ?_ | refine ba_ctl rfl (fun _ => stepG_inBlock) ?_ | refine ba_ctl rfl (fun _ => stepG_region_end) ?_ | refine ba_ctl rfl (fun _ => stepG_ret') ?_ | (refine ba_ctl rfl (fun _ => stepG_region) ?_; simp only [List.size_toArray, List.length_cons, List.length_nil, Nat.reduceAdd, Nat.zero_add, List.range, List.range.loop])) | (refine ba_cons bod rfl (by rfl) rfl (by decide) (fun dzz Kzz hKzz => ?_); go_simp; refine hKzz _ _ (BA.at ?_ dzz); clear hKzz Kzz; try walk_nrm) | (refine ba_skip rfl (by rfl) ?_; try walk_nrm)))
  refine ba_call setOk (likeB n2 n3 (Lk.of_sm (s2.trans s3.symm)) w3) G3 bolR rfl Try.func16 (by rfl) (by rfl) rfl (by rfl) rfl (by decide) (by simp [Act.eval]) ?_
  rintro v w4 ⟨rfl, b4⟩
  try walk_nrm
  have B4 : Bel w.heap.size w w4 := B3.trans (b4.mono B3.size)
  have G4 := B4.gc hg
  have r4 := B4.rdb hr
  (repeat (first | (first | refine ba_ctl rfl (fun _ => stepG_seq) ?_ | refine ba_ctl rfl (fun _ => stepG_skip) ?_ | refine ba_ctl rfl (fun _ => stepG_block) ?_ | refine ba_ctl rfl (fun _ => stepG_loop) ?_ | refine ba_ctl rfl (fun _ => stepG_inLoop) ?_ | refine ba_ctl rfl (fun _ => stepG_inBlock) ?_ | refine ba_ctl rfl (fun _ => stepG_region_end) ?_ | refine ba_ctl rfl (fun _ => stepG_ret') ?_ | (refine ba_ctl rfl (fun _ => stepG_region) ?_; simp only [List.size_toArray, List.length_cons, List.length_nil, Nat.reduceAdd, Nat.zero_add, List.range, List.range.loop])) | (refine ba_cons bod rfl (by rfl) rfl (by decide) (fun dzz Kzz hKzz => ?_); go_simp; refine hKzz _ _ (BA.at ?_ dzz); clear hKzz Kzz; try walk_nrm) | (refine ba_skip rfl (by rfl) ?_; try walk_nrm)))
  (refine ba_ctl rfl (fun _ => stepG_cond (t := false) rfl) ?_; simp only [if_true, if_false, Bool.false_eq_true, ↓reduceIte])
  (repeat (first | (first | refine ba_ctl rfl (fun _ => stepG_seq) ?_ | refine ba_ctl rfl (fun _ => stepG_skip) ?_ | refine ba_ctl rfl (fun _ => stepG_block) ?_ | refine ba_ctl rfl (fun _ => stepG_loop) ?_ | refine ba_ctl rfl (fun _ => stepG_inLoop) ?_ | refine ba_ctl rfl (fun _ => stepG_inBlock) ?_ | refine ba_ctl rfl (fun _ => stepG_region_end) ?_ | refine ba_ctl rfl (fun _ => stepG_ret') ?_ | (refine ba_ctl rfl (fun _ => stepG_region) ?_; simp only [List.size_toArray, List.length_cons, List.length_nil, Nat.reduceAdd, Nat.zero_add, List.range, List.range.loop])) | (refine ba_cons bod rfl (by rfl) rfl (by decide) (fun dzz Kzz hKzz => ?_); go_simp; refine hKzz _ _ (BA.at ?_ dzz); clear hKzz Kzz; try walk_nrm) | (refine ba_skip rfl (by rfl) ?_; try walk_nrm)))
  refine ba_call setOk (pickB a n ca 1000 w4 (by omega) (by omega) r4) G4 pikR rfl Try.func23 (by rfl) (by rfl) rfl (by rfl) rfl (by decide) (by simp [Act.eval]) ?_
  rintro v w5 ⟨j, rfl, j0, j1, b5⟩
  try walk_nrm
  have B5 : Bel w.heap.size w w5 := B4.trans (b5.mono B4.size)
  have G5 := B5.gc hg
  have ej : IntKind.i64.wrap (1 + j) = 1 + j := by rw [IntKind.wrap_i64]; omega
  (refine ba_cons bod rfl (by rfl) rfl (by decide) (fun dzz Kzz hKzz => ?_); go_simp; refine hKzz _ _ (BA.at ?_ dzz); clear hKzz Kzz; try walk_nrm)
  (refine ba_cons bod rfl (by rfl) rfl (by decide) (fun dzz Kzz hKzz => ?_); go_simp; refine hKzz _ _ (BA.at ?_ dzz); clear hKzz Kzz; try walk_nrm)
  (refine ba_cons bod rfl (by rfl) rfl (by decide) (fun dzz Kzz hKzz => ?_); go_simp; refine hKzz _ _ (BA.at ?_ dzz); clear hKzz Kzz; try walk_nrm)
  refine ba_ctl rfl (fun _ => stepG_region_end) ?_
  exact lawLoud2 _ _ (xf_of _ (xc_at j j0 j1)) w w5 hg B5 _ _ _ _ _ _ _ _ _ _ _ _ _ _ _ _ _ _ _ _ _ _ _ _ _ _ _ _ _ _ _ _ _ _ _ _ _ _ _ _ _ _ _ _ _ _ _ _ _ _ _ _ _ _ _ _ _ _ _ _ _ _ _ _ _ _ _ _ _ _ _ _ _ _ _ _ _ _ _ _ _
end Go.Proofs.Ytdemcjppokhonaa
