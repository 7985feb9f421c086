/-
  The second half of the law of FnExactSquares, beside leavers.
-/
import Derived.Test.YtebfpoengddncaaLa
set_option linter.unusedVariables false
set_option linter.unusedSimpArgs false
namespace Go.Proofs.Ytebfpoengddncaa
open Go Go.Conc Go.RowKit

def PostL (W : World) (v : Value) (w' : World) : Prop := v = .bool true ∧ Bel W.heap.size W w'
def sd : Nat → Code → Code
  | 0, c => c
  | k + 1, .seq _ r => sd k r
  | _, c => c
noncomputable def rest3 : Code := sd 7 (Try.f3.body.getD .skip)

set_option maxHeartbeats 6400000 in
set_option maxRecDepth 100000 in
theorem lawSq2 (a : Option Addr) (ca : Nat) (l : List Nat) (n : Int) (w : World) (hg : GC Try.prog w) (hl : l.length ≤ 1048576) (ha : Fls false 0 w.heap.size w a l) (w2 w3 w7 : World) (gS cS gX gG cG : Nat) (LS LG : List Nat)
    (B2 : Bel w.heap.size w w2) (hgX : w2.heap.size ≤ gX) (kS : gS < w2.heap.size) (b3 : Bel w2.heap.size w2 w3) (B3 : Bel w.heap.size w w3) (kX : gX < w3.heap.size) (hgG : w3.heap.size ≤ gG)
    (lS : Ls (sqB l n.toNat) (sqN l n) LS) (lG : Ls (sqB l n.toNat) (sqN l n) LG) (hLG : LG.length ≤ 4096) (hLS : LS.length ≤ 4096) (sm : SmL LG LS)
    (B7 : Bel w.heap.size w w7) (oS7 : w7.ownsRow 0 30 1 (.slice (some ⟨gS, 0, none⟩) LS.length cS) LS.length (LS.map fl)) (oX7 : w7.ownsRow 0 30 1 (.slice (some ⟨gX, 0, none⟩) l.length l.length) l.length (l.map fl)) (oG7 : w7.ownsRow 0 30 1 (.slice (some ⟨gG, 0, none⟩) LG.length cG) LG.length (LG.map fl))
    (v2 v3 v4 v8 v9 v10 v11 v12 v13 v14 v15 v16 v17 v18 v19 v20 v21 v22 v23 v24 v25 v26 v27 v28 v29 v30 v31 v32 v33 v34 v35 v36 v37 v38 v39 v40 v41 v42 v43 v44 v45 v46 v47 v48 v49 v50 v51 v52 v53 v54 v55 v56 v57 v58 v59 v60 v61 v62 v63 v64 v65 v66 v67 v68 v69 v70 : Value) :
    BA Try.prog (AtEnd0 Try.prog (PostL w)) (G ((base 3).at ⟨#[.slice a l.length ca, .int .i64 n, v2, v3, v4, .slice (some ⟨gS, 0, none⟩) LS.length cS, .slice (some ⟨gX, 0, none⟩) l.length l.length, .slice (some ⟨gG, 0, none⟩) LG.length cG, v8, v9, v10, v11, v12, v13, v14, v15, v16, v17, v18, v19, v20, v21, v22, v23, v24, v25, v26, v27, v28, v29, v30, v31, v32, v33, v34, v35, v36, v37, v38, v39, v40, v41, v42, v43, v44, v45, v46, v47, v48, v49, v50, v51, v52, v53, v54, v55, v56, v57, v58, v59, v60, v61, v62, v63, v64, v65, v66, v67, v68, v69, v70], []⟩ [.code rest3]) []) w7 := by
  have G7 := B7.gc hg
  simp only [rest3, sd, Try.f3, Option.getD_some]
  have nX : w.heap.size ≤ gX := Nat.le_trans B2.size hgX
  have nSX : gS ≠ gX := by omega
  have nGX : gG ≠ gX := by omega
  have nSG : gS ≠ gG := by have := b3.size; omega
  have nG : w.heap.size ≤ gG := Nat.le_trans B3.size hgG
  obtain ⟨K1, hK1⟩ : ∃ K : Int, (1 : Int) + (l.length : Int) = K := ⟨_, rfl⟩
  obtain ⟨K2, hK2⟩ : ∃ K : Int, (1 : Int) + (LG.length : Int) = K := ⟨_, rfl⟩
  have hk0 : decide (K1 < 0) = false := decide_eq_false (by omega)
  have hk1 : ¬ (K1 < 0) := by omega
  have hq0 : decide (K2 < 0) = false := decide_eq_false (by omega)
  have hq1 : ¬ (K2 < 0) := by omega
  have h1 := hide hK1
  have h2 := hide hK2
  clear hK1 hK2
  (repeat (first | (first | refine ba_ctl rfl (fun _ => stepG_seq) ?_ | refine ba_ctl rfl (fun _ => stepG_skip) ?_ | refine ba_ctl rfl (fun _ => stepG_block) ?_ | refine ba_ctl rfl (fun _ => stepG_loop) ?_ | refine ba_ctl rfl (fun _ => stepG_inLoop) ?_ | refine ba_ctl rfl (fun _ => stepG_inBlock) ?_ | refine ba_ctl rfl (fun _ => stepG_region_end) ?_ | refine ba_ctl rfl (fun _ => stepG_ret') ?_ | (refine ba_ctl rfl (fun _ => stepG_region) ?_; simp only [List.size_toArray, List.length_cons, List.length_nil, Nat.reduceAdd, Nat.zero_add, List.range, List.range.loop])) | (refine ba_cons bod rfl (by rfl) rfl (by decide) (fun dzz Kzz hKzz => ?_); go_simp; refine hKzz _ _ (BA.at ?_ dzz); clear hKzz Kzz; try walk_nrm) | (refine ba_skip rfl (by rfl) ?_; try walk_nrm)))
  -- its argument is marked, the answer stays
  refine ba_call setOk (mkB 0 gX l.length l.length (l.map fl) w7 (by omega) oX7) G7 mkR rfl Try.func8 (by rfl) (by rfl) rfl (by rfl) rfl (by decide) (by simp [Act.eval]) ?_
  rintro v w8 ⟨rfl, _, k8⟩
  rw [unhide h1]
  try walk_nrm
  have B8 : Bel w.heap.size w w8 := B7.trans (k8.bel nX B7.size)
  have G8 := B8.gc hg
  have oS8 := k8.own nSX oS7
  have oG8 := k8.own nGX oG7
  clear oS7 oX7 oG7
  (repeat (first | (first | refine ba_ctl rfl (fun _ => stepG_seq) ?_ | refine ba_ctl rfl (fun _ => stepG_skip) ?_ | refine ba_ctl rfl (fun _ => stepG_block) ?_ | refine ba_ctl rfl (fun _ => stepG_loop) ?_ | refine ba_ctl rfl (fun _ => stepG_inLoop) ?_ | refine ba_ctl rfl (fun _ => stepG_inBlock) ?_ | refine ba_ctl rfl (fun _ => stepG_region_end) ?_ | refine ba_ctl rfl (fun _ => stepG_ret') ?_ | (refine ba_ctl rfl (fun _ => stepG_region) ?_; simp only [List.size_toArray, List.length_cons, List.length_nil, Nat.reduceAdd, Nat.zero_add, List.range, List.range.loop])) | (refine ba_cons bod rfl (by rfl) rfl (by decide) (fun dzz Kzz hKzz => ?_); go_simp; refine hKzz _ _ (BA.at ?_ dzz); clear hKzz Kzz; try walk_nrm) | (refine ba_skip rfl (by rfl) ?_; try walk_nrm)))
  refine ba_call setOk (eqB (some ⟨gG, 0, none⟩) (some ⟨gS, 0, none⟩) cG cS LG LS w8 (by omega) sm (row_fls oG8) (row_fls oS8)) G8 eqR rfl Try.func7 (by rfl) (by rfl) rfl (by rfl) rfl (by decide) (by simp [Act.eval]) ?_
  rintro v w9 ⟨rfl, b9⟩
  try walk_nrm
  have B9 : Bel w.heap.size w w9 := B8.trans (b9.mono B8.size)
  have G9 := B9.gc hg
  have oS9 := b9.own oS8
  have oG9 := b9.own oG8
  clear oS8 oG8
  (repeat (first | (first | refine ba_ctl rfl (fun _ => stepG_seq) ?_ | refine ba_ctl rfl (fun _ => stepG_skip) ?_ | refine ba_ctl rfl (fun _ => stepG_block) ?_ | refine ba_ctl rfl (fun _ => stepG_loop) ?_ | refine ba_ctl rfl (fun _ => stepG_inLoop) ?_ | refine ba_ctl rfl (fun _ => stepG_inBlock) ?_ | refine ba_ctl rfl (fun _ => stepG_region_end) ?_ | refine ba_ctl rfl (fun _ => stepG_ret') ?_ | (refine ba_ctl rfl (fun _ => stepG_region) ?_; simp only [List.size_toArray, List.length_cons, List.length_nil, Nat.reduceAdd, Nat.zero_add, List.range, List.range.loop])) | (refine ba_cons bod rfl (by rfl) rfl (by decide) (fun dzz Kzz hKzz => ?_); go_simp; refine hKzz _ _ (BA.at ?_ dzz); clear hKzz Kzz; try walk_nrm) | (refine ba_skip rfl (by rfl) ?_; try walk_nrm)))
  (refine ba_ctl rfl (fun _ => stepG_cond (t := false) rfl) ?_; simp only [if_true, if_false, Bool.false_eq_true, ↓reduceIte])
  (repeat (first | (first | refine ba_ctl rfl (fun _ => stepG_seq) ?_ | refine ba_ctl rfl (fun _ => stepG_skip) ?_ | refine ba_ctl rfl (fun _ => stepG_block) ?_ | refine ba_ctl rfl (fun _ => stepG_loop) ?_ | refine ba_ctl rfl (fun _ => stepG_inLoop) ?_ | refine ba_ctl rfl (fun _ => stepG_inBlock) ?_ | refine ba_ctl rfl (fun _ => stepG_region_end) ?_ | refine ba_ctl rfl (fun _ => stepG_ret') ?_ | (refine ba_ctl rfl (fun _ => stepG_region) ?_; simp only [List.size_toArray, List.length_cons, List.length_nil, Nat.reduceAdd, Nat.zero_add, List.range, List.range.loop])) | (refine ba_cons bod rfl (by rfl) rfl (by decide) (fun dzz Kzz hKzz => ?_); go_simp; refine hKzz _ _ (BA.at ?_ dzz); clear hKzz Kzz; try walk_nrm) | (refine ba_skip rfl (by rfl) ?_; try walk_nrm)))
  -- the answer is marked and held
  refine ba_call setOk (mkB 0 gG LG.length cG (LG.map fl) w9 (by omega) oG9) G9 mkR rfl Try.func8 (by rfl) (by rfl) rfl (by rfl) rfl (by decide) (by simp [Act.eval]) ?_
  rintro v w10 ⟨rfl, ⟨ys, oY, mY⟩, k10⟩
  rw [unhide h2]
  try walk_nrm
  have B10 : Bel w.heap.size w w10 := B9.trans (k10.bel nG B9.size)
  have G10 := B10.gc hg
  have oS10 := k10.own nSG oS9
  clear oS9 oG9
  (repeat (first | (first | refine ba_ctl rfl (fun _ => stepG_seq) ?_ | refine ba_ctl rfl (fun _ => stepG_skip) ?_ | refine ba_ctl rfl (fun _ => stepG_block) ?_ | refine ba_ctl rfl (fun _ => stepG_loop) ?_ | refine ba_ctl rfl (fun _ => stepG_inLoop) ?_ | refine ba_ctl rfl (fun _ => stepG_inBlock) ?_ | refine ba_ctl rfl (fun _ => stepG_region_end) ?_ | refine ba_ctl rfl (fun _ => stepG_ret') ?_ | (refine ba_ctl rfl (fun _ => stepG_region) ?_; simp only [List.size_toArray, List.length_cons, List.length_nil, Nat.reduceAdd, Nat.zero_add, List.range, List.range.loop])) | (refine ba_cons bod rfl (by rfl) rfl (by decide) (fun dzz Kzz hKzz => ?_); go_simp; refine hKzz _ _ (BA.at ?_ dzz); clear hKzz Kzz; try walk_nrm) | (refine ba_skip rfl (by rfl) ?_; try walk_nrm)))
  refine ba_call setOk (hdB gG LG.length cG ys w10 (by omega) oY mY) G10 hdR rfl Try.func9 (by rfl) (by rfl) rfl (by rfl) rfl (by decide) (by simp [Act.eval]) ?_
  rintro v w11 ⟨rfl, b11⟩
  rw [unhide h2]
  try walk_nrm
  have B11 : Bel w.heap.size w w11 := B10.trans (b11.mono B10.size)
  have G11 := B11.gc hg
  have a11 := (B11.fls ha).mono (Nat.le_refl _) B11.size
  have oS11 := b11.own oS10
  have oY11 := b11.own oY
  clear oS10 oY
  (repeat (first | (first | refine ba_ctl rfl (fun _ => stepG_seq) ?_ | refine ba_ctl rfl (fun _ => stepG_skip) ?_ | refine ba_ctl rfl (fun _ => stepG_block) ?_ | refine ba_ctl rfl (fun _ => stepG_loop) ?_ | refine ba_ctl rfl (fun _ => stepG_inLoop) ?_ | refine ba_ctl rfl (fun _ => stepG_inBlock) ?_ | refine ba_ctl rfl (fun _ => stepG_region_end) ?_ | refine ba_ctl rfl (fun _ => stepG_ret') ?_ | (refine ba_ctl rfl (fun _ => stepG_region) ?_; simp only [List.size_toArray, List.length_cons, List.length_nil, Nat.reduceAdd, Nat.zero_add, List.range, List.range.loop])) | (refine ba_cons bod rfl (by rfl) rfl (by decide) (fun dzz Kzz hKzz => ?_); go_simp; refine hKzz _ _ (BA.at ?_ dzz); clear hKzz Kzz; try walk_nrm) | (refine ba_skip rfl (by rfl) ?_; try walk_nrm)))
  (refine ba_ctl rfl (fun _ => stepG_cond (t := false) rfl) ?_; simp only [if_true, if_false, Bool.false_eq_true, ↓reduceIte])
  (repeat (first | (first | refine ba_ctl rfl (fun _ => stepG_seq) ?_ | refine ba_ctl rfl (fun _ => stepG_skip) ?_ | refine ba_ctl rfl (fun _ => stepG_block) ?_ | refine ba_ctl rfl (fun _ => stepG_loop) ?_ | refine ba_ctl rfl (fun _ => stepG_inLoop) ?_ | refine ba_ctl rfl (fun _ => stepG_inBlock) ?_ | refine ba_ctl rfl (fun _ => stepG_region_end) ?_ | refine ba_ctl rfl (fun _ => stepG_ret') ?_ | (refine ba_ctl rfl (fun _ => stepG_region) ?_; simp only [List.size_toArray, List.length_cons, List.length_nil, Nat.reduceAdd, Nat.zero_add, List.range, List.range.loop])) | (refine ba_cons bod rfl (by rfl) rfl (by decide) (fun dzz Kzz hKzz => ?_); go_simp; refine hKzz _ _ (BA.at ?_ dzz); clear hKzz Kzz; try walk_nrm) | (refine ba_skip rfl (by rfl) ?_; try walk_nrm)))
  (refine ba_ctl rfl (fun _ => stepG_cond (t := false) rfl) ?_; simp only [if_true, if_false, Bool.false_eq_true, ↓reduceIte])
  (repeat (first | (first | refine ba_ctl rfl (fun _ => stepG_seq) ?_ | refine ba_ctl rfl (fun _ => stepG_skip) ?_ | refine ba_ctl rfl (fun _ => stepG_block) ?_ | refine ba_ctl rfl (fun _ => stepG_loop) ?_ | refine ba_ctl rfl (fun _ => stepG_inLoop) ?_ | refine ba_ctl rfl (fun _ => stepG_inBlock) ?_ | refine ba_ctl rfl (fun _ => stepG_region_end) ?_ | refine ba_ctl rfl (fun _ => stepG_ret') ?_ | (refine ba_ctl rfl (fun _ => stepG_region) ?_; simp only [List.size_toArray, List.length_cons, List.length_nil, Nat.reduceAdd, Nat.zero_add, List.range, List.range.loop])) | (refine ba_cons bod rfl (by rfl) rfl (by decide) (fun dzz Kzz hKzz => ?_); go_simp; refine hKzz _ _ (BA.at ?_ dzz); clear hKzz Kzz; try walk_nrm) | (refine ba_skip rfl (by rfl) ?_; try walk_nrm)))
  -- another call
  refine ba_call setOk (tofB a ca l w11 hl a11) G11 tofR rfl Try.func5 (by rfl) (by rfl) rfl (by rfl) rfl (by decide) (by simp [Act.eval]) ?_
  rintro v w12 ⟨gZ, rfl, hgZ, oZ, b12⟩
  try walk_nrm
  have B12 : Bel w.heap.size w w12 := B11.trans (b12.mono B11.size)
  have G12 := B12.gc hg
  have oS12 := b12.own oS11
  have oY12 := b12.own oY11
  clear oS11 oY11 a11
  (repeat (first | (first | refine ba_ctl rfl (fun _ => stepG_seq) ?_ | refine ba_ctl rfl (fun _ => stepG_skip) ?_ | refine ba_ctl rfl (fun _ => stepG_block) ?_ | refine ba_ctl rfl (fun _ => stepG_loop) ?_ | refine ba_ctl rfl (fun _ => stepG_inLoop) ?_ | refine ba_ctl rfl (fun _ => stepG_inBlock) ?_ | refine ba_ctl rfl (fun _ => stepG_region_end) ?_ | refine ba_ctl rfl (fun _ => stepG_ret') ?_ | (refine ba_ctl rfl (fun _ => stepG_region) ?_; simp only [List.size_toArray, List.length_cons, List.length_nil, Nat.reduceAdd, Nat.zero_add, List.range, List.range.loop])) | (refine ba_cons bod rfl (by rfl) rfl (by decide) (fun dzz Kzz hKzz => ?_); go_simp; refine hKzz _ _ (BA.at ?_ dzz); clear hKzz Kzz; try walk_nrm) | (refine ba_skip rfl (by rfl) ?_; try walk_nrm)))
  refine ba_callB (isq_B (some ⟨gZ, 0, none⟩) l.length l n w12 G12 (row_fls oZ)) Try.func6 (by rfl) (by rfl) rfl (by rfl) rfl (by decide) (by simp [Act.eval]) ?_
  rintro v w13 ⟨gR, cR, LR, rfl, hgR, oR, lR, b13⟩
  try walk_nrm
  have B13 : Bel w.heap.size w w13 := B12.trans (b13.mono B12.size)
  have G13 := B13.gc hg
  have oS13 := b13.own oS12
  have oY13 := b13.own oY12
  have hLR : LR.length ≤ 4096 := by rw [lR.1]; exact sqN_le l n
  have sm2 : SmL LR LS := lR.sm lS
  clear oS12 oY12 oZ
  (repeat (first | (first | refine ba_ctl rfl (fun _ => stepG_seq) ?_ | refine ba_ctl rfl (fun _ => stepG_skip) ?_ | refine ba_ctl rfl (fun _ => stepG_block) ?_ | refine ba_ctl rfl (fun _ => stepG_loop) ?_ | refine ba_ctl rfl (fun _ => stepG_inLoop) ?_ | refine ba_ctl rfl (fun _ => stepG_inBlock) ?_ | refine ba_ctl rfl (fun _ => stepG_region_end) ?_ | refine ba_ctl rfl (fun _ => stepG_ret') ?_ | (refine ba_ctl rfl (fun _ => stepG_region) ?_; simp only [List.size_toArray, List.length_cons, List.length_nil, Nat.reduceAdd, Nat.zero_add, List.range, List.range.loop])) | (refine ba_cons bod rfl (by rfl) rfl (by decide) (fun dzz Kzz hKzz => ?_); go_simp; refine hKzz _ _ (BA.at ?_ dzz); clear hKzz Kzz; try walk_nrm) | (refine ba_skip rfl (by rfl) ?_; try walk_nrm)))
  refine ba_call setOk (eqB (some ⟨gR, 0, none⟩) (some ⟨gS, 0, none⟩) cR cS LR LS w13 (by omega) sm2 (row_fls oR) (row_fls oS13)) G13 eqR rfl Try.func7 (by rfl) (by rfl) rfl (by rfl) rfl (by decide) (by simp [Act.eval]) ?_
  rintro v w14 ⟨rfl, b14⟩
  try walk_nrm
  have B14 : Bel w.heap.size w w14 := B13.trans (b14.mono B13.size)
  have G14 := B14.gc hg
  have oY14 := b14.own oY13
  clear oS13 oY13 oR
  (repeat (first | (first | refine ba_ctl rfl (fun _ => stepG_seq) ?_ | refine ba_ctl rfl (fun _ => stepG_skip) ?_ | refine ba_ctl rfl (fun _ => stepG_block) ?_ | refine ba_ctl rfl (fun _ => stepG_loop) ?_ | refine ba_ctl rfl (fun _ => stepG_inLoop) ?_ | refine ba_ctl rfl (fun _ => stepG_inBlock) ?_ | refine ba_ctl rfl (fun _ => stepG_region_end) ?_ | refine ba_ctl rfl (fun _ => stepG_ret') ?_ | (refine ba_ctl rfl (fun _ => stepG_region) ?_; simp only [List.size_toArray, List.length_cons, List.length_nil, Nat.reduceAdd, Nat.zero_add, List.range, List.range.loop])) | (refine ba_cons bod rfl (by rfl) rfl (by decide) (fun dzz Kzz hKzz => ?_); go_simp; refine hKzz _ _ (BA.at ?_ dzz); clear hKzz Kzz; try walk_nrm) | (refine ba_skip rfl (by rfl) ?_; try walk_nrm)))
  (refine ba_ctl rfl (fun _ => stepG_cond (t := false) rfl) ?_; simp only [if_true, if_false, Bool.false_eq_true, ↓reduceIte])
  (repeat (first | (first | refine ba_ctl rfl (fun _ => stepG_seq) ?_ | refine ba_ctl rfl (fun _ => stepG_skip) ?_ | refine ba_ctl rfl (fun _ => stepG_block) ?_ | refine ba_ctl rfl (fun _ => stepG_loop) ?_ | refine ba_ctl rfl (fun _ => stepG_inLoop) ?_ | refine ba_ctl rfl (fun _ => stepG_inBlock) ?_ | refine ba_ctl rfl (fun _ => stepG_region_end) ?_ | refine ba_ctl rfl (fun _ => stepG_ret') ?_ | (refine ba_ctl rfl (fun _ => stepG_region) ?_; simp only [List.size_toArray, List.length_cons, List.length_nil, Nat.reduceAdd, Nat.zero_add, List.range, List.range.loop])) | (refine ba_cons bod rfl (by rfl) rfl (by decide) (fun dzz Kzz hKzz => ?_); go_simp; refine hKzz _ _ (BA.at ?_ dzz); clear hKzz Kzz; try walk_nrm) | (refine ba_skip rfl (by rfl) ?_; try walk_nrm)))
  refine ba_call setOk (hdB gG LG.length cG ys w14 (by omega) oY14 mY) G14 hdR rfl Try.func9 (by rfl) (by rfl) rfl (by rfl) rfl (by decide) (by simp [Act.eval]) ?_
  rintro v w15 ⟨rfl, b15⟩
  rw [unhide h2]
  try walk_nrm
  have B15 : Bel w.heap.size w w15 := B14.trans (b15.mono B14.size)
  (repeat (first | (first | refine ba_ctl rfl (fun _ => stepG_seq) ?_ | refine ba_ctl rfl (fun _ => stepG_skip) ?_ | refine ba_ctl rfl (fun _ => stepG_block) ?_ | refine ba_ctl rfl (fun _ => stepG_loop) ?_ | refine ba_ctl rfl (fun _ => stepG_inLoop) ?_ | refine ba_ctl rfl (fun _ => stepG_inBlock) ?_ | refine ba_ctl rfl (fun _ => stepG_region_end) ?_ | refine ba_ctl rfl (fun _ => stepG_ret') ?_ | (refine ba_ctl rfl (fun _ => stepG_region) ?_; simp only [List.size_toArray, List.length_cons, List.length_nil, Nat.reduceAdd, Nat.zero_add, List.range, List.range.loop])) | (refine ba_cons bod rfl (by rfl) rfl (by decide) (fun dzz Kzz hKzz => ?_); go_simp; refine hKzz _ _ (BA.at ?_ dzz); clear hKzz Kzz; try walk_nrm) | (refine ba_skip rfl (by rfl) ?_; try walk_nrm)))
  (refine ba_ctl rfl (fun _ => stepG_cond (t := false) rfl) ?_; simp only [if_true, if_false, Bool.false_eq_true, ↓reduceIte])
  (repeat (first | (first | refine ba_ctl rfl (fun _ => stepG_seq) ?_ | refine ba_ctl rfl (fun _ => stepG_skip) ?_ | refine ba_ctl rfl (fun _ => stepG_block) ?_ | refine ba_ctl rfl (fun _ => stepG_loop) ?_ | refine ba_ctl rfl (fun _ => stepG_inLoop) ?_ | refine ba_ctl rfl (fun _ => stepG_inBlock) ?_ | refine ba_ctl rfl (fun _ => stepG_region_end) ?_ | refine ba_ctl rfl (fun _ => stepG_ret') ?_ | (refine ba_ctl rfl (fun _ => stepG_region) ?_; simp only [List.size_toArray, List.length_cons, List.length_nil, Nat.reduceAdd, Nat.zero_add, List.range, List.range.loop])) | (refine ba_cons bod rfl (by rfl) rfl (by decide) (fun dzz Kzz hKzz => ?_); go_simp; refine hKzz _ _ (BA.at ?_ dzz); clear hKzz Kzz; try walk_nrm) | (refine ba_skip rfl (by rfl) ?_; try walk_nrm)))
  (refine ba_ctl rfl (fun _ => stepG_cond (t := false) rfl) ?_; simp only [if_true, if_false, Bool.false_eq_true, ↓reduceIte])
  (repeat (first | (first | refine ba_ctl rfl (fun _ => stepG_seq) ?_ | refine ba_ctl rfl (fun _ => stepG_skip) ?_ | refine ba_ctl rfl (fun _ => stepG_block) ?_ | refine ba_ctl rfl (fun _ => stepG_loop) ?_ | refine ba_ctl rfl (fun _ => stepG_inLoop) ?_ | refine ba_ctl rfl (fun _ => stepG_inBlock) ?_ | refine ba_ctl rfl (fun _ => stepG_region_end) ?_ | refine ba_ctl rfl (fun _ => stepG_ret') ?_ | (refine ba_ctl rfl (fun _ => stepG_region) ?_; simp only [List.size_toArray, List.length_cons, List.length_nil, Nat.reduceAdd, Nat.zero_add, List.range, List.range.loop])) | (refine ba_cons bod rfl (by rfl) rfl (by decide) (fun dzz Kzz hKzz => ?_); go_simp; refine hKzz _ _ (BA.at ?_ dzz); clear hKzz Kzz; try walk_nrm) | (refine ba_skip rfl (by rfl) ?_; try walk_nrm)))
  exact ba_end (t := 4) Try.func3 (by rfl) (by kernel_rfl) rfl fun d => ⟨rfl, ⟨B15.os, B15.output, B15.size, B15.block⟩⟩
end Go.Proofs.Ytebfpoengddncaa
