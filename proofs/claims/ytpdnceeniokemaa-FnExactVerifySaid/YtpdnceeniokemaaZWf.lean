/-
  impl.Verify beside leavers: the law of FnExactVerify, its first piece.
-/
import Derived.Test.YtpdnceeniokemaaZVe
set_option linter.unusedVariables false
set_option linter.unusedSimpArgs false
namespace Go.Proofs.Ytpdnceeniokemaa
open Go Go.Conc Go.RowKit
open Go.Proofs.Ytpdnceeniokemaa.Bb (Tks TO TW tot)
open Go.Proofs.Ytpdnceeniokemaa.Wk (El BodiesV Bel dig_B valsE)
open Go.Proofs.Ytpdnceeniokemaa.Br (BT BTS Hd Pz Pst CallsB bt_ctl bt_cons bt_skip bt_callB bt_call rt AtEnd0)
set_option maxRecDepth 100000 in
set_option maxHeartbeats 8000000 in
theorem lawVfA [Br.Thr] (e b d : Option Addr) (ce cb cd : Nat) (l : List Kl) (ns : List ByteArray) (ts : List (List Int)) (w : World) (hg : Br.GC Try.prog w) (hTh : Br.Thr.N ≤ w.heap.size) (hml : l.length ≤ maxLen) (hzl : ∀ x ∈ l, x.1.size ≤ maxLen) (hl : Kls w e l) (hm : ns.length ≤ maxLen) (hz : ∀ n ∈ ns, n.size ≤ maxLen) (hs : Sts w b ns) (hm2 : ts.length ≤ maxLen) (hb : Tks w d ts) (hy : ∀ t ∈ ts, Byt t) (rest : Code)
    (hk : ∀ (pS gS cS pA gA pX gX lo hi gY pG gG cG : Nat) (L : List Int) (v3 v4 v5 v6 v7 v13 v14 v15 v16 v17 v18 v19 v20 v21 v22 v23 v24 v25 v26 v27 v28 v29 v30 v31 v32 v33 v34 v35 v36 v37 v38 v39 v40 v41 v42 v43 v44 v45 v46 v47 v48 v49 v50 v51 v52 v53 v54 v55 v56 v57 v58 v59 v60 v61 v62 v63 v64 v65 v66 v67 v68 v69 v70 v71 v72 v73 v74 v75 v76 v77 v78 v79 v80 v81 v82 v83 v84 v85 v86 v87 v88 v89 v90 v91 v92 v93 v94 v95 v96 v97 v98 v99 v100 v101 v102 v103 v104 v105 v106 v107 v108 v109 v110 v111 v112 v113 v114 : Value) (u' : World), l.length ≤ 1048576 → ns.length ≤ 1048576 → ts.length + tot ts ≤ 1048576 → vfy l ns ts = L → L.length ≤ 1048576 → Pv1 w u' pS gS cS pA gA pX gX lo hi gY pG gG cG l ns ts L → BT Try.prog (AtEnd0 Try.prog (PostL w)) (G ((base 7).at ⟨#[.slice e l.length ce, .slice b ns.length cb, .slice d ts.length cd, v3, v4, v5, v6, v7, .slice (some ⟨gS, 0, none⟩) L.length cS, .slice (some ⟨gA, 0, none⟩) l.length l.length, .slice (some ⟨gX, 0, none⟩) ns.length ns.length, .slice (some ⟨gY, 0, none⟩) ts.length ts.length, .slice (some ⟨gG, 0, none⟩) L.length cG, v13, v14, v15, v16, v17, v18, v19, v20, v21, v22, v23, v24, v25, v26, v27, v28, v29, v30, v31, v32, v33, v34, v35, v36, v37, v38, v39, v40, v41, v42, v43, v44, v45, v46, v47, v48, v49, v50, v51, v52, v53, v54, v55, v56, v57, v58, v59, v60, v61, v62, v63, v64, v65, v66, v67, v68, v69, v70, v71, v72, v73, v74, v75, v76, v77, v78, v79, v80, v81, v82, v83, v84, v85, v86, v87, v88, v89, v90, v91, v92, v93, v94, v95, v96, v97, v98, v99, v100, v101, v102, v103, v104, v105, v106, v107, v108, v109, v110, v111, v112, v113, v114], []⟩ [.code rest]) []) u') :
    BT Try.prog (AtEnd0 Try.prog (PostL w)) (G ((base 7).at ⟨#[.slice e l.length ce, .slice b ns.length cb, .slice d ts.length cd, undef, undef, undef, undef, undef, undef, undef, undef, undef, undef, undef, undef, undef, undef, undef, undef, undef, undef, undef, undef, undef, undef, undef, undef, undef, undef, undef, undef, undef, undef, undef, undef, undef, undef, undef, undef, undef, undef, undef, undef, undef, undef, undef, undef, undef, undef, undef, undef, undef, undef, undef, undef, undef, undef, undef, undef, undef, undef, undef, undef, undef, undef, undef, undef, undef, undef, undef, undef, undef, undef, undef, undef, undef, undef, undef, undef, undef, undef, undef, undef, undef, undef, undef, undef, undef, undef, undef, undef, undef, undef, undef, undef, undef, undef, undef, undef, undef, undef, undef, undef, undef, undef, undef, undef, undef, undef, undef, undef, undef, undef, undef, undef], []⟩ [.code (.seq (st 0 (Try.f7.body.getD .skip)) (.seq (st 1 (Try.f7.body.getD .skip)) (.seq (st 2 (Try.f7.body.getD .skip)) (.seq (st 3 (Try.f7.body.getD .skip)) (.seq (st 4 (Try.f7.body.getD .skip)) (.seq (st 5 (Try.f7.body.getD .skip)) (.seq (st 6 (Try.f7.body.getD .skip)) (.seq (st 7 (Try.f7.body.getD .skip)) (.seq (st 8 (Try.f7.body.getD .skip)) (.seq (st 9 (Try.f7.body.getD .skip)) (.seq (st 10 (Try.f7.body.getD .skip)) (.seq (st 11 (Try.f7.body.getD .skip)) (.seq (st 12 (Try.f7.body.getD .skip)) rest)))))))))))))]) []) w := by
  simp only [st, Try.f7, Option.getD_some]
  (repeat (first | (first | refine bt_ctl rfl (fun _ => stepG_seq) ?_ | refine bt_ctl rfl (fun _ => stepG_skip) ?_ | refine bt_ctl rfl (fun _ => stepG_region_end) ?_ | refine bt_ctl rfl (fun _ => stepG_ret') ?_ | (refine bt_ctl rfl (fun _ => stepG_region) ?_; simp only [List.size_toArray, List.length_cons, List.length_nil, Nat.reduceAdd, Nat.zero_add, List.range, List.range.loop])) | (refine bt_cons zgOk.bodied rfl (by rfl) (by decide) (by decide) (fun dzz Kzz hKzz => ?_); go_simp; refine hKzz _ _ (fun b hb => hb) (bt_at ?_); clear hKzz Kzz; try walk_nrm) | (refine bt_skip rfl (by rfl) ?_; try walk_nrm)))
  refine bt_call zgOk (szk_R w e ce l hml hl hzl 1048576 (by omega) (by omega)) hg R21.i R21.e rfl (fun s hs => by cases hs) Try.func21 (by kernel_rfl) (by kernel_rfl) rfl (by rfl) rfl (by decide) (by simp [Act.eval]) ?_
  rintro v w1 ⟨r, rfl, hr, B1⟩
  try walk_nrm
  rcases hr with rfl | ⟨r0, r1, l1, zl1⟩
  · (repeat (first | (first | refine bt_ctl rfl (fun _ => stepG_seq) ?_ | refine bt_ctl rfl (fun _ => stepG_skip) ?_ | refine bt_ctl rfl (fun _ => stepG_region_end) ?_ | refine bt_ctl rfl (fun _ => stepG_ret') ?_ | (refine bt_ctl rfl (fun _ => stepG_region) ?_; simp only [List.size_toArray, List.length_cons, List.length_nil, Nat.reduceAdd, Nat.zero_add, List.range, List.range.loop])) | (refine bt_cons zgOk.bodied rfl (by rfl) (by decide) (by decide) (fun dzz Kzz hKzz => ?_); go_simp; refine hKzz _ _ (fun b hb => hb) (bt_at ?_); clear hKzz Kzz; try walk_nrm) | (refine bt_skip rfl (by rfl) ?_; try walk_nrm)))
    (refine bt_ctl rfl (fun _ => stepG_cond (t := true) rfl) ?_; simp only [if_true, if_false, Bool.false_eq_true, ↓reduceIte])
    (repeat (first | (first | refine bt_ctl rfl (fun _ => stepG_seq) ?_ | refine bt_ctl rfl (fun _ => stepG_skip) ?_ | refine bt_ctl rfl (fun _ => stepG_region_end) ?_ | refine bt_ctl rfl (fun _ => stepG_ret') ?_ | (refine bt_ctl rfl (fun _ => stepG_region) ?_; simp only [List.size_toArray, List.length_cons, List.length_nil, Nat.reduceAdd, Nat.zero_add, List.range, List.range.loop])) | (refine bt_cons zgOk.bodied rfl (by rfl) (by decide) (by decide) (fun dzz Kzz hKzz => ?_); go_simp; refine hKzz _ _ (fun b hb => hb) (bt_at ?_); clear hKzz Kzz; try walk_nrm) | (refine bt_skip rfl (by rfl) ?_; try walk_nrm)))
    exact bt_end7 rfl rfl B1
  have hd1 : decide (r < 0) = false := by simp; omega
  have G1 := gc_bel B1 hg
  (repeat (first | (first | refine bt_ctl rfl (fun _ => stepG_seq) ?_ | refine bt_ctl rfl (fun _ => stepG_skip) ?_ | refine bt_ctl rfl (fun _ => stepG_region_end) ?_ | refine bt_ctl rfl (fun _ => stepG_ret') ?_ | (refine bt_ctl rfl (fun _ => stepG_region) ?_; simp only [List.size_toArray, List.length_cons, List.length_nil, Nat.reduceAdd, Nat.zero_add, List.range, List.range.loop])) | (refine bt_cons zgOk.bodied rfl (by rfl) (by decide) (by decide) (fun dzz Kzz hKzz => ?_); go_simp; refine hKzz _ _ (fun b hb => hb) (bt_at ?_); clear hKzz Kzz; try walk_nrm) | (refine bt_skip rfl (by rfl) ?_; try walk_nrm)))
  (refine bt_ctl rfl (fun _ => stepG_cond (t := false) rfl) ?_; simp only [if_true, if_false, Bool.false_eq_true, ↓reduceIte])
  (repeat (first | (first | refine bt_ctl rfl (fun _ => stepG_seq) ?_ | refine bt_ctl rfl (fun _ => stepG_skip) ?_ | refine bt_ctl rfl (fun _ => stepG_region_end) ?_ | refine bt_ctl rfl (fun _ => stepG_ret') ?_ | (refine bt_ctl rfl (fun _ => stepG_region) ?_; simp only [List.size_toArray, List.length_cons, List.length_nil, Nat.reduceAdd, Nat.zero_add, List.range, List.range.loop])) | (refine bt_cons zgOk.bodied rfl (by rfl) (by decide) (by decide) (fun dzz Kzz hKzz => ?_); go_simp; refine hKzz _ _ (fun b hb => hb) (bt_at ?_); clear hKzz Kzz; try walk_nrm) | (refine bt_skip rfl (by rfl) ?_; try walk_nrm)))
  refine bt_call zgOk (szS_R w1 b cb ns hm (B1.sts hs) hz r r0 r1) G1 R26.i R26.e rfl (fun s hs => by cases hs) Try.func26 (by kernel_rfl) (by kernel_rfl) rfl (by rfl) rfl (by decide) (by simp [Act.eval]) ?_
  rintro v w2 ⟨r2, rfl, hr2, b2⟩
  try walk_nrm
  have B2 : Bel w.heap.size w w2 := B1.trans (b2.mono B1.size)
  have G2 := gc_bel B2 hg
  rcases hr2 with rfl | ⟨r3, r4, n1, z1⟩
  · (repeat (first | (first | refine bt_ctl rfl (fun _ => stepG_seq) ?_ | refine bt_ctl rfl (fun _ => stepG_skip) ?_ | refine bt_ctl rfl (fun _ => stepG_region_end) ?_ | refine bt_ctl rfl (fun _ => stepG_ret') ?_ | (refine bt_ctl rfl (fun _ => stepG_region) ?_; simp only [List.size_toArray, List.length_cons, List.length_nil, Nat.reduceAdd, Nat.zero_add, List.range, List.range.loop])) | (refine bt_cons zgOk.bodied rfl (by rfl) (by decide) (by decide) (fun dzz Kzz hKzz => ?_); go_simp; refine hKzz _ _ (fun b hb => hb) (bt_at ?_); clear hKzz Kzz; try walk_nrm) | (refine bt_skip rfl (by rfl) ?_; try walk_nrm)))
    (refine bt_ctl rfl (fun _ => stepG_cond (t := true) rfl) ?_; simp only [if_true, if_false, Bool.false_eq_true, ↓reduceIte])
    (repeat (first | (first | refine bt_ctl rfl (fun _ => stepG_seq) ?_ | refine bt_ctl rfl (fun _ => stepG_skip) ?_ | refine bt_ctl rfl (fun _ => stepG_region_end) ?_ | refine bt_ctl rfl (fun _ => stepG_ret') ?_ | (refine bt_ctl rfl (fun _ => stepG_region) ?_; simp only [List.size_toArray, List.length_cons, List.length_nil, Nat.reduceAdd, Nat.zero_add, List.range, List.range.loop])) | (refine bt_cons zgOk.bodied rfl (by rfl) (by decide) (by decide) (fun dzz Kzz hKzz => ?_); go_simp; refine hKzz _ _ (fun b hb => hb) (bt_at ?_); clear hKzz Kzz; try walk_nrm) | (refine bt_skip rfl (by rfl) ?_; try walk_nrm)))
    exact bt_end7 rfl rfl B2
  have hd2 : decide (r2 < 0) = false := by simp; omega
  (repeat (first | (first | refine bt_ctl rfl (fun _ => stepG_seq) ?_ | refine bt_ctl rfl (fun _ => stepG_skip) ?_ | refine bt_ctl rfl (fun _ => stepG_region_end) ?_ | refine bt_ctl rfl (fun _ => stepG_ret') ?_ | (refine bt_ctl rfl (fun _ => stepG_region) ?_; simp only [List.size_toArray, List.length_cons, List.length_nil, Nat.reduceAdd, Nat.zero_add, List.range, List.range.loop])) | (refine bt_cons zgOk.bodied rfl (by rfl) (by decide) (by decide) (fun dzz Kzz hKzz => ?_); go_simp; refine hKzz _ _ (fun b hb => hb) (bt_at ?_); clear hKzz Kzz; try walk_nrm) | (refine bt_skip rfl (by rfl) ?_; try walk_nrm)))
  (refine bt_ctl rfl (fun _ => stepG_cond (t := false) rfl) ?_; simp only [if_true, if_false, Bool.false_eq_true, ↓reduceIte])
  (repeat (first | (first | refine bt_ctl rfl (fun _ => stepG_seq) ?_ | refine bt_ctl rfl (fun _ => stepG_skip) ?_ | refine bt_ctl rfl (fun _ => stepG_region_end) ?_ | refine bt_ctl rfl (fun _ => stepG_ret') ?_ | (refine bt_ctl rfl (fun _ => stepG_region) ?_; simp only [List.size_toArray, List.length_cons, List.length_nil, Nat.reduceAdd, Nat.zero_add, List.range, List.range.loop])) | (refine bt_cons zgOk.bodied rfl (by rfl) (by decide) (by decide) (fun dzz Kzz hKzz => ?_); go_simp; refine hKzz _ _ (fun b hb => hb) (bt_at ?_); clear hKzz Kzz; try walk_nrm) | (refine bt_skip rfl (by rfl) ?_; try walk_nrm)))
  refine bt_call zgOk (szbb_R w2 d cd ts hm2 (B2.tks hb) r2 r3 r4) G2 R27.i R27.e rfl (fun s hs => by cases hs) Try.func27 (by kernel_rfl) (by kernel_rfl) rfl (by rfl) rfl (by decide) (by simp [Act.eval]) ?_
  rintro v w3 ⟨r5, rfl, hr5, b3⟩
  try walk_nrm
  have B3 : Bel w.heap.size w w3 := B2.trans (b3.mono B2.size)
  have G3 := gc_bel B3 hg
  rcases hr5 with rfl | ⟨r6, n2⟩
  · (repeat (first | (first | refine bt_ctl rfl (fun _ => stepG_seq) ?_ | refine bt_ctl rfl (fun _ => stepG_skip) ?_ | refine bt_ctl rfl (fun _ => stepG_region_end) ?_ | refine bt_ctl rfl (fun _ => stepG_ret') ?_ | (refine bt_ctl rfl (fun _ => stepG_region) ?_; simp only [List.size_toArray, List.length_cons, List.length_nil, Nat.reduceAdd, Nat.zero_add, List.range, List.range.loop])) | (refine bt_cons zgOk.bodied rfl (by rfl) (by decide) (by decide) (fun dzz Kzz hKzz => ?_); go_simp; refine hKzz _ _ (fun b hb => hb) (bt_at ?_); clear hKzz Kzz; try walk_nrm) | (refine bt_skip rfl (by rfl) ?_; try walk_nrm)))
    (refine bt_ctl rfl (fun _ => stepG_cond (t := true) rfl) ?_; simp only [if_true, if_false, Bool.false_eq_true, ↓reduceIte])
    (repeat (first | (first | refine bt_ctl rfl (fun _ => stepG_seq) ?_ | refine bt_ctl rfl (fun _ => stepG_skip) ?_ | refine bt_ctl rfl (fun _ => stepG_region_end) ?_ | refine bt_ctl rfl (fun _ => stepG_ret') ?_ | (refine bt_ctl rfl (fun _ => stepG_region) ?_; simp only [List.size_toArray, List.length_cons, List.length_nil, Nat.reduceAdd, Nat.zero_add, List.range, List.range.loop])) | (refine bt_cons zgOk.bodied rfl (by rfl) (by decide) (by decide) (fun dzz Kzz hKzz => ?_); go_simp; refine hKzz _ _ (fun b hb => hb) (bt_at ?_); clear hKzz Kzz; try walk_nrm) | (refine bt_skip rfl (by rfl) ?_; try walk_nrm)))
    exact bt_end7 rfl rfl B3
  have hd3 : decide (r5 < 0) = false := by simp; omega
  have hT : ts.length + tot ts ≤ 1048576 := by omega
  have ht1 : ts.length ≤ 1048576 := by omega
  have hmt : ∀ t ∈ ts, t.length ≤ 1048576 := fun t ht => by have := tot_mem ht; omega
  clear b2 b3 n2
  (repeat (first | (first | refine bt_ctl rfl (fun _ => stepG_seq) ?_ | refine bt_ctl rfl (fun _ => stepG_skip) ?_ | refine bt_ctl rfl (fun _ => stepG_region_end) ?_ | refine bt_ctl rfl (fun _ => stepG_ret') ?_ | (refine bt_ctl rfl (fun _ => stepG_region) ?_; simp only [List.size_toArray, List.length_cons, List.length_nil, Nat.reduceAdd, Nat.zero_add, List.range, List.range.loop])) | (refine bt_cons zgOk.bodied rfl (by rfl) (by decide) (by decide) (fun dzz Kzz hKzz => ?_); go_simp; refine hKzz _ _ (fun b hb => hb) (bt_at ?_); clear hKzz Kzz; try walk_nrm) | (refine bt_skip rfl (by rfl) ?_; try walk_nrm)))
  (refine bt_ctl rfl (fun _ => stepG_cond (t := false) rfl) ?_; simp only [if_true, if_false, Bool.false_eq_true, ↓reduceIte])
  (repeat (first | (first | refine bt_ctl rfl (fun _ => stepG_seq) ?_ | refine bt_ctl rfl (fun _ => stepG_skip) ?_ | refine bt_ctl rfl (fun _ => stepG_region_end) ?_ | refine bt_ctl rfl (fun _ => stepG_ret') ?_ | (refine bt_ctl rfl (fun _ => stepG_region) ?_; simp only [List.size_toArray, List.length_cons, List.length_nil, Nat.reduceAdd, Nat.zero_add, List.range, List.range.loop])) | (refine bt_cons zgOk.bodied rfl (by rfl) (by decide) (by decide) (fun dzz Kzz hKzz => ?_); go_simp; refine hKzz _ _ (fun b hb => hb) (bt_at ?_); clear hKzz Kzz; try walk_nrm) | (refine bt_skip rfl (by rfl) ?_; try walk_nrm)))
  refine bt_call zgOk (tok_R w3 e ce l l1 (B3.kls hl)) G3 R23.i R23.e rfl (fun s hs => by cases hs) Try.func23 (by kernel_rfl) (by kernel_rfl) rfl (by rfl) rfl (by decide) (by simp [Act.eval]) ?_
  rintro v w4 ⟨g4, rfl, hg4, o4, b4⟩
  try walk_nrm
  have B4 : Bel w.heap.size w w4 := B3.trans (b4.mono B3.size)
  have G4 := gc_bel B4 hg
  (repeat (first | (first | refine bt_ctl rfl (fun _ => stepG_seq) ?_ | refine bt_ctl rfl (fun _ => stepG_skip) ?_ | refine bt_ctl rfl (fun _ => stepG_region_end) ?_ | refine bt_ctl rfl (fun _ => stepG_ret') ?_ | (refine bt_ctl rfl (fun _ => stepG_region) ?_; simp only [List.size_toArray, List.length_cons, List.length_nil, Nat.reduceAdd, Nat.zero_add, List.range, List.range.loop])) | (refine bt_cons zgOk.bodied rfl (by rfl) (by decide) (by decide) (fun dzz Kzz hKzz => ?_); go_simp; refine hKzz _ _ (fun b hb => hb) (bt_at ?_); clear hKzz Kzz; try walk_nrm) | (refine bt_skip rfl (by rfl) ?_; try walk_nrm)))
  refine bt_call zgOk (tos_R w4 b cb ns n1 (B4.sts hs)) G4 R29.i R29.e rfl (fun s hs => by cases hs) Try.func29 (by kernel_rfl) (by kernel_rfl) rfl (by rfl) rfl (by decide) (by simp [Act.eval]) ?_
  rintro v w5 ⟨g5, rfl, hg5, o5, b5⟩
  try walk_nrm
  have B5 : Bel w.heap.size w w5 := B4.trans (b5.mono B4.size)
  have G5 := gc_bel B5 hg
  have o4 := own_bel b5 (own_lt o4) o4
  (repeat (first | (first | refine bt_ctl rfl (fun _ => stepG_seq) ?_ | refine bt_ctl rfl (fun _ => stepG_skip) ?_ | refine bt_ctl rfl (fun _ => stepG_region_end) ?_ | refine bt_ctl rfl (fun _ => stepG_ret') ?_ | (refine bt_ctl rfl (fun _ => stepG_region) ?_; simp only [List.size_toArray, List.length_cons, List.length_nil, Nat.reduceAdd, Nat.zero_add, List.range, List.range.loop])) | (refine bt_cons zgOk.bodied rfl (by rfl) (by decide) (by decide) (fun dzz Kzz hKzz => ?_); go_simp; refine hKzz _ _ (fun b hb => hb) (bt_at ?_); clear hKzz Kzz; try walk_nrm) | (refine bt_skip rfl (by rfl) ?_; try walk_nrm)))
  refine bt_call zgOk (tobb_R w5 d cd ts ht1 hmt (B5.tks hb)) G5 R30.i R30.e rfl (fun s hs => by cases hs) Try.func30 (by kernel_rfl) (by kernel_rfl) rfl (by rfl) rfl (by decide) (by simp [Act.eval]) ?_
  rintro v w6 ⟨g6, rfl, T6, b6⟩
  try walk_nrm
  have B6 : Bel w.heap.size w w6 := B5.trans (b6.mono B5.size)
  have G6 := gc_bel B6 hg
  have o4 := own_bel b6 (own_lt o4) o4
  have o5 := own_bel b6 (own_lt o5) o5
  (repeat (first | (first | refine bt_ctl rfl (fun _ => stepG_seq) ?_ | refine bt_ctl rfl (fun _ => stepG_skip) ?_ | refine bt_ctl rfl (fun _ => stepG_region_end) ?_ | refine bt_ctl rfl (fun _ => stepG_ret') ?_ | (refine bt_ctl rfl (fun _ => stepG_region) ?_; simp only [List.size_toArray, List.length_cons, List.length_nil, Nat.reduceAdd, Nat.zero_add, List.range, List.range.loop])) | (refine bt_cons zgOk.bodied rfl (by rfl) (by decide) (by decide) (fun dzz Kzz hKzz => ?_); go_simp; refine hKzz _ _ (fun b hb => hb) (bt_at ?_); clear hKzz Kzz; try walk_nrm) | (refine bt_skip rfl (by rfl) ?_; try walk_nrm)))
  refine bt_call zgOk (sver_R w6 (some ⟨g4, 0, none⟩) (some ⟨g5, 0, none⟩) (some ⟨g6, 0, none⟩) l.length ns.length ts.length l ns ts l1 n1 ht1 hzl hy (kls_own o4) (sts_own o5) (T6.tks (fun t ht => by have := hmt t ht; unfold maxLen; omega))) G6 RVf.i RVf.e rfl (fun s hs => by cases hs) Try.func38 (by kernel_rfl) (by kernel_rfl) rfl (by rfl) rfl (by decide) (by simp [Act.eval]) ?_
  rintro v w7 ⟨gS, cS, rfl, oS, b7⟩
  obtain ⟨L, hL⟩ : ∃ L, vfy l ns ts = L := ⟨_, rfl⟩
  rw [hL] at oS
  rw [hL]
  have hLn : L.length ≤ 1048576 := by rw [← hL]; unfold vfy; split; (simp only [List.length_map]; exact l1); simp
  try walk_nrm
  have B7 : Bel w.heap.size w w7 := B6.trans (b7.mono B6.size)
  have G7 := gc_bel B7 hg
  clear o4 o5 T6 hg4 hg5 b4 b5 b6
  (repeat (first | (first | refine bt_ctl rfl (fun _ => stepG_seq) ?_ | refine bt_ctl rfl (fun _ => stepG_skip) ?_ | refine bt_ctl rfl (fun _ => stepG_region_end) ?_ | refine bt_ctl rfl (fun _ => stepG_ret') ?_ | (refine bt_ctl rfl (fun _ => stepG_region) ?_; simp only [List.size_toArray, List.length_cons, List.length_nil, Nat.reduceAdd, Nat.zero_add, List.range, List.range.loop])) | (refine bt_cons zgOk.bodied rfl (by rfl) (by decide) (by decide) (fun dzz Kzz hKzz => ?_); go_simp; refine hKzz _ _ (fun b hb => hb) (bt_at ?_); clear hKzz Kzz; try walk_nrm) | (refine bt_skip rfl (by rfl) ?_; try walk_nrm)))
  refine bt_call zgOk (tok_R w7 e ce l l1 (B7.kls hl)) G7 R23.i R23.e rfl (fun s hs => by cases hs) Try.func23 (by kernel_rfl) (by kernel_rfl) rfl (by rfl) rfl (by decide) (by simp [Act.eval]) ?_
  rintro v w8 ⟨gA, rfl, hgA, oA, b8⟩
  try walk_nrm
  have B8 : Bel w.heap.size w w8 := B7.trans (b8.mono B7.size)
  have G8 := gc_bel B8 hg
  have kS := own_lt oS
  have oS := own_bel b8 kS oS
  (repeat (first | (first | refine bt_ctl rfl (fun _ => stepG_seq) ?_ | refine bt_ctl rfl (fun _ => stepG_skip) ?_ | refine bt_ctl rfl (fun _ => stepG_region_end) ?_ | refine bt_ctl rfl (fun _ => stepG_ret') ?_ | (refine bt_ctl rfl (fun _ => stepG_region) ?_; simp only [List.size_toArray, List.length_cons, List.length_nil, Nat.reduceAdd, Nat.zero_add, List.range, List.range.loop])) | (refine bt_cons zgOk.bodied rfl (by rfl) (by decide) (by decide) (fun dzz Kzz hKzz => ?_); go_simp; refine hKzz _ _ (fun b hb => hb) (bt_at ?_); clear hKzz Kzz; try walk_nrm) | (refine bt_skip rfl (by rfl) ?_; try walk_nrm)))
  refine bt_call zgOk (tos_R w8 b cb ns n1 (B8.sts hs)) G8 R29.i R29.e rfl (fun s hs => by cases hs) Try.func29 (by kernel_rfl) (by kernel_rfl) rfl (by rfl) rfl (by decide) (by simp [Act.eval]) ?_
  rintro v w9 ⟨gX, rfl, hgX, oX, b9⟩
  try walk_nrm
  have B9 : Bel w.heap.size w w9 := B8.trans (b9.mono B8.size)
  have G9 := gc_bel B9 hg
  have kA := own_lt oA
  have oS := own_bel b9 (own_lt oS) oS
  have oA := own_bel b9 kA oA
  (repeat (first | (first | refine bt_ctl rfl (fun _ => stepG_seq) ?_ | refine bt_ctl rfl (fun _ => stepG_skip) ?_ | refine bt_ctl rfl (fun _ => stepG_region_end) ?_ | refine bt_ctl rfl (fun _ => stepG_ret') ?_ | (refine bt_ctl rfl (fun _ => stepG_region) ?_; simp only [List.size_toArray, List.length_cons, List.length_nil, Nat.reduceAdd, Nat.zero_add, List.range, List.range.loop])) | (refine bt_cons zgOk.bodied rfl (by rfl) (by decide) (by decide) (fun dzz Kzz hKzz => ?_); go_simp; refine hKzz _ _ (fun b hb => hb) (bt_at ?_); clear hKzz Kzz; try walk_nrm) | (refine bt_skip rfl (by rfl) ?_; try walk_nrm)))
  refine bt_call zgOk (tobb_R w9 d cd ts ht1 hmt (B9.tks hb)) G9 R30.i R30.e rfl (fun s hs => by cases hs) Try.func30 (by kernel_rfl) (by kernel_rfl) rfl (by rfl) rfl (by decide) (by simp [Act.eval]) ?_
  rintro v w10 ⟨gY, rfl, TY, b10⟩
  try walk_nrm
  have B10 : Bel w.heap.size w w10 := B9.trans (b10.mono B9.size)
  have G10 := gc_bel B10 hg
  have kX := own_lt oX
  have oS := own_bel b10 (own_lt oS) oS
  have oA := own_bel b10 (own_lt oA) oA
  have oX := own_bel b10 kX oX
  (repeat (first | (first | refine bt_ctl rfl (fun _ => stepG_seq) ?_ | refine bt_ctl rfl (fun _ => stepG_skip) ?_ | refine bt_ctl rfl (fun _ => stepG_region_end) ?_ | refine bt_ctl rfl (fun _ => stepG_ret') ?_ | (refine bt_ctl rfl (fun _ => stepG_region) ?_; simp only [List.size_toArray, List.length_cons, List.length_nil, Nat.reduceAdd, Nat.zero_add, List.range, List.range.loop])) | (refine bt_cons zgOk.bodied rfl (by rfl) (by decide) (by decide) (fun dzz Kzz hKzz => ?_); go_simp; refine hKzz _ _ (fun b hb => hb) (bt_at ?_); clear hKzz Kzz; try walk_nrm) | (refine bt_skip rfl (by rfl) ?_; try walk_nrm)))
  obtain ⟨zs, hzs, hV⟩ := to_bodies TY hy hmt
  have hzl2 : zs.length = ts.length := by rw [← hzs]; simp
  refine bt_callB (iver_B (some ⟨gA, 0, none⟩) (some ⟨gX, 0, none⟩) (some ⟨gY, 0, none⟩) l.length ns.length ts.length l ns zs w10 l1 n1 hzl (kls_own oA) (sts_own oX) hV G10 (Nat.le_trans hTh B10.size)) Try.func39 (by kernel_rfl) (by kernel_rfl) rfl (by rfl) rfl (by decide) (by simp [Act.eval, hzl2]) ?_
  rintro v w11 ⟨gG, cG, rfl, oG, b11⟩
  rw [hzs, hL] at oG
  rw [hzs, hL]
  try walk_nrm
  have B11 : Bel w.heap.size w w11 := B10.trans (b11.mono B10.size)
  have gG0 : w10.heap.size ≤ gG := (World.ownsRow.lt oG gG rfl).1
  have s8 := b8.size
  have s9 := b9.size
  have s10 := b10.size
  have c1 : Pv1 w w11 w6.heap.size gS cS w7.heap.size gA w8.heap.size gX w9.heap.size w10.heap.size gY w10.heap.size gG cG l ns ts L :=
    ⟨B11, own_bel b11 (own_lt oS) oS, own_bel b11 (own_lt oA) oA, own_bel b11 (own_lt oX) oX, oG, to_bel TY b11 (Nat.le_refl _), b11.size, Nat.le_trans B7.size hgA, Nat.le_trans B8.size hgX, Nat.lt_of_lt_of_le kA s9, kX, by omega, by omega, by omega, by omega, gG0, B9.size⟩
  clear oS oA oX TY hV hzl2 hzs zs oG B1 B2 B3 B4 B5 B6 B7 B8 B9 B10 G1 G2 G3 G4 G5 G6 G7 G8 G9 G10 b7 b8 b9 b10
  (repeat (first | (first | refine bt_ctl rfl (fun _ => stepG_seq) ?_ | refine bt_ctl rfl (fun _ => stepG_skip) ?_ | refine bt_ctl rfl (fun _ => stepG_region_end) ?_ | refine bt_ctl rfl (fun _ => stepG_ret') ?_ | (refine bt_ctl rfl (fun _ => stepG_region) ?_; simp only [List.size_toArray, List.length_cons, List.length_nil, Nat.reduceAdd, Nat.zero_add, List.range, List.range.loop])) | (refine bt_cons zgOk.bodied rfl (by rfl) (by decide) (by decide) (fun dzz Kzz hKzz => ?_); go_simp; refine hKzz _ _ (fun b hb => hb) (bt_at ?_); clear hKzz Kzz; try walk_nrm) | (refine bt_skip rfl (by rfl) ?_; try walk_nrm)))
  exact hk _ _ _ _ _ _ _ _ _ _ _ _ _ _ _ _ _ _ _ _ _ _ _ _ _ _ _ _ _ _ _ _ _ _ _ _ _ _ _ _ _ _ _ _ _ _ _ _ _ _ _ _ _ _ _ _ _ _ _ _ _ _ _ _ _ _ _ _ _ _ _ _ _ _ _ _ _ _ _ _ _ _ _ _ _ _ _ _ _ _ _ _ _ _ _ _ _ _ _ _ _ _ _ _ _ _ _ _ _ _ _ _ _ _ _ _ _ _ _ _ _ _ l1 n1 hT hL hLn c1
end Go.Proofs.Ytpdnceeniokemaa
