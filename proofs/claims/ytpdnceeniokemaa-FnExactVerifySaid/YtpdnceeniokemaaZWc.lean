/-
  impl.Verify beside leavers: the law of FnExactVerify, its second piece.
  Marks into lists of lists of bytes, from any mark up to five millions.
  impl.Verify beside leavers: the law of FnExactVerify, its third piece.
-/
import Derived.Test.YtpdnceeniokemaaZVe
set_option linter.unusedVariables false
set_option linter.unusedSimpArgs false
namespace Go.Proofs.Ytpdnceeniokemaa
open Go Go.Conc Go.RowKit
open Go.Proofs.Ytpdnceeniokemaa.Bb (Tks TO TW tot)
open Go.Proofs.Ytpdnceeniokemaa.Wk (El BodiesV Bel dig_B valsE)
open Go.Proofs.Ytpdnceeniokemaa.Br (BT BTS Hd Pz Pst CallsB bt_ctl bt_cons bt_skip bt_callB bt_call rt AtEnd0)
set_option maxRecDepth 100000 in
set_option maxHeartbeats 8000000 in
theorem lawVfB [Br.Thr] (e b d : Option Addr) (ce cb cd : Nat) (l : List Kl) (ns : List ByteArray) (ts : List (List Int)) (w : World) (hg : Br.GC Try.prog w) (hTh : Br.Thr.N ≤ w.heap.size) (hl : Kls w e l) (hs : Sts w b ns) (hb : Tks w d ts) (l1 : l.length ≤ 1048576) (n1 : ns.length ≤ 1048576) (hT : ts.length + tot ts ≤ 1048576) (ht1 : ts.length ≤ 1048576) (hmt : ∀ t ∈ ts, t.length ≤ 1048576) (pS gS cS pA gA pX gX lo hi gY pG gG cG : Nat) (L : List Int) (hLn : L.length ≤ 1048576) (u : World) (c8 : Pv1 w u pS gS cS pA gA pX gX lo hi gY pG gG cG l ns ts L) (rest : Code) (v3 v4 v5 v6 v7 v13 v14 v15 v16 v17 v18 v19 v20 v21 v22 v23 v24 v25 v26 v27 v28 v29 v30 v31 v32 v33 v34 v35 v36 v37 v38 v39 v40 v41 v42 v43 v44 v45 v46 v47 v48 v49 v50 v51 v52 v53 v54 v55 v56 v57 v58 v59 v60 v61 v62 v63 v64 v65 v66 v67 v68 v69 v70 v71 v72 v73 v74 v75 v76 v77 v78 v79 v80 v81 v82 v83 v84 v85 v86 v87 v88 v89 v90 v91 v92 v93 v94 v95 v96 v97 v98 v99 v100 v101 v102 v103 v104 v105 v106 v107 v108 v109 v110 v111 v112 v113 v114 : Value)
    (hk : ∀ (v3 v4 v5 v6 v7 v13 v14 v15 v16 v17 v18 v19 v20 v21 v22 v23 v24 v25 v26 v27 v28 v29 v30 v31 v32 v33 v34 v35 v36 v37 v38 v39 v40 v41 v42 v43 v44 v45 v46 v47 v48 v49 v50 v51 v52 v53 v54 v55 v56 v57 v58 v59 v60 v61 v62 v63 v64 v65 v66 v67 v68 v69 v70 v71 v72 v73 v74 v75 v76 v77 v78 v79 v80 v81 v82 v83 v84 v85 v86 v87 v88 v89 v90 v91 v92 v93 v94 v95 v96 v97 v98 v99 v100 v101 v102 v103 v104 v105 v106 v107 v108 v109 v110 v111 v112 v113 v114 : Value) (u' : World), Pv1 w u' pS gS cS pA gA pX gX lo hi gY pG gG cG l ns ts L → BT Try.prog (AtEnd0 Try.prog (PostL w)) (G ((base 7).at ⟨#[.slice e l.length ce, .slice b ns.length cb, .slice d ts.length cd, v3, v4, v5, v6, v7, .slice (some ⟨gS, 0, none⟩) L.length cS, .slice (some ⟨gA, 0, none⟩) l.length l.length, .slice (some ⟨gX, 0, none⟩) ns.length ns.length, .slice (some ⟨gY, 0, none⟩) ts.length ts.length, .slice (some ⟨gG, 0, none⟩) L.length cG, v13, v14, v15, v16, v17, v18, v19, v20, v21, v22, v23, v24, v25, v26, v27, v28, v29, v30, v31, v32, v33, v34, v35, v36, v37, v38, v39, v40, v41, v42, v43, v44, v45, v46, v47, v48, v49, v50, v51, v52, v53, v54, v55, v56, v57, v58, v59, v60, v61, v62, v63, v64, v65, v66, v67, v68, v69, v70, v71, v72, v73, v74, v75, v76, v77, v78, v79, v80, v81, v82, v83, v84, v85, v86, v87, v88, v89, v90, v91, v92, v93, v94, v95, v96, v97, v98, v99, v100, v101, v102, v103, v104, v105, v106, v107, v108, v109, v110, v111, v112, v113, v114], []⟩ [.code rest]) []) u') :
    BT Try.prog (AtEnd0 Try.prog (PostL w)) (G ((base 7).at ⟨#[.slice e l.length ce, .slice b ns.length cb, .slice d ts.length cd, v3, v4, v5, v6, v7, .slice (some ⟨gS, 0, none⟩) L.length cS, .slice (some ⟨gA, 0, none⟩) l.length l.length, .slice (some ⟨gX, 0, none⟩) ns.length ns.length, .slice (some ⟨gY, 0, none⟩) ts.length ts.length, .slice (some ⟨gG, 0, none⟩) L.length cG, v13, v14, v15, v16, v17, v18, v19, v20, v21, v22, v23, v24, v25, v26, v27, v28, v29, v30, v31, v32, v33, v34, v35, v36, v37, v38, v39, v40, v41, v42, v43, v44, v45, v46, v47, v48, v49, v50, v51, v52, v53, v54, v55, v56, v57, v58, v59, v60, v61, v62, v63, v64, v65, v66, v67, v68, v69, v70, v71, v72, v73, v74, v75, v76, v77, v78, v79, v80, v81, v82, v83, v84, v85, v86, v87, v88, v89, v90, v91, v92, v93, v94, v95, v96, v97, v98, v99, v100, v101, v102, v103, v104, v105, v106, v107, v108, v109, v110, v111, v112, v113, v114], []⟩ [.code (.seq (st 13 (Try.f7.body.getD .skip)) (.seq (st 14 (Try.f7.body.getD .skip)) (.seq (st 15 (Try.f7.body.getD .skip)) (.seq (st 16 (Try.f7.body.getD .skip)) rest))))]) []) u := by
  simp only [st, Try.f7, Option.getD_some]
  have G8 := gc_bel c8.B hg
  (repeat (first | (first | refine bt_ctl rfl (fun _ => stepG_seq) ?_ | refine bt_ctl rfl (fun _ => stepG_skip) ?_ | refine bt_ctl rfl (fun _ => stepG_region_end) ?_ | refine bt_ctl rfl (fun _ => stepG_ret') ?_ | (refine bt_ctl rfl (fun _ => stepG_region) ?_; simp only [List.size_toArray, List.length_cons, List.length_nil, Nat.reduceAdd, Nat.zero_add, List.range, List.range.loop])) | (refine bt_cons zgOk.bodied rfl (by rfl) (by decide) (by decide) (fun dzz Kzz hKzz => ?_); go_simp; refine hKzz _ _ (fun b hb => hb) (bt_at ?_); clear hKzz Kzz; try walk_nrm) | (refine bt_skip rfl (by rfl) ?_; try walk_nrm)))
  refine bt_call zgOk (eqi_R u (some ⟨gG, 0, none⟩) (some ⟨gS, 0, none⟩) cG cS L hLn (ins_own c8.oG) (ins_own c8.oS)) G8 RTr.i RTr.e rfl (fun s hs => by cases hs) Try.func40 (by kernel_rfl) (by kernel_rfl) rfl (by rfl) rfl (by decide) (by simp [Act.eval]) ?_
  rintro v w9 ⟨rfl, b9⟩
  try walk_nrm
  have c9 := c8.bel b9
  clear c8 G8
  have G9 := gc_bel c9.B hg
  (repeat (first | (first | refine bt_ctl rfl (fun _ => stepG_seq) ?_ | refine bt_ctl rfl (fun _ => stepG_skip) ?_ | refine bt_ctl rfl (fun _ => stepG_region_end) ?_ | refine bt_ctl rfl (fun _ => stepG_ret') ?_ | (refine bt_ctl rfl (fun _ => stepG_region) ?_; simp only [List.size_toArray, List.length_cons, List.length_nil, Nat.reduceAdd, Nat.zero_add, List.range, List.range.loop])) | (refine bt_cons zgOk.bodied rfl (by rfl) (by decide) (by decide) (fun dzz Kzz hKzz => ?_); go_simp; refine hKzz _ _ (fun b hb => hb) (bt_at ?_); clear hKzz Kzz; try walk_nrm) | (refine bt_skip rfl (by rfl) ?_; try walk_nrm)))
  (refine bt_ctl rfl (fun _ => stepG_cond (t := false) rfl) ?_; simp only [if_true, if_false, Bool.false_eq_true, ↓reduceIte])
  (repeat (first | (first | refine bt_ctl rfl (fun _ => stepG_seq) ?_ | refine bt_ctl rfl (fun _ => stepG_skip) ?_ | refine bt_ctl rfl (fun _ => stepG_region_end) ?_ | refine bt_ctl rfl (fun _ => stepG_ret') ?_ | (refine bt_ctl rfl (fun _ => stepG_region) ?_; simp only [List.size_toArray, List.length_cons, List.length_nil, Nat.reduceAdd, Nat.zero_add, List.range, List.range.loop])) | (refine bt_cons zgOk.bodied rfl (by rfl) (by decide) (by decide) (fun dzz Kzz hKzz => ?_); go_simp; refine hKzz _ _ (fun b hb => hb) (bt_at ?_); clear hKzz Kzz; try walk_nrm) | (refine bt_skip rfl (by rfl) ?_; try walk_nrm)))
  refine bt_call zgOk (tok_R w9 e ce l l1 (c9.B.kls hl)) G9 R23.i R23.e rfl (fun s hs => by cases hs) Try.func23 (by kernel_rfl) (by kernel_rfl) rfl (by rfl) rfl (by decide) (by simp [Act.eval]) ?_
  rintro v w8 ⟨g8, rfl, hg8, o8, b8⟩
  try walk_nrm
  have c8 := c9.bel b8
  clear b9 c9 G9
  have G8 := gc_bel c8.B hg
  (repeat (first | (first | refine bt_ctl rfl (fun _ => stepG_seq) ?_ | refine bt_ctl rfl (fun _ => stepG_skip) ?_ | refine bt_ctl rfl (fun _ => stepG_region_end) ?_ | refine bt_ctl rfl (fun _ => stepG_ret') ?_ | (refine bt_ctl rfl (fun _ => stepG_region) ?_; simp only [List.size_toArray, List.length_cons, List.length_nil, Nat.reduceAdd, Nat.zero_add, List.range, List.range.loop])) | (refine bt_cons zgOk.bodied rfl (by rfl) (by decide) (by decide) (fun dzz Kzz hKzz => ?_); go_simp; refine hKzz _ _ (fun b hb => hb) (bt_at ?_); clear hKzz Kzz; try walk_nrm) | (refine bt_skip rfl (by rfl) ?_; try walk_nrm)))
  refine bt_call zgOk (eqks_R w8 (some ⟨gA, 0, none⟩) (some ⟨g8, 0, none⟩) l.length l.length l l1 (kls_own c8.oA) (kls_own o8)) G8 RTr.i RTr.e rfl (fun s hs => by cases hs) Try.func25 (by kernel_rfl) (by kernel_rfl) rfl (by rfl) rfl (by decide) (by simp [Act.eval]) ?_
  rintro v w7 ⟨rfl, b7⟩
  try walk_nrm
  have c9 := c8.bel b7
  clear b8 o8 hg8 c8 G8
  have G9 := gc_bel c9.B hg
  (repeat (first | (first | refine bt_ctl rfl (fun _ => stepG_seq) ?_ | refine bt_ctl rfl (fun _ => stepG_skip) ?_ | refine bt_ctl rfl (fun _ => stepG_region_end) ?_ | refine bt_ctl rfl (fun _ => stepG_ret') ?_ | (refine bt_ctl rfl (fun _ => stepG_region) ?_; simp only [List.size_toArray, List.length_cons, List.length_nil, Nat.reduceAdd, Nat.zero_add, List.range, List.range.loop])) | (refine bt_cons zgOk.bodied rfl (by rfl) (by decide) (by decide) (fun dzz Kzz hKzz => ?_); go_simp; refine hKzz _ _ (fun b hb => hb) (bt_at ?_); clear hKzz Kzz; try walk_nrm) | (refine bt_skip rfl (by rfl) ?_; try walk_nrm)))
  (refine bt_ctl rfl (fun _ => stepG_cond (t := false) rfl) ?_; simp only [if_true, if_false, Bool.false_eq_true, ↓reduceIte])
  (repeat (first | (first | refine bt_ctl rfl (fun _ => stepG_seq) ?_ | refine bt_ctl rfl (fun _ => stepG_skip) ?_ | refine bt_ctl rfl (fun _ => stepG_region_end) ?_ | refine bt_ctl rfl (fun _ => stepG_ret') ?_ | (refine bt_ctl rfl (fun _ => stepG_region) ?_; simp only [List.size_toArray, List.length_cons, List.length_nil, Nat.reduceAdd, Nat.zero_add, List.range, List.range.loop])) | (refine bt_cons zgOk.bodied rfl (by rfl) (by decide) (by decide) (fun dzz Kzz hKzz => ?_); go_simp; refine hKzz _ _ (fun b hb => hb) (bt_at ?_); clear hKzz Kzz; try walk_nrm) | (refine bt_skip rfl (by rfl) ?_; try walk_nrm)))
  refine bt_call zgOk (tos_R w7 b cb ns n1 (c9.B.sts hs)) G9 R29.i R29.e rfl (fun s hs => by cases hs) Try.func29 (by kernel_rfl) (by kernel_rfl) rfl (by rfl) rfl (by decide) (by simp [Act.eval]) ?_
  rintro v w10 ⟨g10, rfl, hg10, o10, b10⟩
  try walk_nrm
  have c10 := c9.bel b10
  clear c9 G9
  have G10 := gc_bel c10.B hg
  (repeat (first | (first | refine bt_ctl rfl (fun _ => stepG_seq) ?_ | refine bt_ctl rfl (fun _ => stepG_skip) ?_ | refine bt_ctl rfl (fun _ => stepG_region_end) ?_ | refine bt_ctl rfl (fun _ => stepG_ret') ?_ | (refine bt_ctl rfl (fun _ => stepG_region) ?_; simp only [List.size_toArray, List.length_cons, List.length_nil, Nat.reduceAdd, Nat.zero_add, List.range, List.range.loop])) | (refine bt_cons zgOk.bodied rfl (by rfl) (by decide) (by decide) (fun dzz Kzz hKzz => ?_); go_simp; refine hKzz _ _ (fun b hb => hb) (bt_at ?_); clear hKzz Kzz; try walk_nrm) | (refine bt_skip rfl (by rfl) ?_; try walk_nrm)))
  refine bt_call zgOk (eqs_R w10 (some ⟨gX, 0, none⟩) (some ⟨g10, 0, none⟩) ns.length ns.length ns n1 (sts_own c10.oX) (sts_own o10)) G10 RTr.i RTr.e rfl (fun s hs => by cases hs) Try.func32 (by kernel_rfl) (by kernel_rfl) rfl (by rfl) rfl (by decide) (by simp [Act.eval]) ?_
  rintro v w11 ⟨rfl, b11⟩
  try walk_nrm
  have c11 := c10.bel b11
  clear b10 o10 hg10 c10 G10
  have G11 := gc_bel c11.B hg
  (repeat (first | (first | refine bt_ctl rfl (fun _ => stepG_seq) ?_ | refine bt_ctl rfl (fun _ => stepG_skip) ?_ | refine bt_ctl rfl (fun _ => stepG_region_end) ?_ | refine bt_ctl rfl (fun _ => stepG_ret') ?_ | (refine bt_ctl rfl (fun _ => stepG_region) ?_; simp only [List.size_toArray, List.length_cons, List.length_nil, Nat.reduceAdd, Nat.zero_add, List.range, List.range.loop])) | (refine bt_cons zgOk.bodied rfl (by rfl) (by decide) (by decide) (fun dzz Kzz hKzz => ?_); go_simp; refine hKzz _ _ (fun b hb => hb) (bt_at ?_); clear hKzz Kzz; try walk_nrm) | (refine bt_skip rfl (by rfl) ?_; try walk_nrm)))
  (refine bt_ctl rfl (fun _ => stepG_cond (t := false) rfl) ?_; simp only [if_true, if_false, Bool.false_eq_true, ↓reduceIte])
  (repeat (first | (first | refine bt_ctl rfl (fun _ => stepG_seq) ?_ | refine bt_ctl rfl (fun _ => stepG_skip) ?_ | refine bt_ctl rfl (fun _ => stepG_region_end) ?_ | refine bt_ctl rfl (fun _ => stepG_ret') ?_ | (refine bt_ctl rfl (fun _ => stepG_region) ?_; simp only [List.size_toArray, List.length_cons, List.length_nil, Nat.reduceAdd, Nat.zero_add, List.range, List.range.loop])) | (refine bt_cons zgOk.bodied rfl (by rfl) (by decide) (by decide) (fun dzz Kzz hKzz => ?_); go_simp; refine hKzz _ _ (fun b hb => hb) (bt_at ?_); clear hKzz Kzz; try walk_nrm) | (refine bt_skip rfl (by rfl) ?_; try walk_nrm)))
  refine bt_call zgOk (tobb_R w11 d cd ts ht1 hmt (c11.B.tks hb)) G11 R30.i R30.e rfl (fun s hs => by cases hs) Try.func30 (by kernel_rfl) (by kernel_rfl) rfl (by rfl) rfl (by decide) (by simp [Act.eval]) ?_
  rintro v w12 ⟨g12, rfl, T12, b12⟩
  try walk_nrm
  have c12 := c11.bel b12
  clear b11 c11 G11
  have G12 := gc_bel c12.B hg
  (repeat (first | (first | refine bt_ctl rfl (fun _ => stepG_seq) ?_ | refine bt_ctl rfl (fun _ => stepG_skip) ?_ | refine bt_ctl rfl (fun _ => stepG_region_end) ?_ | refine bt_ctl rfl (fun _ => stepG_ret') ?_ | (refine bt_ctl rfl (fun _ => stepG_region) ?_; simp only [List.size_toArray, List.length_cons, List.length_nil, Nat.reduceAdd, Nat.zero_add, List.range, List.range.loop])) | (refine bt_cons zgOk.bodied rfl (by rfl) (by decide) (by decide) (fun dzz Kzz hKzz => ?_); go_simp; refine hKzz _ _ (fun b hb => hb) (bt_at ?_); clear hKzz Kzz; try walk_nrm) | (refine bt_skip rfl (by rfl) ?_; try walk_nrm)))
  refine bt_call zgOk (eqbb_R w12 (some ⟨gY, 0, none⟩) (some ⟨g12, 0, none⟩) ts.length ts.length ts ht1 hmt (c12.TY.tks (fun t ht => by have := hmt t ht; unfold maxLen; omega)) (T12.tks (fun t ht => by have := hmt t ht; unfold maxLen; omega))) G12 RTr.i RTr.e rfl (fun s hs => by cases hs) Try.func33 (by kernel_rfl) (by kernel_rfl) rfl (by rfl) rfl (by decide) (by simp [Act.eval]) ?_
  rintro v w13 ⟨rfl, b13⟩
  try walk_nrm
  have c13 := c12.bel b13
  clear b12 T12 c12 G12
  (repeat (first | (first | refine bt_ctl rfl (fun _ => stepG_seq) ?_ | refine bt_ctl rfl (fun _ => stepG_skip) ?_ | refine bt_ctl rfl (fun _ => stepG_region_end) ?_ | refine bt_ctl rfl (fun _ => stepG_ret') ?_ | (refine bt_ctl rfl (fun _ => stepG_region) ?_; simp only [List.size_toArray, List.length_cons, List.length_nil, Nat.reduceAdd, Nat.zero_add, List.range, List.range.loop])) | (refine bt_cons zgOk.bodied rfl (by rfl) (by decide) (by decide) (fun dzz Kzz hKzz => ?_); go_simp; refine hKzz _ _ (fun b hb => hb) (bt_at ?_); clear hKzz Kzz; try walk_nrm) | (refine bt_skip rfl (by rfl) ?_; try walk_nrm)))
  (refine bt_ctl rfl (fun _ => stepG_cond (t := false) rfl) ?_; simp only [if_true, if_false, Bool.false_eq_true, ↓reduceIte])
  (repeat (first | (first | refine bt_ctl rfl (fun _ => stepG_seq) ?_ | refine bt_ctl rfl (fun _ => stepG_skip) ?_ | refine bt_ctl rfl (fun _ => stepG_region_end) ?_ | refine bt_ctl rfl (fun _ => stepG_ret') ?_ | (refine bt_ctl rfl (fun _ => stepG_region) ?_; simp only [List.size_toArray, List.length_cons, List.length_nil, Nat.reduceAdd, Nat.zero_add, List.range, List.range.loop])) | (refine bt_cons zgOk.bodied rfl (by rfl) (by decide) (by decide) (fun dzz Kzz hKzz => ?_); go_simp; refine hKzz _ _ (fun b hb => hb) (bt_at ?_); clear hKzz Kzz; try walk_nrm) | (refine bt_skip rfl (by rfl) ?_; try walk_nrm)))
  exact hk _ _ _ _ _ _ _ _ _ _ _ _ _ _ _ _ _ _ _ _ _ _ _ _ _ _ _ _ _ _ _ _ _ _ _ _ _ _ _ _ _ _ _ _ _ _ _ _ _ _ _ _ _ _ _ _ _ _ _ _ _ _ _ _ _ _ _ _ _ _ _ _ _ _ _ _ _ _ _ _ _ _ _ _ _ _ _ _ _ _ _ _ _ _ _ _ _ _ _ _ _ _ _ _ _ _ _ _ c13
end Go.Proofs.Ytpdnceeniokemaa

set_option linter.unusedVariables false
set_option linter.unusedSimpArgs false
namespace Go.Proofs.Ytpdnceeniokemaa.Bb
open Go.RowKit
open Go.Proofs.Ytpdnceeniokemaa

set_option maxHeartbeats 1600000 in
theorem markbb2_any (lo hi B cap : Nat) (ts : List (List Int)) (w : World) (hl : ts.length + tot ts ≤ 1048576) (q9 : Int) (h0 : 1 ≤ q9) (h9 : q9 ≤ 5000000) (h : TW lo hi w B ts) :
    Calls Try.prog 35 #[.slice (some ⟨B, 0, none⟩) ts.length cap, .int .i64 q9] w fun e w' => ∃ r, e = .returned (.int .i64 r) ∧ 0 ≤ r ∧ Rng lo hi w w' := by
  have h' := hide h
  clear h
  have htt : Hid (∀ k, tot (ts.take k) ≤ tot ts) := hide (fun k => by
    have e : tot ts = tot (ts.take k) + tot (ts.drop k) := by rw [← tot_append, List.take_append_drop]
    omega)
  go_enter Try.func35, Try.ntmps35
  go_wp2
  go_loopw [1, 5] (fun s t wr => ∃ (k : Nat) (q : Int), k ≤ ts.length ∧ t = .int .i64 k ∧ s = .int .i64 q ∧ 1 ≤ q ∧ q ≤ 8000000 ∧ Hid (q = q9 + tot (ts.take k)) ∧ Hid (TW lo hi wr B ts) ∧ Hid (Rng lo hi w wr)) (fun _ t _ => ts.length - (intOf t).toNat)
  case atStart => exact ⟨0, q9, by omega, rfl, rfl, by omega, by omega, hide (by simp [tot]), h', hide (Rng.refl _ _ _)⟩
  case round =>
    obtain ⟨k, q, hkl, rfl, rfl, q0, q1, hq, hT, hR⟩ := hrel
    by_cases hlt : k < ts.length
    · obtain ⟨t, hx⟩ : ∃ t, ts[k]? = some t := ⟨ts[k], List.getElem?_eq_getElem hlt⟩
      obtain ⟨cur, h1, h2, h3⟩ := (unhide hT).blk
      obtain ⟨g, a1, a2, a3, c, a4, a5, a6⟩ := h3 k t hx
      have hc : wr.cell? ⟨B, k, none⟩ = some (.slice (some ⟨g, 0, none⟩) t.length t.length) := by simp [World.cell?, h1, a3]
      have hsn := tot_snoc hx
      have hto := unhide htt (k + 1)
      have htl : t.length ≤ 1048576 := by omega
      have hrow := hide (row_own a4 a5 a6 a1)
      have hgc := hide (show ∃ c, wr.heap[g]? = some (.cells c 5 (0, 0)) ∧ c.size = t.length from ⟨c, a4, a5⟩)
      have hsn' := hide hsn
      have hto' := hide hto
      clear hx h1 h2 h3 a3 a4 a5 hsn hto
      go_wp2_with fail
      refine (markb_any lo g t.length t.length q _ _ (by omega) (by omega) (by omega) (unhide hrow)).mono ?_
      rintro e w1 ⟨rfl, ⟨ys, hy, _⟩, hgr⟩
      have hT1 := hide ((unhide hT).marked hgr (unhide hgc) hy)
      have hR1 := hide ((unhide hR).more hgr a1 a2 (fun e he => by
        obtain ⟨c, hc1, hc2⟩ := unhide hgc
        rw [he] at hc1
        injection hc1 with hc1
        injection hc1 with e1 e2
        subst e1 e2
        have ht0 : t.length = 0 := by rw [← hc2]; rfl
        rcases hy.2 with ⟨hv, _⟩ | ⟨g'', cap', cur', hv, hB, hh, _, hmx, hcs, _⟩
        · cases hv
        · injection hv with e1 e2 e3
          injection e1 with e1
          injection e1 with e1
          subst e1
          have : cur' = #[] := by
            have : cur'.size = 0 := by rw [hcs, ← e3, ht0]
            simpa using this
          rw [this] at hh
          exact hh))
      have hqn : q + (t.length : Int) ≤ 8000000 := by have h5 := unhide hq; have h6 := unhide hsn'; have h7 := unhide hto'; omega
      clear hy hgr hT hR
      go_wp2
      go_roundw
      case rel => exact ⟨k + 1, q + t.length, by omega, by go_num, rfl, by omega, hqn, hide (by have h5 := unhide hq; have h6 := unhide hsn'; omega), hT1, hR1⟩
      case measure => simp [intOf]; omega
    · have hke : k = ts.length := by omega
      have hke' := hide hke
      clear hke
      go_wp2
      go_ret
      exact ⟨q, rfl, by omega, unhide hR⟩

end Go.Proofs.Ytpdnceeniokemaa.Bb

namespace Go.Proofs.Ytpdnceeniokemaa
open Go.Proofs.Ytpdnceeniokemaa.Bb (Tks TO TW tot)
open Go.Proofs.Ytpdnceeniokemaa.Br (rt)
theorem markbb_R2 (w : World) (lo hi B cap : Nat) (ts : List (List Int)) (hl : ts.length + tot ts ≤ 1048576) (q9 : Int) (h0 : 1 ≤ q9) (h9 : q9 ≤ 5000000) (h : TW lo hi w B ts) (T : Nat → Question → Nat) (d : Nat) :
    Calls Try.prog 35 #[.slice (some ⟨B, 0, none⟩) ts.length cap, .int .i64 q9] (rt T d w) fun e w' => ∃ v, e = .returned v ∧ R35 w lo hi v w' :=
  (Bb.markbb2_any lo hi B cap ts (rt T d w) hl q9 h0 h9 ⟨h.blk⟩).mono fun e w' ⟨r, h1, h2, h3⟩ => ⟨_, h1, r, rfl, h2, h3.os, h3.output, h3.size, h3.block, fun b ⟨e, he⟩ => ⟨e, h3.empt b e he⟩⟩
end Go.Proofs.Ytpdnceeniokemaa

set_option linter.unusedVariables false
set_option linter.unusedSimpArgs false
namespace Go.Proofs.Ytpdnceeniokemaa
open Go Go.Conc Go.RowKit
open Go.Proofs.Ytpdnceeniokemaa.Bb (Tks TO TW tot)
open Go.Proofs.Ytpdnceeniokemaa.Wk (El BodiesV Bel dig_B valsE)
open Go.Proofs.Ytpdnceeniokemaa.Br (BT BTS Hd Pz Pst CallsB bt_ctl bt_cons bt_skip bt_callB bt_call rt AtEnd0)
set_option maxRecDepth 100000 in
set_option maxHeartbeats 8000000 in
theorem lawVfC [Br.Thr] (e b d : Option Addr) (ce cb cd : Nat) (l : List Kl) (ns : List ByteArray) (ts : List (List Int)) (w : World) (hg : Br.GC Try.prog w) (hTh : Br.Thr.N ≤ w.heap.size) (hl : Kls w e l) (hs : Sts w b ns) (hb : Tks w d ts) (l1 : l.length ≤ 1048576) (n1 : ns.length ≤ 1048576) (hT : ts.length + tot ts ≤ 1048576) (ht1 : ts.length ≤ 1048576) (hmt : ∀ t ∈ ts, t.length ≤ 1048576) (pS gS cS pA gA pX gX lo hi gY pG gG cG : Nat) (L : List Int) (hLn : L.length ≤ 1048576) (u : World) (c : Pv1 w u pS gS cS pA gA pX gX lo hi gY pG gG cG l ns ts L) (rest : Code) (v3 v4 v5 v6 v7 v13 v14 v15 v16 v17 v18 v19 v20 v21 v22 v23 v24 v25 v26 v27 v28 v29 v30 v31 v32 v33 v34 v35 v36 v37 v38 v39 v40 v41 v42 v43 v44 v45 v46 v47 v48 v49 v50 v51 v52 v53 v54 v55 v56 v57 v58 v59 v60 v61 v62 v63 v64 v65 v66 v67 v68 v69 v70 v71 v72 v73 v74 v75 v76 v77 v78 v79 v80 v81 v82 v83 v84 v85 v86 v87 v88 v89 v90 v91 v92 v93 v94 v95 v96 v97 v98 v99 v100 v101 v102 v103 v104 v105 v106 v107 v108 v109 v110 v111 v112 v113 v114 : Value)
    (hk : ∀ (v3 v4 v5 v6 v7 v13 v14 v15 v16 v17 v18 v19 v20 v21 v22 v23 v24 v25 v26 v27 v28 v29 v30 v31 v32 v33 v34 v35 v36 v37 v38 v39 v40 v41 v42 v43 v44 v45 v46 v47 v48 v49 v50 v51 v52 v53 v54 v55 v56 v57 v58 v59 v60 v61 v62 v63 v64 v65 v66 v67 v68 v69 v70 v71 v72 v73 v74 v75 v76 v77 v78 v79 v80 v81 v82 v83 v84 v85 v86 v87 v88 v89 v90 v91 v92 v93 v94 v95 v96 v97 v98 v99 v100 v101 v102 v103 v104 v105 v106 v107 v108 v109 v110 v111 v112 v113 v114 : Value) (u' : World), Pv2 w u' pS gS cS pG gG cG L → BT Try.prog (AtEnd0 Try.prog (PostL w)) (G ((base 7).at ⟨#[.slice e l.length ce, .slice b ns.length cb, .slice d ts.length cd, v3, v4, v5, v6, v7, .slice (some ⟨gS, 0, none⟩) L.length cS, .slice (some ⟨gA, 0, none⟩) l.length l.length, .slice (some ⟨gX, 0, none⟩) ns.length ns.length, .slice (some ⟨gY, 0, none⟩) ts.length ts.length, .slice (some ⟨gG, 0, none⟩) L.length cG, v13, v14, v15, v16, v17, v18, v19, v20, v21, v22, v23, v24, v25, v26, v27, v28, v29, v30, v31, v32, v33, v34, v35, v36, v37, v38, v39, v40, v41, v42, v43, v44, v45, v46, v47, v48, v49, v50, v51, v52, v53, v54, v55, v56, v57, v58, v59, v60, v61, v62, v63, v64, v65, v66, v67, v68, v69, v70, v71, v72, v73, v74, v75, v76, v77, v78, v79, v80, v81, v82, v83, v84, v85, v86, v87, v88, v89, v90, v91, v92, v93, v94, v95, v96, v97, v98, v99, v100, v101, v102, v103, v104, v105, v106, v107, v108, v109, v110, v111, v112, v113, v114], []⟩ [.code rest]) []) u') :
    BT Try.prog (AtEnd0 Try.prog (PostL w)) (G ((base 7).at ⟨#[.slice e l.length ce, .slice b ns.length cb, .slice d ts.length cd, v3, v4, v5, v6, v7, .slice (some ⟨gS, 0, none⟩) L.length cS, .slice (some ⟨gA, 0, none⟩) l.length l.length, .slice (some ⟨gX, 0, none⟩) ns.length ns.length, .slice (some ⟨gY, 0, none⟩) ts.length ts.length, .slice (some ⟨gG, 0, none⟩) L.length cG, v13, v14, v15, v16, v17, v18, v19, v20, v21, v22, v23, v24, v25, v26, v27, v28, v29, v30, v31, v32, v33, v34, v35, v36, v37, v38, v39, v40, v41, v42, v43, v44, v45, v46, v47, v48, v49, v50, v51, v52, v53, v54, v55, v56, v57, v58, v59, v60, v61, v62, v63, v64, v65, v66, v67, v68, v69, v70, v71, v72, v73, v74, v75, v76, v77, v78, v79, v80, v81, v82, v83, v84, v85, v86, v87, v88, v89, v90, v91, v92, v93, v94, v95, v96, v97, v98, v99, v100, v101, v102, v103, v104, v105, v106, v107, v108, v109, v110, v111, v112, v113, v114], []⟩ [.code (.seq (st 17 (Try.f7.body.getD .skip)) (.seq (st 18 (Try.f7.body.getD .skip)) (.seq (st 19 (Try.f7.body.getD .skip)) (.seq (st 20 (Try.f7.body.getD .skip)) (.seq (st 21 (Try.f7.body.getD .skip)) rest)))))]) []) u := by
  simp only [st, Try.f7, Option.getD_some]
  obtain ⟨K0, hK0⟩ : ∃ K : Int, (1 : Int) + (l.length : Int) * 3 = K := ⟨_, rfl⟩
  obtain ⟨K1, hK1⟩ : ∃ K : Int, K0 + (ns.length : Int) = K := ⟨_, rfl⟩
  have G0 := gc_bel c.B hg
  (repeat (first | (first | refine bt_ctl rfl (fun _ => stepG_seq) ?_ | refine bt_ctl rfl (fun _ => stepG_skip) ?_ | refine bt_ctl rfl (fun _ => stepG_region_end) ?_ | refine bt_ctl rfl (fun _ => stepG_ret') ?_ | (refine bt_ctl rfl (fun _ => stepG_region) ?_; simp only [List.size_toArray, List.length_cons, List.length_nil, Nat.reduceAdd, Nat.zero_add, List.range, List.range.loop])) | (refine bt_cons zgOk.bodied rfl (by rfl) (by decide) (by decide) (fun dzz Kzz hKzz => ?_); go_simp; refine hKzz _ _ (fun b hb => hb) (bt_at ?_); clear hKzz Kzz; try walk_nrm) | (refine bt_skip rfl (by rfl) ?_; try walk_nrm)))
  refine bt_call zgOk (markA_R u pA gA l.length l.length 1 _ (by omega) (by decide) (by decide) c.oA) G0 R36.i R36.e rfl (fun s hs => by cases hs) Try.func36 (by kernel_rfl) (by kernel_rfl) rfl (by rfl) rfl (by decide) (by simp [Act.eval]) ?_
  rintro v wa ⟨rfl, ra, ma, ka⟩
  rw [hK0]
  try walk_nrm
  have B13 : Bel w.heap.size w wa := bel_gro c.B ma c.a0
  have X13 := own_gro ma (Ne.symm c.ax) c.oX
  have T13 : TW lo hi wa gY ts := tw_gro c.TY.tw ma c.TY.ge c.a1
  have G13 := gc_bel B13 hg
  have q00 : (1 : Int) ≤ K0 := by omega
  have q01 : K0 ≤ 100000000 := by omega
  (repeat (first | (first | refine bt_ctl rfl (fun _ => stepG_seq) ?_ | refine bt_ctl rfl (fun _ => stepG_skip) ?_ | refine bt_ctl rfl (fun _ => stepG_region_end) ?_ | refine bt_ctl rfl (fun _ => stepG_ret') ?_ | (refine bt_ctl rfl (fun _ => stepG_region) ?_; simp only [List.size_toArray, List.length_cons, List.length_nil, Nat.reduceAdd, Nat.zero_add, List.range, List.range.loop])) | (refine bt_cons zgOk.bodied rfl (by rfl) (by decide) (by decide) (fun dzz Kzz hKzz => ?_); go_simp; refine hKzz _ _ (fun b hb => hb) (bt_at ?_); clear hKzz Kzz; try walk_nrm) | (refine bt_skip rfl (by rfl) ?_; try walk_nrm)))
  refine bt_call zgOk (markS_R wa pX gX ns.length ns.length K0 _ (by omega) q00 q01 X13) G13 R34.i R34.e rfl (fun s hs => by cases hs) Try.func34 (by kernel_rfl) (by kernel_rfl) rfl (by rfl) rfl (by decide) (by simp [Act.eval]) ?_
  rintro v w14 ⟨rfl, r14, m14, k14⟩
  rw [hK1]
  try walk_nrm
  have q0 : (1 : Int) ≤ K1 := by omega
  have q1 : K1 ≤ 5000000 := by omega
  have hh1 := hide hK1
  have hh0 := hide hK0
  clear hK1 hK0
  have B14 : Bel w.heap.size w w14 := bel_gro B13 m14 c.x0
  have T14 : TW lo hi w14 gY ts := tw_gro T13 m14 c.TY.ge c.x1
  have G14 := gc_bel B14 hg
  (repeat (first | (first | refine bt_ctl rfl (fun _ => stepG_seq) ?_ | refine bt_ctl rfl (fun _ => stepG_skip) ?_ | refine bt_ctl rfl (fun _ => stepG_region_end) ?_ | refine bt_ctl rfl (fun _ => stepG_ret') ?_ | (refine bt_ctl rfl (fun _ => stepG_region) ?_; simp only [List.size_toArray, List.length_cons, List.length_nil, Nat.reduceAdd, Nat.zero_add, List.range, List.range.loop])) | (refine bt_cons zgOk.bodied rfl (by rfl) (by decide) (by decide) (fun dzz Kzz hKzz => ?_); go_simp; refine hKzz _ _ (fun b hb => hb) (bt_at ?_); clear hKzz Kzz; try walk_nrm) | (refine bt_skip rfl (by rfl) ?_; try walk_nrm)))
  refine bt_call zgOk (markbb_R2 w14 lo hi gY ts.length ts hT K1 q0 q1 T14) G14 R35.i R35.e rfl (fun s hs => by cases hs) Try.func35 (by kernel_rfl) (by kernel_rfl) rfl (by rfl) rfl (by decide) (by simp [Act.eval]) ?_
  rintro v w15 h15
  have c15 := c.marked ma m14 h15
  obtain ⟨r, rfl, hr, -⟩ := h15
  try walk_nrm
  have hr0 : decide (r < 0) = false := by simp; omega
  clear r14 m14 k14 B14 T14 G14 q0 q1 hh1 hh0 B13 X13 T13 G13 ra ma ka q00 q01
  have G15 := gc_bel c15.B hg
  (repeat (first | (first | refine bt_ctl rfl (fun _ => stepG_seq) ?_ | refine bt_ctl rfl (fun _ => stepG_skip) ?_ | refine bt_ctl rfl (fun _ => stepG_region_end) ?_ | refine bt_ctl rfl (fun _ => stepG_ret') ?_ | (refine bt_ctl rfl (fun _ => stepG_region) ?_; simp only [List.size_toArray, List.length_cons, List.length_nil, Nat.reduceAdd, Nat.zero_add, List.range, List.range.loop])) | (refine bt_cons zgOk.bodied rfl (by rfl) (by decide) (by decide) (fun dzz Kzz hKzz => ?_); go_simp; refine hKzz _ _ (fun b hb => hb) (bt_at ?_); clear hKzz Kzz; try walk_nrm) | (refine bt_skip rfl (by rfl) ?_; try walk_nrm)))
  refine bt_call zgOk (eqi_R w15 (some ⟨gG, 0, none⟩) (some ⟨gS, 0, none⟩) cG cS L hLn (ins_own c15.oG) (ins_own c15.oS)) G15 RTr.i RTr.e rfl (fun s hs => by cases hs) Try.func40 (by kernel_rfl) (by kernel_rfl) rfl (by rfl) rfl (by decide) (by simp [Act.eval]) ?_
  rintro v w16 ⟨rfl, b16⟩
  try walk_nrm
  have c16 := c15.bel b16
  clear c15 G15
  (repeat (first | (first | refine bt_ctl rfl (fun _ => stepG_seq) ?_ | refine bt_ctl rfl (fun _ => stepG_skip) ?_ | refine bt_ctl rfl (fun _ => stepG_region_end) ?_ | refine bt_ctl rfl (fun _ => stepG_ret') ?_ | (refine bt_ctl rfl (fun _ => stepG_region) ?_; simp only [List.size_toArray, List.length_cons, List.length_nil, Nat.reduceAdd, Nat.zero_add, List.range, List.range.loop])) | (refine bt_cons zgOk.bodied rfl (by rfl) (by decide) (by decide) (fun dzz Kzz hKzz => ?_); go_simp; refine hKzz _ _ (fun b hb => hb) (bt_at ?_); clear hKzz Kzz; try walk_nrm) | (refine bt_skip rfl (by rfl) ?_; try walk_nrm)))
  (refine bt_ctl rfl (fun _ => stepG_cond (t := false) rfl) ?_; simp only [if_true, if_false, Bool.false_eq_true, ↓reduceIte])
  (repeat (first | (first | refine bt_ctl rfl (fun _ => stepG_seq) ?_ | refine bt_ctl rfl (fun _ => stepG_skip) ?_ | refine bt_ctl rfl (fun _ => stepG_region_end) ?_ | refine bt_ctl rfl (fun _ => stepG_ret') ?_ | (refine bt_ctl rfl (fun _ => stepG_region) ?_; simp only [List.size_toArray, List.length_cons, List.length_nil, Nat.reduceAdd, Nat.zero_add, List.range, List.range.loop])) | (refine bt_cons zgOk.bodied rfl (by rfl) (by decide) (by decide) (fun dzz Kzz hKzz => ?_); go_simp; refine hKzz _ _ (fun b hb => hb) (bt_at ?_); clear hKzz Kzz; try walk_nrm) | (refine bt_skip rfl (by rfl) ?_; try walk_nrm)))
  exact hk _ _ _ _ _ _ _ _ _ _ _ _ _ _ _ _ _ _ _ _ _ _ _ _ _ _ _ _ _ _ _ _ _ _ _ _ _ _ _ _ _ _ _ _ _ _ _ _ _ _ _ _ _ _ _ _ _ _ _ _ _ _ _ _ _ _ _ _ _ _ _ _ _ _ _ _ _ _ _ _ _ _ _ _ _ _ _ _ _ _ _ _ _ _ _ _ _ _ _ _ _ _ _ _ _ _ _ _ c16
end Go.Proofs.Ytpdnceeniokemaa
