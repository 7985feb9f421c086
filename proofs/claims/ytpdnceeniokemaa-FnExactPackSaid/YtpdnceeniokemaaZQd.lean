/-
  impl.Pack beside leavers: the law of FnExactPack, its second piece.
  impl.Pack beside leavers: the law of FnExactPack, its third piece.
  impl.Pack beside leavers: the law of FnExactPack, its fourth piece.
-/
import Derived.Test.YtpdnceeniokemaaZQf
set_option linter.unusedVariables false
set_option linter.unusedSimpArgs false
namespace Go.Proofs.Ytpdnceeniokemaa
open Go Go.Conc Go.RowKit
open Go.Proofs.Ytpdnceeniokemaa.Bb (Tks TO TW tot)
open Go.Proofs.Ytpdnceeniokemaa.Wk (El BodiesV Bel dig_B valsE)
open Go.Proofs.Ytpdnceeniokemaa.Br (BT BTS Hd Pz Pst CallsB bt_ctl bt_cons bt_skip bt_callB bt_call rt AtEnd0)
set_option maxRecDepth 100000 in
set_option maxHeartbeats 8000000 in
theorem lawPkB [Br.Thr] (b d : Option Addr) (cb cd : Nat) (ns : List ByteArray) (ts : List (List Int)) (w : World) (hg : Br.GC Try.prog w) (hTh : Br.Thr.N ≤ w.heap.size) (hs : Sts w b ns) (hb : Tks w d ts) (n1 : ns.length ≤ 1048576) (hT : ts.length + tot ts ≤ 1048576) (ht1 : ts.length ≤ 1048576) (hmt : ∀ t ∈ ts, t.length ≤ 1048576) (pS gS cS pX gX lo hi gY pG gG cG : Nat) (LG : List Kl) (okG : Bool) (hLn : LG.length ≤ 1048576) (u : World) (c8 : Pk1 w u pS gS cS pX gX lo hi gY pG gG cG ns ts LG) (rest : Code) (v2 v3 v4 v5 v12 v13 v14 v15 v16 v17 v18 v19 v20 v21 v22 v23 v24 v25 v26 v27 v28 v29 v30 v31 v32 v33 v34 v35 v36 v37 v38 v39 v40 v41 v42 v43 v44 v45 v46 v47 v48 v49 v50 v51 v52 v53 v54 v55 v56 v57 v58 v59 v60 v61 v62 v63 v64 v65 v66 v67 v68 v69 v70 v71 v72 v73 v74 v75 v76 v77 v78 v79 v80 v81 v82 v83 v84 v85 v86 v87 v88 v89 v90 v91 v92 v93 v94 v95 v96 v97 v98 v99 v100 v101 v102 v103 v104 v105 v106 v107 v108 v109 v110 v111 v112 v113 v114 v115 v116 v117 v118 : Value)
    (hk : ∀ (v2 v3 v4 v5 v12 v13 v14 v15 v16 v17 v18 v19 v20 v21 v22 v23 v24 v25 v26 v27 v28 v29 v30 v31 v32 v33 v34 v35 v36 v37 v38 v39 v40 v41 v42 v43 v44 v45 v46 v47 v48 v49 v50 v51 v52 v53 v54 v55 v56 v57 v58 v59 v60 v61 v62 v63 v64 v65 v66 v67 v68 v69 v70 v71 v72 v73 v74 v75 v76 v77 v78 v79 v80 v81 v82 v83 v84 v85 v86 v87 v88 v89 v90 v91 v92 v93 v94 v95 v96 v97 v98 v99 v100 v101 v102 v103 v104 v105 v106 v107 v108 v109 v110 v111 v112 v113 v114 v115 v116 v117 v118 : Value) (u' : World), Pk1 w u' pS gS cS pX gX lo hi gY pG gG cG ns ts LG → BT Try.prog (AtEnd0 Try.prog (PostL w)) (G ((base 6).at ⟨#[.slice b ns.length cb, .slice d ts.length cd, v2, v3, v4, v5, .slice (some ⟨gS, 0, none⟩) LG.length cS, .bool okG, .slice (some ⟨gX, 0, none⟩) ns.length ns.length, .slice (some ⟨gY, 0, none⟩) ts.length ts.length, .slice (some ⟨gG, 0, none⟩) LG.length cG, .bool okG, v12, v13, v14, v15, v16, v17, v18, v19, v20, v21, v22, v23, v24, v25, v26, v27, v28, v29, v30, v31, v32, v33, v34, v35, v36, v37, v38, v39, v40, v41, v42, v43, v44, v45, v46, v47, v48, v49, v50, v51, v52, v53, v54, v55, v56, v57, v58, v59, v60, v61, v62, v63, v64, v65, v66, v67, v68, v69, v70, v71, v72, v73, v74, v75, v76, v77, v78, v79, v80, v81, v82, v83, v84, v85, v86, v87, v88, v89, v90, v91, v92, v93, v94, v95, v96, v97, v98, v99, v100, v101, v102, v103, v104, v105, v106, v107, v108, v109, v110, v111, v112, v113, v114, v115, v116, v117, v118], []⟩ [.code rest]) []) u') :
    BT Try.prog (AtEnd0 Try.prog (PostL w)) (G ((base 6).at ⟨#[.slice b ns.length cb, .slice d ts.length cd, v2, v3, v4, v5, .slice (some ⟨gS, 0, none⟩) LG.length cS, .bool okG, .slice (some ⟨gX, 0, none⟩) ns.length ns.length, .slice (some ⟨gY, 0, none⟩) ts.length ts.length, .slice (some ⟨gG, 0, none⟩) LG.length cG, .bool okG, v12, v13, v14, v15, v16, v17, v18, v19, v20, v21, v22, v23, v24, v25, v26, v27, v28, v29, v30, v31, v32, v33, v34, v35, v36, v37, v38, v39, v40, v41, v42, v43, v44, v45, v46, v47, v48, v49, v50, v51, v52, v53, v54, v55, v56, v57, v58, v59, v60, v61, v62, v63, v64, v65, v66, v67, v68, v69, v70, v71, v72, v73, v74, v75, v76, v77, v78, v79, v80, v81, v82, v83, v84, v85, v86, v87, v88, v89, v90, v91, v92, v93, v94, v95, v96, v97, v98, v99, v100, v101, v102, v103, v104, v105, v106, v107, v108, v109, v110, v111, v112, v113, v114, v115, v116, v117, v118], []⟩ [.code (.seq (st 10 (Try.f6.body.getD .skip)) (.seq (st 11 (Try.f6.body.getD .skip)) (.seq (st 12 (Try.f6.body.getD .skip)) rest)))]) []) u := by
  simp only [st, Try.f6, Option.getD_some]
  have hbb : (okG != okG) = false := by simp
  have G8 := gc_bel c8.B hg
  (repeat (first | (first | refine bt_ctl rfl (fun _ => stepG_seq) ?_ | refine bt_ctl rfl (fun _ => stepG_skip) ?_ | refine bt_ctl rfl (fun _ => stepG_region_end) ?_ | refine bt_ctl rfl (fun _ => stepG_ret') ?_ | (refine bt_ctl rfl (fun _ => stepG_region) ?_; simp only [List.size_toArray, List.length_cons, List.length_nil, Nat.reduceAdd, Nat.zero_add, List.range, List.range.loop])) | (refine bt_cons zgOk.bodied rfl (by rfl) (by decide) (by decide) (fun dzz Kzz hKzz => ?_); go_simp; refine hKzz _ _ (fun b hb => hb) (bt_at ?_); clear hKzz Kzz; try walk_nrm) | (refine bt_skip rfl (by rfl) ?_; try walk_nrm)))
  refine bt_call zgOk (eqks_R u (some ⟨gG, 0, none⟩) (some ⟨gS, 0, none⟩) cG cS LG hLn (kls_own c8.oG) (kls_own c8.oS)) G8 RTr.i RTr.e rfl (fun s hs => by cases hs) Try.func25 (by kernel_rfl) (by kernel_rfl) rfl (by rfl) rfl (by decide) (by simp [Act.eval]) ?_
  rintro v w9 ⟨rfl, b9⟩
  try walk_nrm
  have c9 := c8.bel b9
  clear c8 G8
  have G9 := gc_bel c9.B hg
  (repeat (first | (first | refine bt_ctl rfl (fun _ => stepG_seq) ?_ | refine bt_ctl rfl (fun _ => stepG_skip) ?_ | refine bt_ctl rfl (fun _ => stepG_region_end) ?_ | refine bt_ctl rfl (fun _ => stepG_ret') ?_ | (refine bt_ctl rfl (fun _ => stepG_region) ?_; simp only [List.size_toArray, List.length_cons, List.length_nil, Nat.reduceAdd, Nat.zero_add, List.range, List.range.loop])) | (refine bt_cons zgOk.bodied rfl (by rfl) (by decide) (by decide) (fun dzz Kzz hKzz => ?_); go_simp; refine hKzz _ _ (fun b hb => hb) (bt_at ?_); clear hKzz Kzz; try walk_nrm) | (refine bt_skip rfl (by rfl) ?_; try walk_nrm)))
  (refine bt_ctl rfl (fun _ => stepG_cond (t := false) rfl) ?_; simp only [if_true, if_false, Bool.false_eq_true, ↓reduceIte])
  (repeat (first | (first | refine bt_ctl rfl (fun _ => stepG_seq) ?_ | refine bt_ctl rfl (fun _ => stepG_skip) ?_ | refine bt_ctl rfl (fun _ => stepG_region_end) ?_ | refine bt_ctl rfl (fun _ => stepG_ret') ?_ | (refine bt_ctl rfl (fun _ => stepG_region) ?_; simp only [List.size_toArray, List.length_cons, List.length_nil, Nat.reduceAdd, Nat.zero_add, List.range, List.range.loop])) | (refine bt_cons zgOk.bodied rfl (by rfl) (by decide) (by decide) (fun dzz Kzz hKzz => ?_); go_simp; refine hKzz _ _ (fun b hb => hb) (bt_at ?_); clear hKzz Kzz; try walk_nrm) | (refine bt_skip rfl (by rfl) ?_; try walk_nrm)))
  refine bt_call zgOk (tos_R w9 b cb ns n1 (c9.B.sts hs)) G9 R29.i R29.e rfl (fun s hs => by cases hs) Try.func29 (by kernel_rfl) (by kernel_rfl) rfl (by rfl) rfl (by decide) (by simp [Act.eval]) ?_
  rintro v w10 ⟨g10, rfl, hg10, o10, b10⟩
  try walk_nrm
  have c10 := c9.bel b10
  clear b9 c9 G9
  have G10 := gc_bel c10.B hg
  (repeat (first | (first | refine bt_ctl rfl (fun _ => stepG_seq) ?_ | refine bt_ctl rfl (fun _ => stepG_skip) ?_ | refine bt_ctl rfl (fun _ => stepG_region_end) ?_ | refine bt_ctl rfl (fun _ => stepG_ret') ?_ | (refine bt_ctl rfl (fun _ => stepG_region) ?_; simp only [List.size_toArray, List.length_cons, List.length_nil, Nat.reduceAdd, Nat.zero_add, List.range, List.range.loop])) | (refine bt_cons zgOk.bodied rfl (by rfl) (by decide) (by decide) (fun dzz Kzz hKzz => ?_); go_simp; refine hKzz _ _ (fun b hb => hb) (bt_at ?_); clear hKzz Kzz; try walk_nrm) | (refine bt_skip rfl (by rfl) ?_; try walk_nrm)))
  refine bt_call zgOk (eqs_R w10 (some ⟨gX, 0, none⟩) (some ⟨g10, 0, none⟩) ns.length ns.length ns n1 (sts_own c10.oX) (sts_own o10)) G10 RTr.i RTr.e rfl (fun s hs => by cases hs) Try.func32 (by kernel_rfl) (by kernel_rfl) rfl (by rfl) rfl (by decide) (by simp [Act.eval]) ?_
  rintro v w11 ⟨rfl, b11⟩
  try walk_nrm
  have c11 := c10.bel b11
  clear b10 o10 hg10 c10 G10
  have G11 := gc_bel c11.B hg
  (repeat (first | (first | refine bt_ctl rfl (fun _ => stepG_seq) ?_ | refine bt_ctl rfl (fun _ => stepG_skip) ?_ | refine bt_ctl rfl (fun _ => stepG_region_end) ?_ | refine bt_ctl rfl (fun _ => stepG_ret') ?_ | (refine bt_ctl rfl (fun _ => stepG_region) ?_; simp only [List.size_toArray, List.length_cons, List.length_nil, Nat.reduceAdd, Nat.zero_add, List.range, List.range.loop])) | (refine bt_cons zgOk.bodied rfl (by rfl) (by decide) (by decide) (fun dzz Kzz hKzz => ?_); go_simp; refine hKzz _ _ (fun b hb => hb) (bt_at ?_); clear hKzz Kzz; try walk_nrm) | (refine bt_skip rfl (by rfl) ?_; try walk_nrm)))
  (refine bt_ctl rfl (fun _ => stepG_cond (t := false) rfl) ?_; simp only [if_true, if_false, Bool.false_eq_true, ↓reduceIte])
  (repeat (first | (first | refine bt_ctl rfl (fun _ => stepG_seq) ?_ | refine bt_ctl rfl (fun _ => stepG_skip) ?_ | refine bt_ctl rfl (fun _ => stepG_region_end) ?_ | refine bt_ctl rfl (fun _ => stepG_ret') ?_ | (refine bt_ctl rfl (fun _ => stepG_region) ?_; simp only [List.size_toArray, List.length_cons, List.length_nil, Nat.reduceAdd, Nat.zero_add, List.range, List.range.loop])) | (refine bt_cons zgOk.bodied rfl (by rfl) (by decide) (by decide) (fun dzz Kzz hKzz => ?_); go_simp; refine hKzz _ _ (fun b hb => hb) (bt_at ?_); clear hKzz Kzz; try walk_nrm) | (refine bt_skip rfl (by rfl) ?_; try walk_nrm)))
  refine bt_call zgOk (tobb_R w11 d cd ts ht1 hmt (c11.B.tks hb)) G11 R30.i R30.e rfl (fun s hs => by cases hs) Try.func30 (by kernel_rfl) (by kernel_rfl) rfl (by rfl) rfl (by decide) (by simp [Act.eval]) ?_
  rintro v w12 ⟨g12, rfl, T12, b12⟩
  try walk_nrm
  have c12 := c11.bel b12
  clear b11 c11 G11
  have G12 := gc_bel c12.B hg
  (repeat (first | (first | refine bt_ctl rfl (fun _ => stepG_seq) ?_ | refine bt_ctl rfl (fun _ => stepG_skip) ?_ | refine bt_ctl rfl (fun _ => stepG_region_end) ?_ | refine bt_ctl rfl (fun _ => stepG_ret') ?_ | (refine bt_ctl rfl (fun _ => stepG_region) ?_; simp only [List.size_toArray, List.length_cons, List.length_nil, Nat.reduceAdd, Nat.zero_add, List.range, List.range.loop])) | (refine bt_cons zgOk.bodied rfl (by rfl) (by decide) (by decide) (fun dzz Kzz hKzz => ?_); go_simp; refine hKzz _ _ (fun b hb => hb) (bt_at ?_); clear hKzz Kzz; try walk_nrm) | (refine bt_skip rfl (by rfl) ?_; try walk_nrm)))
  refine bt_call zgOk (eqbb_R w12 (some ⟨gY, 0, none⟩) (some ⟨g12, 0, none⟩) ts.length ts.length ts ht1 hmt (c12.TY.tks (fun t ht => by have := hmt t ht; unfold maxLen; omega)) (T12.tks (fun t ht => by have := hmt t ht; unfold maxLen; omega))) G12 RTr.i RTr.e rfl (fun s hs => by cases hs) Try.func33 (by kernel_rfl) (by kernel_rfl) rfl (by rfl) rfl (by decide) (by simp [Act.eval]) ?_
  rintro v w13 ⟨rfl, b13⟩
  try walk_nrm
  have c13 := c12.bel b13
  clear b12 T12 c12 G12
  (repeat (first | (first | refine bt_ctl rfl (fun _ => stepG_seq) ?_ | refine bt_ctl rfl (fun _ => stepG_skip) ?_ | refine bt_ctl rfl (fun _ => stepG_region_end) ?_ | refine bt_ctl rfl (fun _ => stepG_ret') ?_ | (refine bt_ctl rfl (fun _ => stepG_region) ?_; simp only [List.size_toArray, List.length_cons, List.length_nil, Nat.reduceAdd, Nat.zero_add, List.range, List.range.loop])) | (refine bt_cons zgOk.bodied rfl (by rfl) (by decide) (by decide) (fun dzz Kzz hKzz => ?_); go_simp; refine hKzz _ _ (fun b hb => hb) (bt_at ?_); clear hKzz Kzz; try walk_nrm) | (refine bt_skip rfl (by rfl) ?_; try walk_nrm)))
  (refine bt_ctl rfl (fun _ => stepG_cond (t := false) rfl) ?_; simp only [if_true, if_false, Bool.false_eq_true, ↓reduceIte])
  (repeat (first | (first | refine bt_ctl rfl (fun _ => stepG_seq) ?_ | refine bt_ctl rfl (fun _ => stepG_skip) ?_ | refine bt_ctl rfl (fun _ => stepG_region_end) ?_ | refine bt_ctl rfl (fun _ => stepG_ret') ?_ | (refine bt_ctl rfl (fun _ => stepG_region) ?_; simp only [List.size_toArray, List.length_cons, List.length_nil, Nat.reduceAdd, Nat.zero_add, List.range, List.range.loop])) | (refine bt_cons zgOk.bodied rfl (by rfl) (by decide) (by decide) (fun dzz Kzz hKzz => ?_); go_simp; refine hKzz _ _ (fun b hb => hb) (bt_at ?_); clear hKzz Kzz; try walk_nrm) | (refine bt_skip rfl (by rfl) ?_; try walk_nrm)))
  exact hk _ _ _ _ _ _ _ _ _ _ _ _ _ _ _ _ _ _ _ _ _ _ _ _ _ _ _ _ _ _ _ _ _ _ _ _ _ _ _ _ _ _ _ _ _ _ _ _ _ _ _ _ _ _ _ _ _ _ _ _ _ _ _ _ _ _ _ _ _ _ _ _ _ _ _ _ _ _ _ _ _ _ _ _ _ _ _ _ _ _ _ _ _ _ _ _ _ _ _ _ _ _ _ _ _ _ _ _ _ _ _ _ c13
end Go.Proofs.Ytpdnceeniokemaa

set_option linter.unusedVariables false
set_option linter.unusedSimpArgs false
namespace Go.Proofs.Ytpdnceeniokemaa
open Go Go.Conc Go.RowKit
open Go.Proofs.Ytpdnceeniokemaa.Bb (Tks TO TW tot)
open Go.Proofs.Ytpdnceeniokemaa.Wk (El BodiesV Bel dig_B valsE)
open Go.Proofs.Ytpdnceeniokemaa.Br (BT BTS Hd Pz Pst CallsB bt_ctl bt_cons bt_skip bt_callB bt_call rt AtEnd0)
set_option maxRecDepth 100000 in
set_option maxHeartbeats 8000000 in
theorem lawPkC [Br.Thr] (b d : Option Addr) (cb cd : Nat) (ns : List ByteArray) (ts : List (List Int)) (w : World) (hg : Br.GC Try.prog w) (hTh : Br.Thr.N ≤ w.heap.size) (hs : Sts w b ns) (hb : Tks w d ts) (n1 : ns.length ≤ 1048576) (hT : ts.length + tot ts ≤ 1048576) (ht1 : ts.length ≤ 1048576) (hmt : ∀ t ∈ ts, t.length ≤ 1048576) (pS gS cS pX gX lo hi gY pG gG cG : Nat) (LG : List Kl) (okG : Bool) (hLn : LG.length ≤ 1048576) (u : World) (c : Pk1 w u pS gS cS pX gX lo hi gY pG gG cG ns ts LG) (rest : Code) (v2 v3 v4 v5 v12 v13 v14 v15 v16 v17 v18 v19 v20 v21 v22 v23 v24 v25 v26 v27 v28 v29 v30 v31 v32 v33 v34 v35 v36 v37 v38 v39 v40 v41 v42 v43 v44 v45 v46 v47 v48 v49 v50 v51 v52 v53 v54 v55 v56 v57 v58 v59 v60 v61 v62 v63 v64 v65 v66 v67 v68 v69 v70 v71 v72 v73 v74 v75 v76 v77 v78 v79 v80 v81 v82 v83 v84 v85 v86 v87 v88 v89 v90 v91 v92 v93 v94 v95 v96 v97 v98 v99 v100 v101 v102 v103 v104 v105 v106 v107 v108 v109 v110 v111 v112 v113 v114 v115 v116 v117 v118 : Value)
    (hk : ∀ (v2 v3 v4 v5 v12 v13 v14 v15 v16 v17 v18 v19 v20 v21 v22 v23 v24 v25 v26 v27 v28 v29 v30 v31 v32 v33 v34 v35 v36 v37 v38 v39 v40 v41 v42 v43 v44 v45 v46 v47 v48 v49 v50 v51 v52 v53 v54 v55 v56 v57 v58 v59 v60 v61 v62 v63 v64 v65 v66 v67 v68 v69 v70 v71 v72 v73 v74 v75 v76 v77 v78 v79 v80 v81 v82 v83 v84 v85 v86 v87 v88 v89 v90 v91 v92 v93 v94 v95 v96 v97 v98 v99 v100 v101 v102 v103 v104 v105 v106 v107 v108 v109 v110 v111 v112 v113 v114 v115 v116 v117 v118 : Value) (u' : World), Pk2 w u' pS gS cS pG gG cG LG → BT Try.prog (AtEnd0 Try.prog (PostL w)) (G ((base 6).at ⟨#[.slice b ns.length cb, .slice d ts.length cd, v2, v3, v4, v5, .slice (some ⟨gS, 0, none⟩) LG.length cS, .bool okG, .slice (some ⟨gX, 0, none⟩) ns.length ns.length, .slice (some ⟨gY, 0, none⟩) ts.length ts.length, .slice (some ⟨gG, 0, none⟩) LG.length cG, .bool okG, v12, v13, v14, v15, v16, v17, v18, v19, v20, v21, v22, v23, v24, v25, v26, v27, v28, v29, v30, v31, v32, v33, v34, v35, v36, v37, v38, v39, v40, v41, v42, v43, v44, v45, v46, v47, v48, v49, v50, v51, v52, v53, v54, v55, v56, v57, v58, v59, v60, v61, v62, v63, v64, v65, v66, v67, v68, v69, v70, v71, v72, v73, v74, v75, v76, v77, v78, v79, v80, v81, v82, v83, v84, v85, v86, v87, v88, v89, v90, v91, v92, v93, v94, v95, v96, v97, v98, v99, v100, v101, v102, v103, v104, v105, v106, v107, v108, v109, v110, v111, v112, v113, v114, v115, v116, v117, v118], []⟩ [.code rest]) []) u') :
    BT Try.prog (AtEnd0 Try.prog (PostL w)) (G ((base 6).at ⟨#[.slice b ns.length cb, .slice d ts.length cd, v2, v3, v4, v5, .slice (some ⟨gS, 0, none⟩) LG.length cS, .bool okG, .slice (some ⟨gX, 0, none⟩) ns.length ns.length, .slice (some ⟨gY, 0, none⟩) ts.length ts.length, .slice (some ⟨gG, 0, none⟩) LG.length cG, .bool okG, v12, v13, v14, v15, v16, v17, v18, v19, v20, v21, v22, v23, v24, v25, v26, v27, v28, v29, v30, v31, v32, v33, v34, v35, v36, v37, v38, v39, v40, v41, v42, v43, v44, v45, v46, v47, v48, v49, v50, v51, v52, v53, v54, v55, v56, v57, v58, v59, v60, v61, v62, v63, v64, v65, v66, v67, v68, v69, v70, v71, v72, v73, v74, v75, v76, v77, v78, v79, v80, v81, v82, v83, v84, v85, v86, v87, v88, v89, v90, v91, v92, v93, v94, v95, v96, v97, v98, v99, v100, v101, v102, v103, v104, v105, v106, v107, v108, v109, v110, v111, v112, v113, v114, v115, v116, v117, v118], []⟩ [.code (.seq (st 13 (Try.f6.body.getD .skip)) (.seq (st 14 (Try.f6.body.getD .skip)) (.seq (st 15 (Try.f6.body.getD .skip)) (.seq (st 16 (Try.f6.body.getD .skip)) rest))))]) []) u := by
  simp only [st, Try.f6, Option.getD_some]
  have hbb : (okG != okG) = false := by simp
  obtain ⟨K1, hK1⟩ : ∃ K : Int, (1 : Int) + (ns.length : Int) = K := ⟨_, rfl⟩
  have G0 := gc_bel c.B hg
  (repeat (first | (first | refine bt_ctl rfl (fun _ => stepG_seq) ?_ | refine bt_ctl rfl (fun _ => stepG_skip) ?_ | refine bt_ctl rfl (fun _ => stepG_region_end) ?_ | refine bt_ctl rfl (fun _ => stepG_ret') ?_ | (refine bt_ctl rfl (fun _ => stepG_region) ?_; simp only [List.size_toArray, List.length_cons, List.length_nil, Nat.reduceAdd, Nat.zero_add, List.range, List.range.loop])) | (refine bt_cons zgOk.bodied rfl (by rfl) (by decide) (by decide) (fun dzz Kzz hKzz => ?_); go_simp; refine hKzz _ _ (fun b hb => hb) (bt_at ?_); clear hKzz Kzz; try walk_nrm) | (refine bt_skip rfl (by rfl) ?_; try walk_nrm)))
  refine bt_call zgOk (markS_R u pX gX ns.length ns.length 1 _ (by omega) (by decide) (by decide) c.oX) G0 R34.i R34.e rfl (fun s hs => by cases hs) Try.func34 (by kernel_rfl) (by kernel_rfl) rfl (by rfl) rfl (by decide) (by simp [Act.eval]) ?_
  rintro v w14 ⟨rfl, r14, m14, k14⟩
  rw [hK1]
  try walk_nrm
  have q0 : (1 : Int) ≤ K1 := by omega
  have q1 : K1 ≤ 4000000 := by omega
  have hh1 := hide hK1
  clear hK1
  have B14 : Bel w.heap.size w w14 := bel_gro c.B m14 c.x0
  have T14 : TW lo hi w14 gY ts := tw_gro c.TY.tw m14 c.TY.ge c.x1
  have G14 := gc_bel B14 hg
  (repeat (first | (first | refine bt_ctl rfl (fun _ => stepG_seq) ?_ | refine bt_ctl rfl (fun _ => stepG_skip) ?_ | refine bt_ctl rfl (fun _ => stepG_region_end) ?_ | refine bt_ctl rfl (fun _ => stepG_ret') ?_ | (refine bt_ctl rfl (fun _ => stepG_region) ?_; simp only [List.size_toArray, List.length_cons, List.length_nil, Nat.reduceAdd, Nat.zero_add, List.range, List.range.loop])) | (refine bt_cons zgOk.bodied rfl (by rfl) (by decide) (by decide) (fun dzz Kzz hKzz => ?_); go_simp; refine hKzz _ _ (fun b hb => hb) (bt_at ?_); clear hKzz Kzz; try walk_nrm) | (refine bt_skip rfl (by rfl) ?_; try walk_nrm)))
  refine bt_call zgOk (markbb_R w14 lo hi gY ts.length ts hT K1 q0 q1 T14) G14 R35.i R35.e rfl (fun s hs => by cases hs) Try.func35 (by kernel_rfl) (by kernel_rfl) rfl (by rfl) rfl (by decide) (by simp [Act.eval]) ?_
  rintro v w15 h15
  have c15 := c.marked m14 h15
  obtain ⟨r, rfl, hr, -⟩ := h15
  try walk_nrm
  have hr0 : decide (r < 0) = false := by simp; omega
  clear r14 m14 k14 B14 T14 G14 q0 q1 hh1
  have G15 := gc_bel c15.B hg
  (repeat (first | (first | refine bt_ctl rfl (fun _ => stepG_seq) ?_ | refine bt_ctl rfl (fun _ => stepG_skip) ?_ | refine bt_ctl rfl (fun _ => stepG_region_end) ?_ | refine bt_ctl rfl (fun _ => stepG_ret') ?_ | (refine bt_ctl rfl (fun _ => stepG_region) ?_; simp only [List.size_toArray, List.length_cons, List.length_nil, Nat.reduceAdd, Nat.zero_add, List.range, List.range.loop])) | (refine bt_cons zgOk.bodied rfl (by rfl) (by decide) (by decide) (fun dzz Kzz hKzz => ?_); go_simp; refine hKzz _ _ (fun b hb => hb) (bt_at ?_); clear hKzz Kzz; try walk_nrm) | (refine bt_skip rfl (by rfl) ?_; try walk_nrm)))
  refine bt_call zgOk (eqks_R w15 (some ⟨gG, 0, none⟩) (some ⟨gS, 0, none⟩) cG cS LG hLn (kls_own c15.oG) (kls_own c15.oS)) G15 RTr.i RTr.e rfl (fun s hs => by cases hs) Try.func25 (by kernel_rfl) (by kernel_rfl) rfl (by rfl) rfl (by decide) (by simp [Act.eval]) ?_
  rintro v w16 ⟨rfl, b16⟩
  try walk_nrm
  have c16 := c15.bel b16
  clear c15 G15
  (repeat (first | (first | refine bt_ctl rfl (fun _ => stepG_seq) ?_ | refine bt_ctl rfl (fun _ => stepG_skip) ?_ | refine bt_ctl rfl (fun _ => stepG_region_end) ?_ | refine bt_ctl rfl (fun _ => stepG_ret') ?_ | (refine bt_ctl rfl (fun _ => stepG_region) ?_; simp only [List.size_toArray, List.length_cons, List.length_nil, Nat.reduceAdd, Nat.zero_add, List.range, List.range.loop])) | (refine bt_cons zgOk.bodied rfl (by rfl) (by decide) (by decide) (fun dzz Kzz hKzz => ?_); go_simp; refine hKzz _ _ (fun b hb => hb) (bt_at ?_); clear hKzz Kzz; try walk_nrm) | (refine bt_skip rfl (by rfl) ?_; try walk_nrm)))
  (refine bt_ctl rfl (fun _ => stepG_cond (t := false) rfl) ?_; simp only [if_true, if_false, Bool.false_eq_true, ↓reduceIte])
  (repeat (first | (first | refine bt_ctl rfl (fun _ => stepG_seq) ?_ | refine bt_ctl rfl (fun _ => stepG_skip) ?_ | refine bt_ctl rfl (fun _ => stepG_region_end) ?_ | refine bt_ctl rfl (fun _ => stepG_ret') ?_ | (refine bt_ctl rfl (fun _ => stepG_region) ?_; simp only [List.size_toArray, List.length_cons, List.length_nil, Nat.reduceAdd, Nat.zero_add, List.range, List.range.loop])) | (refine bt_cons zgOk.bodied rfl (by rfl) (by decide) (by decide) (fun dzz Kzz hKzz => ?_); go_simp; refine hKzz _ _ (fun b hb => hb) (bt_at ?_); clear hKzz Kzz; try walk_nrm) | (refine bt_skip rfl (by rfl) ?_; try walk_nrm)))
  exact hk _ _ _ _ _ _ _ _ _ _ _ _ _ _ _ _ _ _ _ _ _ _ _ _ _ _ _ _ _ _ _ _ _ _ _ _ _ _ _ _ _ _ _ _ _ _ _ _ _ _ _ _ _ _ _ _ _ _ _ _ _ _ _ _ _ _ _ _ _ _ _ _ _ _ _ _ _ _ _ _ _ _ _ _ _ _ _ _ _ _ _ _ _ _ _ _ _ _ _ _ _ _ _ _ _ _ _ _ _ _ _ _ c16
end Go.Proofs.Ytpdnceeniokemaa

set_option linter.unusedVariables false
set_option linter.unusedSimpArgs false
namespace Go.Proofs.Ytpdnceeniokemaa
open Go Go.Conc Go.RowKit
open Go.Proofs.Ytpdnceeniokemaa.Bb (Tks TO TW tot)
open Go.Proofs.Ytpdnceeniokemaa.Wk (El BodiesV Bel dig_B valsE)
open Go.Proofs.Ytpdnceeniokemaa.Br (BT BTS Hd Pz Pst CallsB bt_ctl bt_cons bt_skip bt_callB bt_call rt AtEnd0)
set_option maxRecDepth 100000 in
set_option maxHeartbeats 8000000 in
theorem lawPkD [Br.Thr] (b d : Option Addr) (cb cd : Nat) (ns : List ByteArray) (ts : List (List Int)) (w : World) (hg : Br.GC Try.prog w) (hTh : Br.Thr.N ≤ w.heap.size) (hs : Sts w b ns) (hb : Tks w d ts) (n1 : ns.length ≤ 1048576) (hT : ts.length + tot ts ≤ 1048576) (ht1 : ts.length ≤ 1048576) (hmt : ∀ t ∈ ts, t.length ≤ 1048576) (pS gS cS pX gX lo hi gY pG gG cG : Nat) (LG : List Kl) (okG : Bool) (hLn : LG.length ≤ 1048576) (M : Int) (hM : (1 : Int) + (LG.length : Int) * 3 = M) (u : World) (c : Pk2 w u pS gS cS pG gG cG LG) (rest : Code) (v2 v3 v4 v5 v12 v13 v14 v15 v16 v17 v18 v19 v20 v21 v22 v23 v24 v25 v26 v27 v28 v29 v30 v31 v32 v33 v34 v35 v36 v37 v38 v39 v40 v41 v42 v43 v44 v45 v46 v47 v48 v49 v50 v51 v52 v53 v54 v55 v56 v57 v58 v59 v60 v61 v62 v63 v64 v65 v66 v67 v68 v69 v70 v71 v72 v73 v74 v75 v76 v77 v78 v79 v80 v81 v82 v83 v84 v85 v86 v87 v88 v89 v90 v91 v92 v93 v94 v95 v96 v97 v98 v99 v100 v101 v102 v103 v104 v105 v106 v107 v108 v109 v110 v111 v112 v113 v114 v115 v116 v117 v118 : Value)
    (hk : ∀ (v2 v3 v4 v5 v12 v14 v15 v16 v17 v18 v19 v20 v21 v22 v23 v24 v25 v26 v27 v28 v29 v30 v31 v32 v33 v34 v35 v36 v37 v38 v39 v40 v41 v42 v43 v44 v45 v46 v47 v48 v49 v50 v51 v52 v53 v54 v55 v56 v57 v58 v59 v60 v61 v62 v63 v64 v65 v66 v67 v68 v69 v70 v71 v72 v73 v74 v75 v76 v77 v78 v79 v80 v81 v82 v83 v84 v85 v86 v87 v88 v89 v90 v91 v92 v93 v94 v95 v96 v97 v98 v99 v100 v101 v102 v103 v104 v105 v106 v107 v108 v109 v110 v111 v112 v113 v114 v115 v116 v117 v118 : Value) (u' : World), Pk3 w u' pS gS cS pG gG cG LG → BT Try.prog (AtEnd0 Try.prog (PostL w)) (G ((base 6).at ⟨#[.slice b ns.length cb, .slice d ts.length cd, v2, v3, v4, v5, .slice (some ⟨gS, 0, none⟩) LG.length cS, .bool okG, .slice (some ⟨gX, 0, none⟩) ns.length ns.length, .slice (some ⟨gY, 0, none⟩) ts.length ts.length, .slice (some ⟨gG, 0, none⟩) LG.length cG, .bool okG, v12, .int .i64 M, v14, v15, v16, v17, v18, v19, v20, v21, v22, v23, v24, v25, v26, v27, v28, v29, v30, v31, v32, v33, v34, v35, v36, v37, v38, v39, v40, v41, v42, v43, v44, v45, v46, v47, v48, v49, v50, v51, v52, v53, v54, v55, v56, v57, v58, v59, v60, v61, v62, v63, v64, v65, v66, v67, v68, v69, v70, v71, v72, v73, v74, v75, v76, v77, v78, v79, v80, v81, v82, v83, v84, v85, v86, v87, v88, v89, v90, v91, v92, v93, v94, v95, v96, v97, v98, v99, v100, v101, v102, v103, v104, v105, v106, v107, v108, v109, v110, v111, v112, v113, v114, v115, v116, v117, v118], []⟩ [.code rest]) []) u') :
    BT Try.prog (AtEnd0 Try.prog (PostL w)) (G ((base 6).at ⟨#[.slice b ns.length cb, .slice d ts.length cd, v2, v3, v4, v5, .slice (some ⟨gS, 0, none⟩) LG.length cS, .bool okG, .slice (some ⟨gX, 0, none⟩) ns.length ns.length, .slice (some ⟨gY, 0, none⟩) ts.length ts.length, .slice (some ⟨gG, 0, none⟩) LG.length cG, .bool okG, v12, v13, v14, v15, v16, v17, v18, v19, v20, v21, v22, v23, v24, v25, v26, v27, v28, v29, v30, v31, v32, v33, v34, v35, v36, v37, v38, v39, v40, v41, v42, v43, v44, v45, v46, v47, v48, v49, v50, v51, v52, v53, v54, v55, v56, v57, v58, v59, v60, v61, v62, v63, v64, v65, v66, v67, v68, v69, v70, v71, v72, v73, v74, v75, v76, v77, v78, v79, v80, v81, v82, v83, v84, v85, v86, v87, v88, v89, v90, v91, v92, v93, v94, v95, v96, v97, v98, v99, v100, v101, v102, v103, v104, v105, v106, v107, v108, v109, v110, v111, v112, v113, v114, v115, v116, v117, v118], []⟩ [.code (.seq (st 17 (Try.f6.body.getD .skip)) (.seq (st 18 (Try.f6.body.getD .skip)) (.seq (st 19 (Try.f6.body.getD .skip)) (.seq (st 20 (Try.f6.body.getD .skip)) (.seq (st 21 (Try.f6.body.getD .skip)) (.seq (st 22 (Try.f6.body.getD .skip)) rest))))))]) []) u := by
  simp only [st, Try.f6, Option.getD_some]
  have G0 := gc_bel c.B hg
  (repeat (first | (first | refine bt_ctl rfl (fun _ => stepG_seq) ?_ | refine bt_ctl rfl (fun _ => stepG_skip) ?_ | refine bt_ctl rfl (fun _ => stepG_region_end) ?_ | refine bt_ctl rfl (fun _ => stepG_ret') ?_ | (refine bt_ctl rfl (fun _ => stepG_region) ?_; simp only [List.size_toArray, List.length_cons, List.length_nil, Nat.reduceAdd, Nat.zero_add, List.range, List.range.loop])) | (refine bt_cons zgOk.bodied rfl (by rfl) (by decide) (by decide) (fun dzz Kzz hKzz => ?_); go_simp; refine hKzz _ _ (fun b hb => hb) (bt_at ?_); clear hKzz Kzz; try walk_nrm) | (refine bt_skip rfl (by rfl) ?_; try walk_nrm)))
  refine bt_call zgOk (markA_R u pG gG LG.length cG 1 _ (by omega) (by decide) (by decide) c.oG) G0 R36.i R36.e rfl (fun s hs => by cases hs) Try.func36 (by kernel_rfl) (by kernel_rfl) rfl (by rfl) rfl (by decide) (by simp [Act.eval]) ?_
  rintro v w17 ⟨rfl, r17, m17, k17⟩
  rw [hM]
  try walk_nrm
  have c17 : Pk3 w w17 pS gS cS pG gG cG LG := ⟨bel_gro c.B m17 c.g0, own_gro m17 c.gs c.oS, r17⟩
  obtain ⟨ys, y1, y2⟩ := r17
  have G17 := gc_bel c17.B hg
  (repeat (first | (first | refine bt_ctl rfl (fun _ => stepG_seq) ?_ | refine bt_ctl rfl (fun _ => stepG_skip) ?_ | refine bt_ctl rfl (fun _ => stepG_region_end) ?_ | refine bt_ctl rfl (fun _ => stepG_ret') ?_ | (refine bt_ctl rfl (fun _ => stepG_region) ?_; simp only [List.size_toArray, List.length_cons, List.length_nil, Nat.reduceAdd, Nat.zero_add, List.range, List.range.loop])) | (refine bt_cons zgOk.bodied rfl (by rfl) (by decide) (by decide) (fun dzz Kzz hKzz => ?_); go_simp; refine hKzz _ _ (fun b hb => hb) (bt_at ?_); clear hKzz Kzz; try walk_nrm) | (refine bt_skip rfl (by rfl) ?_; try walk_nrm)))
  refine bt_call zgOk (heldA_R w17 pG gG LG.length cG 1 ys (by omega) (by decide) (by decide) y1 y2) G17 R37.i R37.e rfl (fun s hs => by cases hs) Try.func37 (by kernel_rfl) (by kernel_rfl) rfl (by rfl) rfl (by decide) (by simp [Act.eval]) ?_
  rintro v w18 ⟨rfl, b18⟩
  rw [hM]
  try walk_nrm
  have hk0 : decide (M < 0) = false := by simp; omega
  have hk1 : (M != M) = false := by simp
  have hh1 := hide hM
  clear hM
  have c18 := c17.bel b18
  clear c17 G17 y1 y2 ys m17 k17 c G0
  (repeat (first | (first | refine bt_ctl rfl (fun _ => stepG_seq) ?_ | refine bt_ctl rfl (fun _ => stepG_skip) ?_ | refine bt_ctl rfl (fun _ => stepG_region_end) ?_ | refine bt_ctl rfl (fun _ => stepG_ret') ?_ | (refine bt_ctl rfl (fun _ => stepG_region) ?_; simp only [List.size_toArray, List.length_cons, List.length_nil, Nat.reduceAdd, Nat.zero_add, List.range, List.range.loop])) | (refine bt_cons zgOk.bodied rfl (by rfl) (by decide) (by decide) (fun dzz Kzz hKzz => ?_); go_simp; refine hKzz _ _ (fun b hb => hb) (bt_at ?_); clear hKzz Kzz; try walk_nrm) | (refine bt_skip rfl (by rfl) ?_; try walk_nrm)))
  (refine bt_ctl rfl (fun _ => stepG_cond (t := false) rfl) ?_; simp only [if_true, if_false, Bool.false_eq_true, ↓reduceIte])
  (repeat (first | (first | refine bt_ctl rfl (fun _ => stepG_seq) ?_ | refine bt_ctl rfl (fun _ => stepG_skip) ?_ | refine bt_ctl rfl (fun _ => stepG_region_end) ?_ | refine bt_ctl rfl (fun _ => stepG_ret') ?_ | (refine bt_ctl rfl (fun _ => stepG_region) ?_; simp only [List.size_toArray, List.length_cons, List.length_nil, Nat.reduceAdd, Nat.zero_add, List.range, List.range.loop])) | (refine bt_cons zgOk.bodied rfl (by rfl) (by decide) (by decide) (fun dzz Kzz hKzz => ?_); go_simp; refine hKzz _ _ (fun b hb => hb) (bt_at ?_); clear hKzz Kzz; try walk_nrm) | (refine bt_skip rfl (by rfl) ?_; try walk_nrm)))
  (refine bt_ctl rfl (fun _ => stepG_cond (t := false) rfl) ?_; simp only [if_true, if_false, Bool.false_eq_true, ↓reduceIte])
  (repeat (first | (first | refine bt_ctl rfl (fun _ => stepG_seq) ?_ | refine bt_ctl rfl (fun _ => stepG_skip) ?_ | refine bt_ctl rfl (fun _ => stepG_region_end) ?_ | refine bt_ctl rfl (fun _ => stepG_ret') ?_ | (refine bt_ctl rfl (fun _ => stepG_region) ?_; simp only [List.size_toArray, List.length_cons, List.length_nil, Nat.reduceAdd, Nat.zero_add, List.range, List.range.loop])) | (refine bt_cons zgOk.bodied rfl (by rfl) (by decide) (by decide) (fun dzz Kzz hKzz => ?_); go_simp; refine hKzz _ _ (fun b hb => hb) (bt_at ?_); clear hKzz Kzz; try walk_nrm) | (refine bt_skip rfl (by rfl) ?_; try walk_nrm)))
  exact hk _ _ _ _ _ _ _ _ _ _ _ _ _ _ _ _ _ _ _ _ _ _ _ _ _ _ _ _ _ _ _ _ _ _ _ _ _ _ _ _ _ _ _ _ _ _ _ _ _ _ _ _ _ _ _ _ _ _ _ _ _ _ _ _ _ _ _ _ _ _ _ _ _ _ _ _ _ _ _ _ _ _ _ _ _ _ _ _ _ _ _ _ _ _ _ _ _ _ _ _ _ _ _ _ _ _ _ _ _ _ _ c18
end Go.Proofs.Ytpdnceeniokemaa
