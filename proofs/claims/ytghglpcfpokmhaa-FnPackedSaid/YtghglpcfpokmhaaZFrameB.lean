/-
  FnPacked: its first piece.
  FnPacked: from its entry to its return.
  Closed facts of the program that the frame of each law's proof takes; how an argument that is a list of bytes is opened; no conditions.
  How an argument that is a list of bytes is opened; no conditions.
-/
import Derived.Test.YtghglpcfpokmhaaZXk
import Derived.Test.YtghglpcfpokmhaaZXi
import Derived.Test.YtghglpcfpokmhaaRows
import Derived.Test.YtghglpcfpokmhaaZDg
import Derived.ProofKit
import Derived.OpenShut
import Derived.ShutString
import Derived.ChangeOld
import Derived.Deep.Slices
import Derived.Deep.Strs
import Derived.Lib.SmallJoins
import Derived.Test.YtghglpcfpokmhaaZDrC
set_option linter.unusedVariables false
set_option linter.unusedSimpArgs false
namespace Go.Proofs.Ytghglpcfpokmhaa
open Go Go.Conc Go.RowKit
open Go.Proofs.Ytghglpcfpokmhaa.Wk (El BodiesV Bel)
open Go.Proofs.Ytghglpcfpokmhaa.Br (BT BTS Hd Pz Pst CallsB bt_ctl bt_cons bt_skip bt_callB bt_call rt AtEnd0)
set_option maxRecDepth 100000 in
set_option maxHeartbeats 8000000 in
theorem lawA [Br.Thr] (a : Option Addr) (len cap : Nat) (W : World) (hg : Br.GC Try.prog W) (hTh : Br.Thr.N ≤ W.heap.size) (hr : RdB W W.heap.size a len) (rest : Code)
    (hk : ∀ (gn cn gb cb pL gL cL : Nat) (ns : List ByteArray) (zs : List El) (ts : List (List Int)) (L : List Kl) (v1 v2 v6 v7 v8 v9 v10 v11 v12 v13 v14 v15 v16 v17 v18 v19 v20 v21 v22 v23 v24 v25 v26 v27 v28 v29 v30 v31 v32 v33 v34 v35 v36 v37 v38 v39 v40 v41 v42 v43 v44 v45 v46 v47 v48 v49 v50 v51 v52 v53 v54 v55 v56 v57 v58 v59 v60 v61 v62 v63 v64 v65 v66 v67 v68 v69 v70 v71 v72 v73 v74 v75 v76 v77 v78 v79 v80 v81 v82 v83 v84 v85 v86 v87 v88 v89 v90 v91 v92 v93 v94 v95 v96 v97 v98 v99 v100 v101 v102 v103 v104 v105 v106 v107 v108 v109 v110 v111 v112 v113 v114 v115 v116 v117 v118 v119 v120 v121 v122 v123 v124 v125 v126 v127 v128 v129 v130 v131 v132 v133 v134 v135 v136 v137 v138 v139 v140 v141 v142 v143 v144 v145 v146 v147 v148 v149 v150 v151 v152 v153 v154 v155 v156 v157 v158 v159 v160 v161 v162 v163 v164 v165 v166 v167 v168 v169 v170 v171 v172 v173 v174 v175 v176 v177 v178 v179 v180 v181 v182 v183 v184 v185 v186 v187 v188 v189 v190 v191 v192 v193 v194 v195 v196 v197 v198 v199 v200 : Value) (w2 u' : World), len ≤ 4096 → Dn w2 gn gb ns zs → zs.map (·.l) = ts → PkQ ns ts L true → Pq W w2 u' pL gL cL L → BT Try.prog (AtEnd0 Try.prog (PostL W)) (G ((base 3).at ⟨#[.slice a len cap, v1, v2, .slice (some ⟨gn, 0, none⟩) ns.length cn, .slice (some ⟨gb, 0, none⟩) zs.length cb, .slice (some ⟨gL, 0, none⟩) L.length cL, v6, v7, v8, v9, v10, v11, v12, v13, v14, v15, v16, v17, v18, v19, v20, v21, v22, v23, v24, v25, v26, v27, v28, v29, v30, v31, v32, v33, v34, v35, v36, v37, v38, v39, v40, v41, v42, v43, v44, v45, v46, v47, v48, v49, v50, v51, v52, v53, v54, v55, v56, v57, v58, v59, v60, v61, v62, v63, v64, v65, v66, v67, v68, v69, v70, v71, v72, v73, v74, v75, v76, v77, v78, v79, v80, v81, v82, v83, v84, v85, v86, v87, v88, v89, v90, v91, v92, v93, v94, v95, v96, v97, v98, v99, v100, v101, v102, v103, v104, v105, v106, v107, v108, v109, v110, v111, v112, v113, v114, v115, v116, v117, v118, v119, v120, v121, v122, v123, v124, v125, v126, v127, v128, v129, v130, v131, v132, v133, v134, v135, v136, v137, v138, v139, v140, v141, v142, v143, v144, v145, v146, v147, v148, v149, v150, v151, v152, v153, v154, v155, v156, v157, v158, v159, v160, v161, v162, v163, v164, v165, v166, v167, v168, v169, v170, v171, v172, v173, v174, v175, v176, v177, v178, v179, v180, v181, v182, v183, v184, v185, v186, v187, v188, v189, v190, v191, v192, v193, v194, v195, v196, v197, v198, v199, v200], []⟩ [.code rest]) []) u') :
    BT Try.prog (AtEnd0 Try.prog (PostL W)) (G ((base 3).at ⟨#[.slice a len cap, undef, undef, undef, undef, undef, undef, undef, undef, undef, undef, undef, undef, undef, undef, undef, undef, undef, undef, undef, undef, undef, undef, undef, undef, undef, undef, undef, undef, undef, undef, undef, undef, undef, undef, undef, undef, undef, undef, undef, undef, undef, undef, undef, undef, undef, undef, undef, undef, undef, undef, undef, undef, undef, undef, undef, undef, undef, undef, undef, undef, undef, undef, undef, undef, undef, undef, undef, undef, undef, undef, undef, undef, undef, undef, undef, undef, undef, undef, undef, undef, undef, undef, undef, undef, undef, undef, undef, undef, undef, undef, undef, undef, undef, undef, undef, undef, undef, undef, undef, undef, undef, undef, undef, undef, undef, undef, undef, undef, undef, undef, undef, undef, undef, undef, undef, undef, undef, undef, undef, undef, undef, undef, undef, undef, undef, undef, undef, undef, undef, undef, undef, undef, undef, undef, undef, undef, undef, undef, undef, undef, undef, undef, undef, undef, undef, undef, undef, undef, undef, undef, undef, undef, undef, undef, undef, undef, undef, undef, undef, undef, undef, undef, undef, undef, undef, undef, undef, undef, undef, undef, undef, undef, undef, undef, undef, undef, undef, undef, undef, undef, undef, undef, undef, undef, undef, undef, undef, undef, undef, undef, undef, undef, undef, undef, undef, undef, undef, undef, undef, undef], []⟩ [.code (.seq (st 0 (Try.f3.body.getD .skip)) (.seq (st 1 (Try.f3.body.getD .skip)) (.seq (st 2 (Try.f3.body.getD .skip)) (.seq (st 3 (Try.f3.body.getD .skip)) (.seq (st 4 (Try.f3.body.getD .skip)) (.seq (st 5 (Try.f3.body.getD .skip)) rest))))))]) []) W := by
  simp only [st, Try.f3, Option.getD_some]
  (repeat (first | (first | refine bt_ctl rfl (fun _ => stepG_seq) ?_ | refine bt_ctl rfl (fun _ => stepG_skip) ?_ | refine bt_ctl rfl (fun _ => stepG_region_end) ?_ | refine bt_ctl rfl (fun _ => stepG_ret') ?_ | (refine bt_ctl rfl (fun _ => stepG_region) ?_; simp only [List.size_toArray, List.length_cons, List.length_nil, Nat.reduceAdd, Nat.zero_add, List.range, List.range.loop])) | (refine bt_cons zgOk.bodied rfl (by rfl) (by decide) (by decide) (fun dzz Kzz hKzz => ?_); go_simp; refine hKzz _ _ (fun b hb => hb) (bt_at ?_); clear hKzz Kzz; try walk_nrm) | (refine bt_skip rfl (by rfl) ?_; try walk_nrm)))
  refine bt_call zgOk (big_R W a len cap) hg RPo.i RPo.e rfl (fun s hs => by cases hs) Try.func4 (by kernel_rfl) (by kernel_rfl) rfl (by rfl) rfl (by decide) (by simp [Act.eval]) ?_
  rintro v w1 ⟨rfl, B1⟩
  try walk_nrm
  by_cases hbig : 4096 < len
  · have hd : decide (4096 < len) = true := by simp; omega
    rw [hd]
    try walk_nrm
    (repeat (first | (first | refine bt_ctl rfl (fun _ => stepG_seq) ?_ | refine bt_ctl rfl (fun _ => stepG_skip) ?_ | refine bt_ctl rfl (fun _ => stepG_region_end) ?_ | refine bt_ctl rfl (fun _ => stepG_ret') ?_ | (refine bt_ctl rfl (fun _ => stepG_region) ?_; simp only [List.size_toArray, List.length_cons, List.length_nil, Nat.reduceAdd, Nat.zero_add, List.range, List.range.loop])) | (refine bt_cons zgOk.bodied rfl (by rfl) (by decide) (by decide) (fun dzz Kzz hKzz => ?_); go_simp; refine hKzz _ _ (fun b hb => hb) (bt_at ?_); clear hKzz Kzz; try walk_nrm) | (refine bt_skip rfl (by rfl) ?_; try walk_nrm)))
    (refine bt_ctl rfl (fun _ => stepG_cond (t := true) rfl) ?_; simp only [if_true, if_false, Bool.false_eq_true, ↓reduceIte])
    (repeat (first | (first | refine bt_ctl rfl (fun _ => stepG_seq) ?_ | refine bt_ctl rfl (fun _ => stepG_skip) ?_ | refine bt_ctl rfl (fun _ => stepG_region_end) ?_ | refine bt_ctl rfl (fun _ => stepG_ret') ?_ | (refine bt_ctl rfl (fun _ => stepG_region) ?_; simp only [List.size_toArray, List.length_cons, List.length_nil, Nat.reduceAdd, Nat.zero_add, List.range, List.range.loop])) | (refine bt_cons zgOk.bodied rfl (by rfl) (by decide) (by decide) (fun dzz Kzz hKzz => ?_); go_simp; refine hKzz _ _ (fun b hb => hb) (bt_at ?_); clear hKzz Kzz; try walk_nrm) | (refine bt_skip rfl (by rfl) ?_; try walk_nrm)))
    exact bt_end3 rfl rfl B1
  have hd : decide (4096 < len) = false := by simp; omega
  rw [hd]
  try walk_nrm
  have G1 := gc_bel B1 hg
  clear hd
  (repeat (first | (first | refine bt_ctl rfl (fun _ => stepG_seq) ?_ | refine bt_ctl rfl (fun _ => stepG_skip) ?_ | refine bt_ctl rfl (fun _ => stepG_region_end) ?_ | refine bt_ctl rfl (fun _ => stepG_ret') ?_ | (refine bt_ctl rfl (fun _ => stepG_region) ?_; simp only [List.size_toArray, List.length_cons, List.length_nil, Nat.reduceAdd, Nat.zero_add, List.range, List.range.loop])) | (refine bt_cons zgOk.bodied rfl (by rfl) (by decide) (by decide) (fun dzz Kzz hKzz => ?_); go_simp; refine hKzz _ _ (fun b hb => hb) (bt_at ?_); clear hKzz Kzz; try walk_nrm) | (refine bt_skip rfl (by rfl) ?_; try walk_nrm)))
  (refine bt_ctl rfl (fun _ => stepG_cond (t := false) rfl) ?_; simp only [if_true, if_false, Bool.false_eq_true, ↓reduceIte])
  (repeat (first | (first | refine bt_ctl rfl (fun _ => stepG_seq) ?_ | refine bt_ctl rfl (fun _ => stepG_skip) ?_ | refine bt_ctl rfl (fun _ => stepG_region_end) ?_ | refine bt_ctl rfl (fun _ => stepG_ret') ?_ | (refine bt_ctl rfl (fun _ => stepG_region) ?_; simp only [List.size_toArray, List.length_cons, List.length_nil, Nat.reduceAdd, Nat.zero_add, List.range, List.range.loop])) | (refine bt_cons zgOk.bodied rfl (by rfl) (by decide) (by decide) (fun dzz Kzz hKzz => ?_); go_simp; refine hKzz _ _ (fun b hb => hb) (bt_at ?_); clear hKzz Kzz; try walk_nrm) | (refine bt_skip rfl (by rfl) ?_; try walk_nrm)))
  refine bt_call zgOk (dpk_R w1 a len cap (by omega) (rdb_up (rdb_bel hr B1) B1.size)) G1 RDk.i RDk.e rfl (fun s hs => by cases hs) Try.func5 (by kernel_rfl) (by kernel_rfl) rfl (by rfl) rfl (by decide) (by simp [Act.eval]) ?_
  rintro v w2 ⟨gn, n, cn, ns, gb, m, cb, vs, ts, rfl, n1, m1, oN, oV, tl, rw, nz, b2⟩
  obtain ⟨zs, hzl, hzt, hzv, hzp, hV⟩ := rw_bodies oV tl rw
  have hnl := ownS_len oN
  subst hnl hzl
  try walk_nrm
  have B2 : Bel W.heap.size W w2 := B1.trans (b2.mono B1.size)
  have G2 := gc_bel B2 hg
  have dn : Dn w2 gn gb ns zs := ⟨sts_own oN, hV, hzp, own_lt oV, nz, n1, m1⟩
  clear oN oV rw hV hzp
  (repeat (first | (first | refine bt_ctl rfl (fun _ => stepG_seq) ?_ | refine bt_ctl rfl (fun _ => stepG_skip) ?_ | refine bt_ctl rfl (fun _ => stepG_region_end) ?_ | refine bt_ctl rfl (fun _ => stepG_ret') ?_ | (refine bt_ctl rfl (fun _ => stepG_region) ?_; simp only [List.size_toArray, List.length_cons, List.length_nil, Nat.reduceAdd, Nat.zero_add, List.range, List.range.loop])) | (refine bt_cons zgOk.bodied rfl (by rfl) (by decide) (by decide) (fun dzz Kzz hKzz => ?_); go_simp; refine hKzz _ _ (fun b hb => hb) (bt_at ?_); clear hKzz Kzz; try walk_nrm) | (refine bt_skip rfl (by rfl) ?_; try walk_nrm)))
  refine bt_callB (ipack_B (some ⟨gn, 0, none⟩) (some ⟨gb, 0, none⟩) cn cb ns zs w2 (fun n hn => Nat.le_trans (dn.nz n hn) (by omega)) dn.hs dn.hB G2 (Nat.le_trans hTh B2.size)) Try.func6 (by kernel_rfl) (by kernel_rfl) rfl (by rfl) rfl (by decide) (by simp [Act.eval]) ?_
  rintro v w3 ⟨L, ok, gL, cL, rfl, oL, b3, qL⟩
  rw [hzt] at qL
  try walk_nrm
  have c3 : Pq W w2 w3 w2.heap.size gL cL L := ⟨B2.trans (b3.mono B2.size), b3, oL⟩
  have G3 := gc_bel c3.B hg
  have htl : ts.length = zs.length := by rw [← hzt]; simp
  have hby : ∀ t ∈ ts, Byt t := fun t ht => by rw [← hzt] at ht; obtain ⟨e, he, rfl⟩ := List.mem_map.1 ht; exact (dn.hB.body e he).2.1
  have hbl := (c3.b2.bods dn.hB)
  have htk := bodiesV_tks hbl
  rw [hzt] at htk
  clear b3 oL
  (repeat (first | (first | refine bt_ctl rfl (fun _ => stepG_seq) ?_ | refine bt_ctl rfl (fun _ => stepG_skip) ?_ | refine bt_ctl rfl (fun _ => stepG_region_end) ?_ | refine bt_ctl rfl (fun _ => stepG_ret') ?_ | (refine bt_ctl rfl (fun _ => stepG_region) ?_; simp only [List.size_toArray, List.length_cons, List.length_nil, Nat.reduceAdd, Nat.zero_add, List.range, List.range.loop])) | (refine bt_cons zgOk.bodied rfl (by rfl) (by decide) (by decide) (fun dzz Kzz hKzz => ?_); go_simp; refine hKzz _ _ (fun b hb => hb) (bt_at ?_); clear hKzz Kzz; try walk_nrm) | (refine bt_skip rfl (by rfl) ?_; try walk_nrm)))
  refine bt_call zgOk (spack_R' w3 (some ⟨gn, 0, none⟩) (some ⟨gb, 0, none⟩) cn cb ns ts zs.length htl (Nat.le_trans dn.n1 (by omega)) (by rw [htl]; exact Nat.le_trans dn.z1 (by omega)) (fun n hn => by have := dn.nz n hn; unfold maxLen; omega) hby (c3.b2.sts dn.hs) htk) G3 RPk.i RPk.e rfl (fun s hs => by cases hs) Try.func7 (by kernel_rfl) (by kernel_rfl) rfl (by rfl) rfl (by decide) (by simp [Act.eval]) ?_
  rintro v w4 ⟨M, okM, gM, cM, rfl, oM, b4, qM⟩
  obtain ⟨eL, eo⟩ := PkQ.uniq qM qL
  subst eL eo
  try walk_nrm
  have c4 := c3.bel b4
  have hbb : (okM != okM) = false := by simp
  clear c3 G3 oM b4 hbl htk qM
  (repeat (first | (first | refine bt_ctl rfl (fun _ => stepG_seq) ?_ | refine bt_ctl rfl (fun _ => stepG_skip) ?_ | refine bt_ctl rfl (fun _ => stepG_region_end) ?_ | refine bt_ctl rfl (fun _ => stepG_ret') ?_ | (refine bt_ctl rfl (fun _ => stepG_region) ?_; simp only [List.size_toArray, List.length_cons, List.length_nil, Nat.reduceAdd, Nat.zero_add, List.range, List.range.loop])) | (refine bt_cons zgOk.bodied rfl (by rfl) (by decide) (by decide) (fun dzz Kzz hKzz => ?_); go_simp; refine hKzz _ _ (fun b hb => hb) (bt_at ?_); clear hKzz Kzz; try walk_nrm) | (refine bt_skip rfl (by rfl) ?_; try walk_nrm)))
  (refine bt_ctl rfl (fun _ => stepG_cond (t := false) rfl) ?_; simp only [if_true, if_false, Bool.false_eq_true, ↓reduceIte])
  (repeat (first | (first | refine bt_ctl rfl (fun _ => stepG_seq) ?_ | refine bt_ctl rfl (fun _ => stepG_skip) ?_ | refine bt_ctl rfl (fun _ => stepG_region_end) ?_ | refine bt_ctl rfl (fun _ => stepG_ret') ?_ | (refine bt_ctl rfl (fun _ => stepG_region) ?_; simp only [List.size_toArray, List.length_cons, List.length_nil, Nat.reduceAdd, Nat.zero_add, List.range, List.range.loop])) | (refine bt_cons zgOk.bodied rfl (by rfl) (by decide) (by decide) (fun dzz Kzz hKzz => ?_); go_simp; refine hKzz _ _ (fun b hb => hb) (bt_at ?_); clear hKzz Kzz; try walk_nrm) | (refine bt_skip rfl (by rfl) ?_; try walk_nrm)))
  cases okM with
  | false =>
    have hL0 : M = [] := by
      rcases qL with ⟨h, _⟩ | ⟨_, h, _⟩
      · cases h
      · exact h
    have hz0 : ((M.length : Int) == 0) = true := by rw [hL0]; rfl
    (repeat (first | (first | refine bt_ctl rfl (fun _ => stepG_seq) ?_ | refine bt_ctl rfl (fun _ => stepG_skip) ?_ | refine bt_ctl rfl (fun _ => stepG_region_end) ?_ | refine bt_ctl rfl (fun _ => stepG_ret') ?_ | (refine bt_ctl rfl (fun _ => stepG_region) ?_; simp only [List.size_toArray, List.length_cons, List.length_nil, Nat.reduceAdd, Nat.zero_add, List.range, List.range.loop])) | (refine bt_cons zgOk.bodied rfl (by rfl) (by decide) (by decide) (fun dzz Kzz hKzz => ?_); go_simp; refine hKzz _ _ (fun b hb => hb) (bt_at ?_); clear hKzz Kzz; try walk_nrm) | (refine bt_skip rfl (by rfl) ?_; try walk_nrm)))
    (refine bt_ctl rfl (fun _ => stepG_cond (t := true) rfl) ?_; simp only [if_true, if_false, Bool.false_eq_true, ↓reduceIte])
    (repeat (first | (first | refine bt_ctl rfl (fun _ => stepG_seq) ?_ | refine bt_ctl rfl (fun _ => stepG_skip) ?_ | refine bt_ctl rfl (fun _ => stepG_region_end) ?_ | refine bt_ctl rfl (fun _ => stepG_ret') ?_ | (refine bt_ctl rfl (fun _ => stepG_region) ?_; simp only [List.size_toArray, List.length_cons, List.length_nil, Nat.reduceAdd, Nat.zero_add, List.range, List.range.loop])) | (refine bt_cons zgOk.bodied rfl (by rfl) (by decide) (by decide) (fun dzz Kzz hKzz => ?_); go_simp; refine hKzz _ _ (fun b hb => hb) (bt_at ?_); clear hKzz Kzz; try walk_nrm) | (refine bt_skip rfl (by rfl) ?_; try walk_nrm)))
    exact bt_end3 rfl rfl c4.B
  | true =>
    (repeat (first | (first | refine bt_ctl rfl (fun _ => stepG_seq) ?_ | refine bt_ctl rfl (fun _ => stepG_skip) ?_ | refine bt_ctl rfl (fun _ => stepG_region_end) ?_ | refine bt_ctl rfl (fun _ => stepG_ret') ?_ | (refine bt_ctl rfl (fun _ => stepG_region) ?_; simp only [List.size_toArray, List.length_cons, List.length_nil, Nat.reduceAdd, Nat.zero_add, List.range, List.range.loop])) | (refine bt_cons zgOk.bodied rfl (by rfl) (by decide) (by decide) (fun dzz Kzz hKzz => ?_); go_simp; refine hKzz _ _ (fun b hb => hb) (bt_at ?_); clear hKzz Kzz; try walk_nrm) | (refine bt_skip rfl (by rfl) ?_; try walk_nrm)))
    (refine bt_ctl rfl (fun _ => stepG_cond (t := false) rfl) ?_; simp only [if_true, if_false, Bool.false_eq_true, ↓reduceIte])
    (repeat (first | (first | refine bt_ctl rfl (fun _ => stepG_seq) ?_ | refine bt_ctl rfl (fun _ => stepG_skip) ?_ | refine bt_ctl rfl (fun _ => stepG_region_end) ?_ | refine bt_ctl rfl (fun _ => stepG_ret') ?_ | (refine bt_ctl rfl (fun _ => stepG_region) ?_; simp only [List.size_toArray, List.length_cons, List.length_nil, Nat.reduceAdd, Nat.zero_add, List.range, List.range.loop])) | (refine bt_cons zgOk.bodied rfl (by rfl) (by decide) (by decide) (fun dzz Kzz hKzz => ?_); go_simp; refine hKzz _ _ (fun b hb => hb) (bt_at ?_); clear hKzz Kzz; try walk_nrm) | (refine bt_skip rfl (by rfl) ?_; try walk_nrm)))
    exact hk gn cn gb cb _ gL cL ns zs ts M _ _ _ _ _ _ _ _ _ _ _ _ _ _ _ _ _ _ _ _ _ _ _ _ _ _ _ _ _ _ _ _ _ _ _ _ _ _ _ _ _ _ _ _ _ _ _ _ _ _ _ _ _ _ _ _ _ _ _ _ _ _ _ _ _ _ _ _ _ _ _ _ _ _ _ _ _ _ _ _ _ _ _ _ _ _ _ _ _ _ _ _ _ _ _ _ _ _ _ _ _ _ _ _ _ _ _ _ _ _ _ _ _ _ _ _ _ _ _ _ _ _ _ _ _ _ _ _ _ _ _ _ _ _ _ _ _ _ _ _ _ _ _ _ _ _ _ _ _ _ _ _ _ _ _ _ _ _ _ _ _ _ _ _ _ _ _ _ _ _ _ _ _ _ _ _ _ _ _ _ _ _ _ _ _ _ _ _ _ _ _ _ _ _ _ _ _ w2 _ (by omega) dn hzt qL c4
end Go.Proofs.Ytghglpcfpokmhaa

set_option linter.unusedVariables false
set_option linter.unusedSimpArgs false
namespace Go.Proofs.Ytghglpcfpokmhaa
open Go Go.Conc Go.RowKit
open Go.Proofs.Ytghglpcfpokmhaa.Wk (El BodiesV Bel)
open Go.Proofs.Ytghglpcfpokmhaa.Br (BT BTS Hd Pz Pst CallsB bt_ctl bt_cons bt_skip bt_callB bt_call rt AtEnd0)
set_option maxRecDepth 100000 in
set_option maxHeartbeats 8000000 in
theorem lawP [Br.Thr] (a : Option Addr) (len cap : Nat) (W : World) (hg : Br.GC Try.prog W) (hTh : Br.Thr.N ≤ W.heap.size) (hr : RdB W W.heap.size a len) :
    BT Try.prog (AtEnd0 Try.prog (PostL W)) (G (Frame.enter Try.prog 3 #[.slice a len cap] .normal) []) W := by
  have e3 : Frame.enter Try.prog 3 #[.slice a len cap] .normal = (base 3).at ⟨#[.slice a len cap] ++ Array.replicate 200 undef, []⟩ [.code (Try.f3.body.getD .skip)] := by
    simp [Frame.enter, Frame.at, Try.func3, base, Try.f3]
  rw [e3]
  clear e3
  simp only [List.size_toArray, List.length_cons, List.length_nil, Nat.reduceAdd, Nat.reduceSub, Array.replicate_succ, Array.replicate_zero, List.push_toArray, List.append_toArray, List.nil_append, List.cons_append]
  refine lawA a len cap W hg hTh hr (sd 6 (Try.f3.body.getD .skip)) ?_
  intro gn cn gb cb pL gL cL ns zs ts L v1 v2 v6 v7 v8 v9 v10 v11 v12 v13 v14 v15 v16 v17 v18 v19 v20 v21 v22 v23 v24 v25 v26 v27 v28 v29 v30 v31 v32 v33 v34 v35 v36 v37 v38 v39 v40 v41 v42 v43 v44 v45 v46 v47 v48 v49 v50 v51 v52 v53 v54 v55 v56 v57 v58 v59 v60 v61 v62 v63 v64 v65 v66 v67 v68 v69 v70 v71 v72 v73 v74 v75 v76 v77 v78 v79 v80 v81 v82 v83 v84 v85 v86 v87 v88 v89 v90 v91 v92 v93 v94 v95 v96 v97 v98 v99 v100 v101 v102 v103 v104 v105 v106 v107 v108 v109 v110 v111 v112 v113 v114 v115 v116 v117 v118 v119 v120 v121 v122 v123 v124 v125 v126 v127 v128 v129 v130 v131 v132 v133 v134 v135 v136 v137 v138 v139 v140 v141 v142 v143 v144 v145 v146 v147 v148 v149 v150 v151 v152 v153 v154 v155 v156 v157 v158 v159 v160 v161 v162 v163 v164 v165 v166 v167 v168 v169 v170 v171 v172 v173 v174 v175 v176 v177 v178 v179 v180 v181 v182 v183 v184 v185 v186 v187 v188 v189 v190 v191 v192 v193 v194 v195 v196 v197 v198 v199 v200 w2 u hl4 dn hzt hq c1
  refine lawB a len cap W hg hTh hr gn cn gb cb pL gL cL ns zs ts L w2 hl4 dn hzt hq u c1 (sd 12 (Try.f3.body.getD .skip)) _ _ _ _ _ _ _ _ _ _ _ _ _ _ _ _ _ _ _ _ _ _ _ _ _ _ _ _ _ _ _ _ _ _ _ _ _ _ _ _ _ _ _ _ _ _ _ _ _ _ _ _ _ _ _ _ _ _ _ _ _ _ _ _ _ _ _ _ _ _ _ _ _ _ _ _ _ _ _ _ _ _ _ _ _ _ _ _ _ _ _ _ _ _ _ _ _ _ _ _ _ _ _ _ _ _ _ _ _ _ _ _ _ _ _ _ _ _ _ _ _ _ _ _ _ _ _ _ _ _ _ _ _ _ _ _ _ _ _ _ _ _ _ _ _ _ _ _ _ _ _ _ _ _ _ _ _ _ _ _ _ _ _ _ _ _ _ _ _ _ _ _ _ _ _ _ _ _ _ _ _ _ _ _ _ _ _ _ _ _ _ _ _ _ _ _ _ ?_
  intro v1 v2 v6 v7 v8 v9 v10 v11 v12 v13 v14 v15 v16 v17 v18 v19 v20 v21 v22 v23 v24 v25 v26 v27 v28 v29 v30 v31 v32 v33 v34 v35 v36 v37 v38 v39 v40 v41 v42 v43 v44 v45 v46 v47 v48 v49 v50 v51 v52 v53 v54 v55 v56 v57 v58 v59 v60 v61 v62 v63 v64 v65 v66 v67 v68 v69 v70 v71 v72 v73 v74 v75 v76 v77 v78 v79 v80 v81 v82 v83 v84 v85 v86 v87 v88 v89 v90 v91 v92 v93 v94 v95 v96 v97 v98 v99 v100 v101 v102 v103 v104 v105 v106 v107 v108 v109 v110 v111 v112 v113 v114 v115 v116 v117 v118 v119 v120 v121 v122 v123 v124 v125 v126 v127 v128 v129 v130 v131 v132 v133 v134 v135 v136 v137 v138 v139 v140 v141 v142 v143 v144 v145 v146 v147 v148 v149 v150 v151 v152 v153 v154 v155 v156 v157 v158 v159 v160 v161 v162 v163 v164 v165 v166 v167 v168 v169 v170 v171 v172 v173 v174 v175 v176 v177 v178 v179 v180 v181 v182 v183 v184 v185 v186 v187 v188 v189 v190 v191 v192 v193 v194 v195 v196 v197 v198 v199 v200 u z0 n0 hz0 hn0 hl0 c1
  refine lawC a len cap W hg hTh hr gn cn gb cb pL gL cL ns zs ts L w2 hl4 dn hzt hq u c1 z0 n0 hz0 hn0 hl0 (sd 16 (Try.f3.body.getD .skip)) _ _ _ _ _ _ _ _ _ _ _ _ _ _ _ _ _ _ _ _ _ _ _ _ _ _ _ _ _ _ _ _ _ _ _ _ _ _ _ _ _ _ _ _ _ _ _ _ _ _ _ _ _ _ _ _ _ _ _ _ _ _ _ _ _ _ _ _ _ _ _ _ _ _ _ _ _ _ _ _ _ _ _ _ _ _ _ _ _ _ _ _ _ _ _ _ _ _ _ _ _ _ _ _ _ _ _ _ _ _ _ _ _ _ _ _ _ _ _ _ _ _ _ _ _ _ _ _ _ _ _ _ _ _ _ _ _ _ _ _ _ _ _ _ _ _ _ _ _ _ _ _ _ _ _ _ _ _ _ _ _ _ _ _ _ _ _ _ _ _ _ _ _ _ _ _ _ _ _ _ _ _ _ _ _ _ _ _ _ _ _ _ _ _ _ _ _ ?_
  intro gB cB v1 v2 v6 v7 v8 v9 v10 v11 v12 v14 v15 v16 v17 v18 v19 v20 v21 v22 v23 v24 v25 v26 v27 v28 v29 v30 v31 v32 v33 v34 v35 v36 v37 v38 v39 v40 v41 v42 v43 v44 v45 v46 v47 v48 v49 v50 v51 v52 v53 v54 v55 v56 v57 v58 v59 v60 v61 v62 v63 v64 v65 v66 v67 v68 v69 v70 v71 v72 v73 v74 v75 v76 v77 v78 v79 v80 v81 v82 v83 v84 v85 v86 v87 v88 v89 v90 v91 v92 v93 v94 v95 v96 v97 v98 v99 v100 v101 v102 v103 v104 v105 v106 v107 v108 v109 v110 v111 v112 v113 v114 v115 v116 v117 v118 v119 v120 v121 v122 v123 v124 v125 v126 v127 v128 v129 v130 v131 v132 v133 v134 v135 v136 v137 v138 v139 v140 v141 v142 v143 v144 v145 v146 v147 v148 v149 v150 v151 v152 v153 v154 v155 v156 v157 v158 v159 v160 v161 v162 v163 v164 v165 v166 v167 v168 v169 v170 v171 v172 v173 v174 v175 v176 v177 v178 v179 v180 v181 v182 v183 v184 v185 v186 v187 v188 v189 v190 v191 v192 v193 v194 v195 v196 v197 v198 v199 v200 u zz t' hbt c1
  exact lawD a len cap W hg hTh hr gn cn gb cb pL gL cL ns zs ts L w2 hl4 dn hzt hq u c1 z0 n0 hz0 hn0 gB cB zz t' hbt _ _ _ _ _ _ _ _ _ _ _ _ _ _ _ _ _ _ _ _ _ _ _ _ _ _ _ _ _ _ _ _ _ _ _ _ _ _ _ _ _ _ _ _ _ _ _ _ _ _ _ _ _ _ _ _ _ _ _ _ _ _ _ _ _ _ _ _ _ _ _ _ _ _ _ _ _ _ _ _ _ _ _ _ _ _ _ _ _ _ _ _ _ _ _ _ _ _ _ _ _ _ _ _ _ _ _ _ _ _ _ _ _ _ _ _ _ _ _ _ _ _ _ _ _ _ _ _ _ _ _ _ _ _ _ _ _ _ _ _ _ _ _ _ _ _ _ _ _ _ _ _ _ _ _ _ _ _ _ _ _ _ _ _ _ _ _ _ _ _ _ _ _ _ _ _ _ _ _ _ _ _ _ _ _ _ _ _ _ _ _ _ _ _ _ _
end Go.Proofs.Ytghglpcfpokmhaa

namespace Go.Proofs.Ytghglpcfpokmhaa
open Go.ChangeShapes Go.WideShapes Go.ChangeAt Go.RowKit Go.Joins Go.Deep
set_option linter.unusedVariables false
set_option linter.unusedSimpArgs false
theorem own : ownKnob Try.prog.godebug = none := by kernel_rfl
theorem laidOut : laidOutB Try.prog = true := by kernel_rfl
theorem cells5 : Try.prog.cellsOf 5 = 1 := by kernel_rfl
theorem byt_in {H : Type} {enc : TypeId × Value → H} {W : World} {fuel : Nat} {a : Option Addr} {len cap : Nat} {x : DataW H × List MemPlace}
    (h : DataW.trod enc Try.prog W 0 (fun _ => true) true fuel 22 [.slice a len cap] = some x) : ∃ zs : List Int, zs.length = len ∧ len ≤ cap ∧ cap ≤ maxLen ∧ Byt zs ∧ Bys W a zs := by
  rcases open_ints Try.underlying22 Try.underlying5 cells5 h with ⟨hcs, _⟩ | ⟨y, l, c, zs, hcs, _, hl, hm, hz, _, hcell, hwz⟩
  · simp at hcs
    obtain ⟨rfl, rfl, rfl⟩ := hcs
    exact ⟨[], rfl, Nat.le_refl _, Nat.zero_le _, (fun z hz => by simp at hz), Bys.nil⟩
  · simp at hcs
    obtain ⟨rfl, rfl, rfl⟩ := hcs
    have hz' : zs.length = cap := by simpa using hz
    refine ⟨zs.take len, by simp; omega, hl, hm, ?_, ?_⟩
    · intro z hz
      have h5 := bounds_u8 (hwz z (List.mem_of_mem_take hz))
      exact ⟨h5.1, by omega⟩
    · intro j z hj
      have hjl : j < len := by have := (List.getElem?_eq_some_iff.1 hj).1; simp at this; omega
      rw [List.getElem?_take, if_pos hjl] at hj
      have h1 := hcell j (by omega)
      have h2 := World.cell?_spot (hcell 0 (by omega))
      obtain ⟨b, o, spot⟩ := y
      have hs : spot = none := by simpa [Addr.add] using h2
      subst hs
      have e : zs.getD j 0 = z := by rw [List.getD_eq_getElem?_getD, hj]; rfl
      rw [e, Addr.add_lit] at h1
      exact ⟨b, o, rfl, World.block_lt_of_cell? _ _ h1, h1⟩

end Go.Proofs.Ytghglpcfpokmhaa

namespace Go.Proofs.Ytghglpcfpokmhaa
open Go.ChangeShapes Go.WideShapes Go.ChangeAt Go.RowKit Go.Joins Go.Deep
set_option linter.unusedVariables false
set_option linter.unusedSimpArgs false
theorem rdb_in {H : Type} {enc : TypeId × Value → H} {W : World} {fuel : Nat} {a : Option Addr} {len cap : Nat} {x : DataW H × List MemPlace}
    (h : DataW.trod enc Try.prog W 0 (fun _ => true) true fuel 22 [.slice a len cap] = some x) : RdB W W.heap.size a len := by
  rcases open_ints Try.underlying22 Try.underlying5 cells5 h with ⟨hcs, _⟩ | ⟨y, l, c, zs, hcs, _, hl, hm, hz, _, hcell, hwz⟩
  · simp at hcs
    obtain ⟨rfl, rfl, rfl⟩ := hcs
    intro j hj; omega
  · simp at hcs
    obtain ⟨rfl, rfl, rfl⟩ := hcs
    have hz' : zs.length = cap := by simpa using hz
    intro j hjl
    obtain ⟨z, hj⟩ : ∃ z, zs[j]? = some z := ⟨_, List.getElem?_eq_getElem (show j < zs.length by omega)⟩
    have h1 := hcell j (by omega)
    have h2 := World.cell?_spot (hcell 0 (by omega))
    obtain ⟨b, o, spot⟩ := y
    have hs : spot = none := by simpa [Addr.add] using h2
    subst hs
    have e : zs.getD j 0 = z := by rw [List.getD_eq_getElem?_getD, hj]; rfl
    rw [e, Addr.add_lit] at h1
    have h5 := bounds_u8 (hwz z (List.mem_of_getElem? hj))
    exact ⟨b, o, z, rfl, World.block_lt_of_cell? _ _ h1, h1, h5.1, by omega⟩
end Go.Proofs.Ytghglpcfpokmhaa
