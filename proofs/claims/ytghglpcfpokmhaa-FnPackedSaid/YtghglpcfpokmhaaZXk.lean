/-
  FnPacked: what its pieces hand over.
  FnPacked: its third piece.
  FnPacked: its last piece.
-/
import Derived.Test.YtghglpcfpokmhaaZXf
set_option linter.unusedVariables false
set_option linter.unusedSimpArgs false
namespace Go.Proofs.Ytghglpcfpokmhaa
open Go Go.Conc Go.RowKit
open Go.Proofs.Ytghglpcfpokmhaa.Wk (El BodiesV Bel)
open Go.Proofs.Ytghglpcfpokmhaa.Br (BT BTS Hd Pz Pst CallsB bt_ctl bt_cons bt_skip bt_callB bt_call rt AtEnd0)
structure Pq (W w2 u : World) (pL gL cL : Nat) (L : List Kl) : Prop where
  B : Bel W.heap.size W u
  b2 : Bel w2.heap.size w2 u
  oL : Own u pL gL L.length cL L
theorem Pq.bel {W w2 u u' : World} {pL gL cL : Nat} {L : List Kl} (h : Pq W w2 u pL gL cL L) (b : Bel u.heap.size u u') : Pq W w2 u' pL gL cL L :=
  ⟨h.B.trans (b.mono h.B.size), h.b2.trans (b.mono h.b2.size), own_bel b (own_lt h.oL) h.oL⟩
/-- what was drawn, and the package of it -/
structure Dn (w2 : World) (gn gb : Nat) (ns : List ByteArray) (zs : List El) : Prop where
  hs : Sts w2 (some ⟨gn, 0, none⟩) ns
  hB : BodiesV w2 zs (some ⟨gb, 0, none⟩)
  zp : ∀ e ∈ zs, ∃ G, e.p = some ⟨G, 0, none⟩ ∧ G < w2.heap.size
  gl : gb < w2.heap.size
  nz : ∀ n ∈ ns, n.size ≤ 40
  n1 : ns.length ≤ 110
  z1 : zs.length ≤ 110
theorem rdb_bel {w w1 : World} {a : Option Addr} {len : Nat} (h : RdB w w.heap.size a len) (hb : Bel w.heap.size w w1) : RdB w1 w.heap.size a len := by
  intro j hj
  obtain ⟨b, o, z, e, hb2, hc, h0, h1⟩ := h j hj
  exact ⟨b, o, z, e, hb2, (World.cell?_of_block (hb.block b hb2)).trans hc, h0, h1⟩
theorem pkQ_sz {ns : List ByteArray} {ts : List (List Int)} {L : List Kl} {ok : Bool} (h : PkQ ns ts L ok) (hn : ∀ n ∈ ns, n.size ≤ 40) : ∀ y ∈ L, y.1.size ≤ 40 := by
  rcases h with ⟨_, g, hp, hr⟩ | ⟨_, rfl, _⟩
  · intro y hy
    obtain ⟨j, n, t, h1, h2, rfl⟩ := pkL_at' (hp.mem_iff.1 hy)
    exact hn n (List.mem_of_getElem? h1)
  · intro y hy; simp at hy
theorem ns_cell {w2 u : World} {gn : Nat} {ns : List ByteArray} {n0 : ByteArray} (hs : Sts w2 (some ⟨gn, 0, none⟩) ns) (b : Bel w2.heap.size w2 u) (h0 : ns[0]? = some n0) : u.cell? ⟨gn, 0, none⟩ = some (.string n0) := by
  obtain ⟨b', o, e, h1, h2⟩ := b.sts hs 0 n0 h0
  cases e
  simpa using h2
theorem zs_cell {w2 u : World} {gb : Nat} {zs : List El} {j : Nat} {z : El} (hB : BodiesV w2 zs (some ⟨gb, 0, none⟩)) (b : Bel w2.heap.size w2 u) (h0 : zs[j]? = some z) : u.cell? ⟨gb, j, none⟩ = some z.v := by
  obtain ⟨b', o, e, h1, h2⟩ := (b.bods hB).el j z h0
  cases e
  simpa using h2
theorem rdb_up {w : World} {B B' : Nat} {a : Option Addr} {len : Nat} (h : RdB w B a len) (hB : B ≤ B') : RdB w B' a len := by
  intro j hj
  obtain ⟨b, o, z, e, hb2, hc, h0, h1⟩ := h j hj
  exact ⟨b, o, z, e, Nat.lt_of_lt_of_le hb2 hB, hc, h0, h1⟩
theorem spack_R' (w : World) (b d : Option Addr) (cb cd : Nat) (ns : List ByteArray) (ts : List (List Int)) (m : Nat) (hm : ts.length = m) (hn : ns.length ≤ 1048576) (ht : ts.length ≤ 1048576) (hz : ∀ n ∈ ns, n.size ≤ maxLen) (hy : ∀ t ∈ ts, Byt t) (hs : Sts w b ns) (hb : Bb.Tks w d ts) (T : Nat → Question → Nat) (dd : Nat) :
    Calls Try.prog 7 #[.slice b ns.length cb, .slice d m cd] (rt T dd w) fun e w' => ∃ v, e = .returned v ∧ RPk w ns ts v w' := by
  subst hm
  exact spack_R w b d cb cd ns ts hn ht hz hy hs hb T dd
end Go.Proofs.Ytghglpcfpokmhaa

set_option linter.unusedVariables false
set_option linter.unusedSimpArgs false
namespace Go.Proofs.Ytghglpcfpokmhaa
open Go Go.Conc Go.RowKit
open Go.Proofs.Ytghglpcfpokmhaa.Wk (El BodiesV Bel)
open Go.Proofs.Ytghglpcfpokmhaa.Br (BT BTS Hd Pz Pst CallsB bt_ctl bt_cons bt_skip bt_callB bt_call rt AtEnd0)
/-- the bodies, the first one bent -/
structure Bt (w2 u : World) (gB : Nat) (zs : List El) (z0 : El) (n0 : ByteArray) (ns : List ByteArray) (ts : List (List Int)) (zz : List El) (t' : List Int) : Prop where
  hB : BodiesV u zz (some ⟨gB, 0, none⟩)
  len : zz.length = zs.length
  map : zz.map (·.l) = ts.set 0 t'
  same : t'.length = z0.l.length
  turn : dig t' ≠ dig z0.l
set_option maxRecDepth 100000 in
set_option maxHeartbeats 8000000 in
theorem lawC [Br.Thr] (a : Option Addr) (len cap : Nat) (W : World) (hg : Br.GC Try.prog W) (hTh : Br.Thr.N ≤ W.heap.size) (hr : RdB W W.heap.size a len) (gn cn gb cb pL gL cL : Nat) (ns : List ByteArray) (zs : List El) (ts : List (List Int)) (L : List Kl) (w2 : World) (hl4 : len ≤ 4096) (dn : Dn w2 gn gb ns zs) (hzt : zs.map (·.l) = ts) (hq : PkQ ns ts L true) (u : World) (c0 : Pq W w2 u pL gL cL L) (z0 : El) (n0 : ByteArray) (hz0 : zs[0]? = some z0) (hn0 : ns[0]? = some n0) (hl0 : 0 < z0.l.length) (rest : Code) (v1 v2 v6 v7 v8 v9 v10 v11 v12 v13 v14 v15 v16 v17 v18 v19 v20 v21 v22 v23 v24 v25 v26 v27 v28 v29 v30 v31 v32 v33 v34 v35 v36 v37 v38 v39 v40 v41 v42 v43 v44 v45 v46 v47 v48 v49 v50 v51 v52 v53 v54 v55 v56 v57 v58 v59 v60 v61 v62 v63 v64 v65 v66 v67 v68 v69 v70 v71 v72 v73 v74 v75 v76 v77 v78 v79 v80 v81 v82 v83 v84 v85 v86 v87 v88 v89 v90 v91 v92 v93 v94 v95 v96 v97 v98 v99 v100 v101 v102 v103 v104 v105 v106 v107 v108 v109 v110 v111 v112 v113 v114 v115 v116 v117 v118 v119 v120 v121 v122 v123 v124 v125 v126 v127 v128 v129 v130 v131 v132 v133 v134 v135 v136 v137 v138 v139 v140 v141 v142 v143 v144 v145 v146 v147 v148 v149 v150 v151 v152 v153 v154 v155 v156 v157 v158 v159 v160 v161 v162 v163 v164 v165 v166 v167 v168 v169 v170 v171 v172 v173 v174 v175 v176 v177 v178 v179 v180 v181 v182 v183 v184 v185 v186 v187 v188 v189 v190 v191 v192 v193 v194 v195 v196 v197 v198 v199 v200 : Value)
    (hk : ∀ (gB cB : Nat) (v1 v2 v6 v7 v8 v9 v10 v11 v12 v14 v15 v16 v17 v18 v19 v20 v21 v22 v23 v24 v25 v26 v27 v28 v29 v30 v31 v32 v33 v34 v35 v36 v37 v38 v39 v40 v41 v42 v43 v44 v45 v46 v47 v48 v49 v50 v51 v52 v53 v54 v55 v56 v57 v58 v59 v60 v61 v62 v63 v64 v65 v66 v67 v68 v69 v70 v71 v72 v73 v74 v75 v76 v77 v78 v79 v80 v81 v82 v83 v84 v85 v86 v87 v88 v89 v90 v91 v92 v93 v94 v95 v96 v97 v98 v99 v100 v101 v102 v103 v104 v105 v106 v107 v108 v109 v110 v111 v112 v113 v114 v115 v116 v117 v118 v119 v120 v121 v122 v123 v124 v125 v126 v127 v128 v129 v130 v131 v132 v133 v134 v135 v136 v137 v138 v139 v140 v141 v142 v143 v144 v145 v146 v147 v148 v149 v150 v151 v152 v153 v154 v155 v156 v157 v158 v159 v160 v161 v162 v163 v164 v165 v166 v167 v168 v169 v170 v171 v172 v173 v174 v175 v176 v177 v178 v179 v180 v181 v182 v183 v184 v185 v186 v187 v188 v189 v190 v191 v192 v193 v194 v195 v196 v197 v198 v199 v200 : Value) (u' : World) (zz : List El) (t' : List Int), Bt w2 u' gB zs z0 n0 ns ts zz t' → Pq W w2 u' pL gL cL L → BT Try.prog (AtEnd0 Try.prog (PostL W)) (G ((base 3).at ⟨#[.slice a len cap, v1, v2, .slice (some ⟨gn, 0, none⟩) ns.length cn, .slice (some ⟨gb, 0, none⟩) zs.length cb, .slice (some ⟨gL, 0, none⟩) L.length cL, v6, v7, v8, v9, v10, v11, v12, .slice (some ⟨gB, 0, none⟩) zs.length cB, v14, v15, v16, v17, v18, v19, v20, v21, v22, v23, v24, v25, v26, v27, v28, v29, v30, v31, v32, v33, v34, v35, v36, v37, v38, v39, v40, v41, v42, v43, v44, v45, v46, v47, v48, v49, v50, v51, v52, v53, v54, v55, v56, v57, v58, v59, v60, v61, v62, v63, v64, v65, v66, v67, v68, v69, v70, v71, v72, v73, v74, v75, v76, v77, v78, v79, v80, v81, v82, v83, v84, v85, v86, v87, v88, v89, v90, v91, v92, v93, v94, v95, v96, v97, v98, v99, v100, v101, v102, v103, v104, v105, v106, v107, v108, v109, v110, v111, v112, v113, v114, v115, v116, v117, v118, v119, v120, v121, v122, v123, v124, v125, v126, v127, v128, v129, v130, v131, v132, v133, v134, v135, v136, v137, v138, v139, v140, v141, v142, v143, v144, v145, v146, v147, v148, v149, v150, v151, v152, v153, v154, v155, v156, v157, v158, v159, v160, v161, v162, v163, v164, v165, v166, v167, v168, v169, v170, v171, v172, v173, v174, v175, v176, v177, v178, v179, v180, v181, v182, v183, v184, v185, v186, v187, v188, v189, v190, v191, v192, v193, v194, v195, v196, v197, v198, v199, v200], []⟩ [.code rest]) []) u') :
    BT Try.prog (AtEnd0 Try.prog (PostL W)) (G ((base 3).at ⟨#[.slice a len cap, v1, v2, .slice (some ⟨gn, 0, none⟩) ns.length cn, .slice (some ⟨gb, 0, none⟩) zs.length cb, .slice (some ⟨gL, 0, none⟩) L.length cL, v6, v7, v8, v9, v10, v11, v12, v13, v14, v15, v16, v17, v18, v19, v20, v21, v22, v23, v24, v25, v26, v27, v28, v29, v30, v31, v32, v33, v34, v35, v36, v37, v38, v39, v40, v41, v42, v43, v44, v45, v46, v47, v48, v49, v50, v51, v52, v53, v54, v55, v56, v57, v58, v59, v60, v61, v62, v63, v64, v65, v66, v67, v68, v69, v70, v71, v72, v73, v74, v75, v76, v77, v78, v79, v80, v81, v82, v83, v84, v85, v86, v87, v88, v89, v90, v91, v92, v93, v94, v95, v96, v97, v98, v99, v100, v101, v102, v103, v104, v105, v106, v107, v108, v109, v110, v111, v112, v113, v114, v115, v116, v117, v118, v119, v120, v121, v122, v123, v124, v125, v126, v127, v128, v129, v130, v131, v132, v133, v134, v135, v136, v137, v138, v139, v140, v141, v142, v143, v144, v145, v146, v147, v148, v149, v150, v151, v152, v153, v154, v155, v156, v157, v158, v159, v160, v161, v162, v163, v164, v165, v166, v167, v168, v169, v170, v171, v172, v173, v174, v175, v176, v177, v178, v179, v180, v181, v182, v183, v184, v185, v186, v187, v188, v189, v190, v191, v192, v193, v194, v195, v196, v197, v198, v199, v200], []⟩ [.code (.seq (st 12 (Try.f3.body.getD .skip)) (.seq (st 13 (Try.f3.body.getD .skip)) (.seq (st 14 (Try.f3.body.getD .skip)) (.seq (st 15 (Try.f3.body.getD .skip)) rest))))]) []) u := by
  have hLl : L.length = ns.length := pkQ_length hq
  have hL100 : L.length ≤ 100 := by
    rcases hq with ⟨_, g, _, _⟩ | ⟨h, _⟩
    · have := g.few; omega
    · cases h
  have hzs40 := pkQ_sz hq dn.nz
  have hszok : SzOk L := fun y hy => by have := hzs40 y hy; unfold maxLen; omega
  have hnz : ns.length = zs.length := by
    rcases hq with ⟨_, g, _, _⟩ | ⟨h, _⟩
    · have := g.len; rw [← hzt] at this; simpa using this
    · cases h
  have hz40 : z0.l.length ≤ 40000 := by
    rcases hq with ⟨_, g, _, _⟩ | ⟨h, _⟩
    · exact g.bds z0.l (by rw [← hzt]; exact List.mem_map.2 ⟨z0, List.mem_of_getElem? hz0, rfl⟩)
    · cases h
  have hzlt : 0 < zs.length := (List.getElem?_eq_some_iff.1 hz0).1
  have hzi : (0 : Int) < zs.length := by omega
  obtain ⟨GG, hzp, hGG⟩ := dn.zp z0 (List.mem_of_getElem? hz0)
  clear hLl hnz hszok hzs40
  simp only [st, Try.f3, Option.getD_some]
  have G0 := gc_bel c0.B hg
  (repeat (first | refine bt_ctl rfl (fun _ => stepG_seq) ?_ | refine bt_ctl rfl (fun _ => stepG_skip) ?_ | refine bt_ctl rfl (fun _ => stepG_region_end) ?_))
  refine q12 a len cap gn cn gb cb gL cL ns zs L u G0 hzlt dn.z1 (fun j y hy => by
    rw [List.getElem?_map] at hy
    obtain ⟨e, he, rfl⟩ := Option.map_eq_some_iff.1 hy
    exact zs_cell dn.hB c0.b2 he) (Nat.lt_of_lt_of_le dn.gl c0.b2.size) _ _ _ _ _ _ _ _ _ _ _ _ _ _ _ _ _ _ _ _ _ _ _ _ _ _ _ _ _ _ _ _ _ _ _ _ _ _ _ _ _ _ _ _ _ _ _ _ _ _ _ _ _ _ _ _ _ _ _ _ _ _ _ _ _ _ _ _ _ _ _ _ _ _ _ _ _ _ _ _ _ _ _ _ _ _ _ _ _ _ _ _ _ _ _ _ _ _ _ _ _ _ _ _ _ _ _ _ _ _ _ _ _ _ _ _ _ _ _ _ _ _ _ _ _ _ _ _ _ _ _ _ _ _ _ _ _ _ _ _ _ _ _ _ _ _ _ _ _ _ _ _ _ _ _ _ _ _ _ _ _ _ _ _ _ _ _ _ _ _ _ _ _ _ _ _ _ _ _ _ _ _ _ _ _ _ _ _ _ _ _ _ _ _ _ _ _ _ _ ?_
  intro gB cB v1 v2 v6 v7 v8 v9 v10 v11 v12 v14 v15 v16 v17 v18 v19 v20 v21 v22 v23 v24 v25 v26 v27 v28 v29 v30 v31 v32 v33 v34 v35 v36 v37 v38 v39 v40 v41 v42 v43 v44 v45 v46 v47 v48 v49 v50 v51 v52 v53 v54 v55 v56 v57 v58 v59 v60 v61 v62 v63 v64 v65 v66 v67 v68 v69 v70 v71 v72 v73 v74 v75 v76 v77 v78 v79 v80 v81 v82 v83 v84 v85 v86 v87 v88 v89 v90 v91 v92 v93 v94 v95 v96 v97 v98 v99 v100 v101 v102 v103 v104 v105 v106 v107 v108 v109 v110 v111 v112 v113 v114 v115 v116 v117 v118 v119 v120 v121 v122 v123 v124 v125 v126 v127 v128 v129 v130 v131 v132 v133 v134 v135 v136 v137 v138 v139 v140 v141 v142 v143 v144 v145 v146 v147 v148 v149 v150 v151 v152 v153 v154 v155 v156 v157 v158 v159 v160 v161 v162 v163 v164 v165 v166 v167 v168 v169 v170 v171 v172 v173 v174 v175 v176 v177 v178 v179 v180 v181 v182 v183 v184 v185 v186 v187 v188 v189 v190 v191 v192 v193 v194 v195 v196 v197 v198 v199 v200 w3 o3 h3
  have gB0 : u.heap.size ≤ gB := own_ge o3
  have c3 := c0.bel h3.bel
  have G3 := gc_bel c3.B hg
  (repeat (first | refine bt_ctl rfl (fun _ => stepG_seq) ?_ | refine bt_ctl rfl (fun _ => stepG_skip) ?_ | refine bt_ctl rfl (fun _ => stepG_region_end) ?_))
  refine q13 a len cap gn cn gb cb gL cL ns zs L gB cB z0 u.heap.size GG w3 G3 hzi dn.z1 hzp hl0 (by omega) (zs_cell dn.hB c3.b2 hz0) (Nat.lt_of_lt_of_le dn.gl c3.b2.size) (((c3.b2.bods dn.hB).body z0 (List.mem_of_getElem? hz0)).1) o3 _ _ _ _ _ _ _ _ _ _ _ _ _ _ _ _ _ _ _ _ _ _ _ _ _ _ _ _ _ _ _ _ _ _ _ _ _ _ _ _ _ _ _ _ _ _ _ _ _ _ _ _ _ _ _ _ _ _ _ _ _ _ _ _ _ _ _ _ _ _ _ _ _ _ _ _ _ _ _ _ _ _ _ _ _ _ _ _ _ _ _ _ _ _ _ _ _ _ _ _ _ _ _ _ _ _ _ _ _ _ _ _ _ _ _ _ _ _ _ _ _ _ _ _ _ _ _ _ _ _ _ _ _ _ _ _ _ _ _ _ _ _ _ _ _ _ _ _ _ _ _ _ _ _ _ _ _ _ _ _ _ _ _ _ _ _ _ _ _ _ _ _ _ _ _ _ _ _ _ _ _ _ _ _ _ _ _ _ _ _ _ _ _ _ _ _ _ _ ?_
  intro G2 c2 v1 v2 v6 v7 v8 v9 v10 v11 v12 v14 v15 v16 v17 v18 v19 v20 v21 v22 v23 v24 v25 v26 v27 v28 v29 v30 v31 v32 v33 v34 v35 v36 v37 v38 v39 v40 v41 v42 v43 v44 v45 v46 v47 v48 v49 v50 v51 v52 v53 v54 v55 v56 v57 v58 v59 v60 v61 v62 v63 v64 v65 v66 v67 v68 v69 v70 v71 v72 v73 v74 v75 v76 v77 v78 v79 v80 v81 v82 v83 v84 v85 v86 v87 v88 v89 v90 v91 v92 v93 v94 v95 v96 v97 v98 v99 v100 v101 v102 v103 v104 v105 v106 v107 v108 v109 v110 v111 v112 v113 v114 v115 v116 v117 v118 v119 v120 v121 v122 v123 v124 v125 v126 v127 v128 v129 v130 v131 v132 v133 v134 v135 v136 v137 v138 v139 v140 v141 v142 v143 v144 v145 v146 v147 v148 v149 v150 v151 v152 v153 v154 v155 v156 v157 v158 v159 v160 v161 v162 v163 v164 v165 v166 v167 v168 v169 v170 v171 v172 v173 v174 v175 v176 v177 v178 v179 v180 v181 v182 v183 v184 v185 v186 v187 v188 v189 v190 v191 v192 v193 v194 v195 v196 v197 v198 v199 v200 w4 o4 ob4 h4 hG2
  have s3 := h3.2.2.1
  have u2 := c0.b2.size
  have uW := c0.B.size
  have kL := own_lt c0.oL
  have c4 : Pq W w2 w4 pL gL cL L := ⟨bel_gro c3.B h4.gro (by omega), bel_gro c3.b2 h4.gro (by omega), own_gro h4.gro (by omega) c3.oL⟩
  have G4 := gc_bel c4.B hg
  have hcB : w4.cell? ⟨gB, 0, none⟩ = some (.slice (some ⟨G2, 0, none⟩) z0.l.length c2) := by
    have := o4.cellAt 0 (by omega)
    rw [this]
    simp [hzlt]
  (repeat (first | refine bt_ctl rfl (fun _ => stepG_seq) ?_ | refine bt_ctl rfl (fun _ => stepG_skip) ?_ | refine bt_ctl rfl (fun _ => stepG_region_end) ?_))
  refine q14 a len cap gn cn gb cb gL cL ns zs L gB cB G2 z0.l.length c2 W.heap.size w4 G4 hzi hl0 hl4 hcB (rdb_bel hr c4.B) _ _ _ _ _ _ _ _ _ _ _ _ _ _ _ _ _ _ _ _ _ _ _ _ _ _ _ _ _ _ _ _ _ _ _ _ _ _ _ _ _ _ _ _ _ _ _ _ _ _ _ _ _ _ _ _ _ _ _ _ _ _ _ _ _ _ _ _ _ _ _ _ _ _ _ _ _ _ _ _ _ _ _ _ _ _ _ _ _ _ _ _ _ _ _ _ _ _ _ _ _ _ _ _ _ _ _ _ _ _ _ _ _ _ _ _ _ _ _ _ _ _ _ _ _ _ _ _ _ _ _ _ _ _ _ _ _ _ _ _ _ _ _ _ _ _ _ _ _ _ _ _ _ _ _ _ _ _ _ _ _ _ _ _ _ _ _ _ _ _ _ _ _ _ _ _ _ _ _ _ _ _ _ _ _ _ _ _ _ _ _ _ _ _ _ _ _ _ ?_
  intro p v1 v2 v6 v7 v8 v9 v10 v11 v12 v15 v16 v17 v18 v19 v20 v21 v22 v23 v24 v25 v26 v27 v28 v29 v30 v31 v32 v33 v34 v35 v36 v37 v38 v39 v40 v41 v42 v43 v44 v45 v46 v47 v48 v49 v50 v51 v52 v53 v54 v55 v56 v57 v58 v59 v60 v61 v62 v63 v64 v65 v66 v67 v68 v69 v70 v71 v72 v73 v74 v75 v76 v77 v78 v79 v80 v81 v82 v83 v84 v85 v86 v87 v88 v89 v90 v91 v92 v93 v94 v95 v96 v97 v98 v99 v100 v101 v102 v103 v104 v105 v106 v107 v108 v109 v110 v111 v112 v113 v114 v115 v116 v117 v118 v119 v120 v121 v122 v123 v124 v125 v126 v127 v128 v129 v130 v131 v132 v133 v134 v135 v136 v137 v138 v139 v140 v141 v142 v143 v144 v145 v146 v147 v148 v149 v150 v151 v152 v153 v154 v155 v156 v157 v158 v159 v160 v161 v162 v163 v164 v165 v166 v167 v168 v169 v170 v171 v172 v173 v174 v175 v176 v177 v178 v179 v180 v181 v182 v183 v184 v185 v186 v187 v188 v189 v190 v191 v192 v193 v194 v195 v196 v197 v198 v199 v200 w5 p0 p1 s5
  obtain ⟨q, rfl⟩ := Int.eq_ofNat_of_zero_le p0
  have c5 := c4.bel s5.bel
  have G5 := gc_bel c5.B hg
  have o5 := own_bel s5.bel (own_lt o4) o4
  have ob5 := own_bel s5.bel (own_lt ob4) ob4
  have hcB5 : w5.cell? ⟨gB, 0, none⟩ = some (.slice (some ⟨G2, 0, none⟩) z0.l.length c2) := by simp only [World.cell?, s5.1]; exact hcB
  obtain ⟨y, hy⟩ : ∃ y, z0.l[q]? = some y := ⟨z0.l[q]'(by omega), List.getElem?_eq_getElem _⟩
  (repeat (first | refine bt_ctl rfl (fun _ => stepG_seq) ?_ | refine bt_ctl rfl (fun _ => stepG_skip) ?_ | refine bt_ctl rfl (fun _ => stepG_region_end) ?_))
  refine q15 a len cap gn cn gb cb gL cL ns zs L gB cB w3.heap.size G2 z0.l.length c2 q z0.l y w5 G5 hzi p1 hcB5 ob5 hy _ _ _ _ _ _ _ _ _ _ _ _ _ _ _ _ _ _ _ _ _ _ _ _ _ _ _ _ _ _ _ _ _ _ _ _ _ _ _ _ _ _ _ _ _ _ _ _ _ _ _ _ _ _ _ _ _ _ _ _ _ _ _ _ _ _ _ _ _ _ _ _ _ _ _ _ _ _ _ _ _ _ _ _ _ _ _ _ _ _ _ _ _ _ _ _ _ _ _ _ _ _ _ _ _ _ _ _ _ _ _ _ _ _ _ _ _ _ _ _ _ _ _ _ _ _ _ _ _ _ _ _ _ _ _ _ _ _ _ _ _ _ _ _ _ _ _ _ _ _ _ _ _ _ _ _ _ _ _ _ _ _ _ _ _ _ _ _ _ _ _ _ _ _ _ _ _ _ _ _ _ _ _ _ _ _ _ _ _ _ _ _ _ _ _ _ _ ?_
  intro v1 v2 v6 v7 v8 v9 v10 v11 v12 v14 v15 v16 v17 v18 v19 v20 v21 v22 v23 v24 v25 v26 v27 v28 v29 v30 v31 v32 v33 v34 v35 v36 v37 v38 v39 v40 v41 v42 v43 v44 v45 v46 v47 v48 v49 v50 v51 v52 v53 v54 v55 v56 v57 v58 v59 v60 v61 v62 v63 v64 v65 v66 v67 v68 v69 v70 v71 v72 v73 v74 v75 v76 v77 v78 v79 v80 v81 v82 v83 v84 v85 v86 v87 v88 v89 v90 v91 v92 v93 v94 v95 v96 v97 v98 v99 v100 v101 v102 v103 v104 v105 v106 v107 v108 v109 v110 v111 v112 v113 v114 v115 v116 v117 v118 v119 v120 v121 v122 v123 v124 v125 v126 v127 v128 v129 v130 v131 v132 v133 v134 v135 v136 v137 v138 v139 v140 v141 v142 v143 v144 v145 v146 v147 v148 v149 v150 v151 v152 v153 v154 v155 v156 v157 v158 v159 v160 v161 v162 v163 v164 v165 v166 v167 v168 v169 v170 v171 v172 v173 v174 v175 v176 v177 v178 v179 v180 v181 v182 v183 v184 v185 v186 v187 v188 v189 v190 v191 v192 v193 v194 v195 v196 v197 v198 v199 v200 w6 o6 h6
  have s45 : w5.heap.size = w4.heap.size := by rw [s5.1]
  have hBG : gB ≠ G2 := ne_type o5 ob5 (by decide)
  have c6 : Pq W w2 w6 pL gL cL L := ⟨bel_gro c5.B h6.gro (by omega), bel_gro c5.b2 h6.gro (by omega), own_gro h6.gro (by omega) c5.oL⟩
  have o7 := own_gro h6.gro hBG o5
  have hyb : Byt z0.l := (dn.hB.body z0 (List.mem_of_getElem? hz0)).2.1
  have hyr := hyb y (List.mem_of_getElem? hy)
  obtain ⟨x1, x2, x3⟩ := x16_of hyr.1 hyr.2
  have hturn := dig_turned hz40 hy hyr.1 hyr.2 x2 x3 x1
  have hbt : Bt w2 w6 gB zs z0 n0 ns ts (zs.set 0 ⟨some ⟨G2, 0, none⟩, c2, z0.l.set q (bits .xor .u8 y 16)⟩) (z0.l.set q (bits .xor .u8 y 16)) := by
    refine ⟨⟨fun j e he => ?_, fun e he => ?_⟩, by simp, ?_, by simp, hturn⟩
    · have hj : j < zs.length := by have := (List.getElem?_eq_some_iff.1 he).1; simpa using this
      refine ⟨gB, 0, rfl, own_lt o7, ?_⟩
      have := o7.cellAt j (by omega)
      rw [Nat.zero_add, this]
      rcases Nat.eq_zero_or_pos j with rfl | hp
      · rw [List.getElem?_set_self (by simpa using hj)]
        rw [List.getElem?_set_self hj] at he
        cases he
        simp [El.v]
      · rw [List.getElem?_set_ne (by omega), List.getElem?_map]
        rw [List.getElem?_set_ne (by omega)] at he
        rw [he]; rfl
    · rcases List.mem_or_eq_of_mem_set he with he | rfl
      · exact (c6.b2.bods dn.hB).body e he
      · refine ⟨by have := bys_own o6; exact this, fun x hx => ?_, ?_, ?_⟩
        · rcases List.mem_or_eq_of_mem_set hx with hx | rfl
          · exact hyb x hx
          · exact ⟨x2, x3⟩
        · show (z0.l.set q _).length ≤ c2
          have := own_capge o6
          simpa using this
        · rcases o6.2 with ⟨hv, _⟩ | ⟨g', cap', cur, hv, hB, hh, hc, hm, _⟩
          · cases hv
          · injection hv with e1 e2 e3
            rw [e3]; exact hm
    · rw [← hzt, List.map_set]
  clear o6 o7 h6 ob5 o5 hcB5 hcB
  (repeat (first | (first | refine bt_ctl rfl (fun _ => stepG_seq) ?_ | refine bt_ctl rfl (fun _ => stepG_skip) ?_ | refine bt_ctl rfl (fun _ => stepG_region_end) ?_ | refine bt_ctl rfl (fun _ => stepG_ret') ?_ | (refine bt_ctl rfl (fun _ => stepG_region) ?_; simp only [List.size_toArray, List.length_cons, List.length_nil, Nat.reduceAdd, Nat.zero_add, List.range, List.range.loop])) | (refine bt_cons zgOk.bodied rfl (by rfl) (by decide) (by decide) (fun dzz Kzz hKzz => ?_); go_simp; refine hKzz _ _ (fun b hb => hb) (bt_at ?_); clear hKzz Kzz; try walk_nrm) | (refine bt_skip rfl (by rfl) ?_; try walk_nrm)))
  exact hk gB cB _ _ _ _ _ _ _ _ _ _ _ _ _ _ _ _ _ _ _ _ _ _ _ _ _ _ _ _ _ _ _ _ _ _ _ _ _ _ _ _ _ _ _ _ _ _ _ _ _ _ _ _ _ _ _ _ _ _ _ _ _ _ _ _ _ _ _ _ _ _ _ _ _ _ _ _ _ _ _ _ _ _ _ _ _ _ _ _ _ _ _ _ _ _ _ _ _ _ _ _ _ _ _ _ _ _ _ _ _ _ _ _ _ _ _ _ _ _ _ _ _ _ _ _ _ _ _ _ _ _ _ _ _ _ _ _ _ _ _ _ _ _ _ _ _ _ _ _ _ _ _ _ _ _ _ _ _ _ _ _ _ _ _ _ _ _ _ _ _ _ _ _ _ _ _ _ _ _ _ _ _ _ _ _ _ _ _ _ _ _ _ _ _ _ _ _ w6 _ _ hbt c6
end Go.Proofs.Ytghglpcfpokmhaa

set_option linter.unusedVariables false
set_option linter.unusedSimpArgs false
namespace Go.Proofs.Ytghglpcfpokmhaa
open Go Go.Conc Go.RowKit
open Go.Proofs.Ytghglpcfpokmhaa.Wk (El BodiesV Bel)
open Go.Proofs.Ytghglpcfpokmhaa.Br (BT BTS Hd Pz Pst CallsB bt_ctl bt_cons bt_skip bt_callB bt_call rt AtEnd0)
set_option maxRecDepth 100000 in
set_option maxHeartbeats 8000000 in
theorem lawD [Br.Thr] (a : Option Addr) (len cap : Nat) (W : World) (hg : Br.GC Try.prog W) (hTh : Br.Thr.N ≤ W.heap.size) (hr : RdB W W.heap.size a len) (gn cn gb cb pL gL cL : Nat) (ns : List ByteArray) (zs : List El) (ts : List (List Int)) (L : List Kl) (w2 : World) (hl4 : len ≤ 4096) (dn : Dn w2 gn gb ns zs) (hzt : zs.map (·.l) = ts) (hq : PkQ ns ts L true) (u : World) (c0 : Pq W w2 u pL gL cL L) (z0 : El) (n0 : ByteArray) (hz0 : zs[0]? = some z0) (hn0 : ns[0]? = some n0) (gB cB : Nat) (zz : List El) (t' : List Int) (bt : Bt w2 u gB zs z0 n0 ns ts zz t') (v1 v2 v6 v7 v8 v9 v10 v11 v12 v14 v15 v16 v17 v18 v19 v20 v21 v22 v23 v24 v25 v26 v27 v28 v29 v30 v31 v32 v33 v34 v35 v36 v37 v38 v39 v40 v41 v42 v43 v44 v45 v46 v47 v48 v49 v50 v51 v52 v53 v54 v55 v56 v57 v58 v59 v60 v61 v62 v63 v64 v65 v66 v67 v68 v69 v70 v71 v72 v73 v74 v75 v76 v77 v78 v79 v80 v81 v82 v83 v84 v85 v86 v87 v88 v89 v90 v91 v92 v93 v94 v95 v96 v97 v98 v99 v100 v101 v102 v103 v104 v105 v106 v107 v108 v109 v110 v111 v112 v113 v114 v115 v116 v117 v118 v119 v120 v121 v122 v123 v124 v125 v126 v127 v128 v129 v130 v131 v132 v133 v134 v135 v136 v137 v138 v139 v140 v141 v142 v143 v144 v145 v146 v147 v148 v149 v150 v151 v152 v153 v154 v155 v156 v157 v158 v159 v160 v161 v162 v163 v164 v165 v166 v167 v168 v169 v170 v171 v172 v173 v174 v175 v176 v177 v178 v179 v180 v181 v182 v183 v184 v185 v186 v187 v188 v189 v190 v191 v192 v193 v194 v195 v196 v197 v198 v199 v200 : Value) :
    BT Try.prog (AtEnd0 Try.prog (PostL W)) (G ((base 3).at ⟨#[.slice a len cap, v1, v2, .slice (some ⟨gn, 0, none⟩) ns.length cn, .slice (some ⟨gb, 0, none⟩) zs.length cb, .slice (some ⟨gL, 0, none⟩) L.length cL, v6, v7, v8, v9, v10, v11, v12, .slice (some ⟨gB, 0, none⟩) zs.length cB, v14, v15, v16, v17, v18, v19, v20, v21, v22, v23, v24, v25, v26, v27, v28, v29, v30, v31, v32, v33, v34, v35, v36, v37, v38, v39, v40, v41, v42, v43, v44, v45, v46, v47, v48, v49, v50, v51, v52, v53, v54, v55, v56, v57, v58, v59, v60, v61, v62, v63, v64, v65, v66, v67, v68, v69, v70, v71, v72, v73, v74, v75, v76, v77, v78, v79, v80, v81, v82, v83, v84, v85, v86, v87, v88, v89, v90, v91, v92, v93, v94, v95, v96, v97, v98, v99, v100, v101, v102, v103, v104, v105, v106, v107, v108, v109, v110, v111, v112, v113, v114, v115, v116, v117, v118, v119, v120, v121, v122, v123, v124, v125, v126, v127, v128, v129, v130, v131, v132, v133, v134, v135, v136, v137, v138, v139, v140, v141, v142, v143, v144, v145, v146, v147, v148, v149, v150, v151, v152, v153, v154, v155, v156, v157, v158, v159, v160, v161, v162, v163, v164, v165, v166, v167, v168, v169, v170, v171, v172, v173, v174, v175, v176, v177, v178, v179, v180, v181, v182, v183, v184, v185, v186, v187, v188, v189, v190, v191, v192, v193, v194, v195, v196, v197, v198, v199, v200], []⟩ [.code (sd 16 (Try.f3.body.getD .skip))]) []) u := by
  have hLl : L.length = ns.length := pkQ_length hq
  have hL100 : L.length ≤ 100 := by
    rcases hq with ⟨_, g, _, _⟩ | ⟨h, _⟩
    · have := g.few; omega
    · cases h
  have hzs40 := pkQ_sz hq dn.nz
  have hszok : SzOk L := fun y hy => by have := hzs40 y hy; unfold maxLen; omega
  have hnz : ns.length = zs.length := by
    rcases hq with ⟨_, g, _, _⟩ | ⟨h, _⟩
    · have := g.len; rw [← hzt] at this; simpa using this
    · cases h
  have htz : ts[0]? = some z0.l := by rw [← hzt, List.getElem?_map, hz0]; rfl
  have hMq := pkQ_bend hq hn0 htz bt.same
  have hnlt : 0 < ns.length := (List.getElem?_eq_some_iff.1 hn0).1
  have hni : (0 : Int) < ns.length := by omega
  have hVb := vfy_bent hq hn0 htz bt.same bt.turn
  obtain ⟨hU1, hU2⟩ := upd_bent hq hn0 htz bt.same bt.turn hMq
  obtain ⟨V, hVe⟩ : ∃ V, vfy L ns (ts.set 0 t') = V := ⟨_, rfl⟩
  have hVl : V.length = L.length := by rw [← hVe, hVb]; simp
  have hM40 := pkQ_sz hMq dn.nz
  have hMok : SzOk (L.map (bend n0 t')) := fun y hy => by have := hM40 y hy; unfold maxLen; omega
  have hzzl := bt.len
  clear hLl hnz
  simp only [sd, Try.f3, Option.getD_some]
  have G0 := gc_bel c0.B hg
  (repeat (first | (first | refine bt_ctl rfl (fun _ => stepG_seq) ?_ | refine bt_ctl rfl (fun _ => stepG_skip) ?_ | refine bt_ctl rfl (fun _ => stepG_region_end) ?_ | refine bt_ctl rfl (fun _ => stepG_ret') ?_ | (refine bt_ctl rfl (fun _ => stepG_region) ?_; simp only [List.size_toArray, List.length_cons, List.length_nil, Nat.reduceAdd, Nat.zero_add, List.range, List.range.loop])) | (refine bt_cons zgOk.bodied rfl (by rfl) (by decide) (by decide) (fun dzz Kzz hKzz => ?_); go_simp; refine hKzz _ _ (fun b hb => hb) (bt_at ?_); clear hKzz Kzz; try walk_nrm) | (refine bt_skip rfl (by rfl) ?_; try walk_nrm)))
  refine bt_callB (iver_B (some ⟨gL, 0, none⟩) (some ⟨gn, 0, none⟩) (some ⟨gB, 0, none⟩) cL cn cB L ns zz u (by omega) (Nat.le_trans dn.n1 (by omega)) hszok (kls_own c0.oL) (c0.b2.sts dn.hs) bt.hB G0 (Nat.le_trans hTh c0.B.size)) Try.func8 (by kernel_rfl) (by kernel_rfl) rfl (by rfl) rfl (by decide) (by simp [Act.eval, hzzl]) ?_
  rintro v w1 ⟨gW, cW, rfl, oW, b1⟩
  rw [bt.map, hVe] at oW
  rw [bt.map, hVe, hVl]
  rw [hVl] at oW
  try walk_nrm
  have c1 := c0.bel b1
  have hB1 := bodiesV_bel bt.hB b1.block b1.size
  clear c0 G0
  have G1 := gc_bel c1.B hg
  (repeat (first | (first | refine bt_ctl rfl (fun _ => stepG_seq) ?_ | refine bt_ctl rfl (fun _ => stepG_skip) ?_ | refine bt_ctl rfl (fun _ => stepG_region_end) ?_ | refine bt_ctl rfl (fun _ => stepG_ret') ?_ | (refine bt_ctl rfl (fun _ => stepG_region) ?_; simp only [List.size_toArray, List.length_cons, List.length_nil, Nat.reduceAdd, Nat.zero_add, List.range, List.range.loop])) | (refine bt_cons zgOk.bodied rfl (by rfl) (by decide) (by decide) (fun dzz Kzz hKzz => ?_); go_simp; refine hKzz _ _ (fun b hb => hb) (bt_at ?_); clear hKzz Kzz; try walk_nrm) | (refine bt_skip rfl (by rfl) ?_; try walk_nrm)))
  refine bt_callB (ipack_B (some ⟨gn, 0, none⟩) (some ⟨gB, 0, none⟩) cn cB ns zz w1 (fun n hn => Nat.le_trans (dn.nz n hn) (by omega)) (c1.b2.sts dn.hs) hB1 G1 (Nat.le_trans hTh c1.B.size)) Try.func6 (by kernel_rfl) (by kernel_rfl) rfl (by rfl) rfl (by decide) (by simp [Act.eval, hzzl]) ?_
  rintro v w3 ⟨M, okM, gM, cM, rfl, oM, b3, qM⟩
  rw [bt.map] at qM
  obtain ⟨eM, eo⟩ := PkQ.uniq qM hMq
  subst eM eo
  try walk_nrm
  have c3 := c1.bel b3
  have oW3 := own_bel b3 (own_lt oW) oW
  clear c1 G1 hB1 oW
  have G3 := gc_bel c3.B hg
  (repeat (first | (first | refine bt_ctl rfl (fun _ => stepG_seq) ?_ | refine bt_ctl rfl (fun _ => stepG_skip) ?_ | refine bt_ctl rfl (fun _ => stepG_region_end) ?_ | refine bt_ctl rfl (fun _ => stepG_ret') ?_ | (refine bt_ctl rfl (fun _ => stepG_region) ?_; simp only [List.size_toArray, List.length_cons, List.length_nil, Nat.reduceAdd, Nat.zero_add, List.range, List.range.loop])) | (refine bt_cons zgOk.bodied rfl (by rfl) (by decide) (by decide) (fun dzz Kzz hKzz => ?_); go_simp; refine hKzz _ _ (fun b hb => hb) (bt_at ?_); clear hKzz Kzz; try walk_nrm) | (refine bt_skip rfl (by rfl) ?_; try walk_nrm)))
  refine bt_call zgOk (iup_R w3 (some ⟨gL, 0, none⟩) (some ⟨gM, 0, none⟩) cL cM L (L.map (bend n0 t')) (by omega) (by rw [List.length_map]; omega) hszok hMok (fun x hx => Nat.le_trans (hzs40 x hx) (by omega)) (fun x hx => Nat.le_trans (hM40 x hx) (by omega)) (kls_own c3.oL) (kls_own oM)) G3 RUp.i RUp.e rfl (fun s hs => by cases hs) Try.func10 (by kernel_rfl) (by kernel_rfl) rfl (by rfl) rfl (by decide) (by simp [Act.eval]) ?_
  rintro v w5 ⟨g1, c1, g2, c2, rfl, o5, b5⟩
  rw [hU1] at o5
  rw [hU1, hU2]
  simp only [List.length_cons, List.length_nil, Nat.zero_add] at o5 ⊢
  try walk_nrm
  have c5 := c3.bel b5
  have oW5 := own_bel b5 (own_lt oW3) oW3
  have hs1 : w5.cell? ⟨g1, 0, none⟩ = some (.string n0) := ownS_at (k := 0) rfl o5
  have hs2 := ns_cell dn.hs c5.b2 hn0
  clear c3 G3 oM oW3
  have G5 := gc_bel c5.B hg
  (repeat (first | (first | refine bt_ctl rfl (fun _ => stepG_seq) ?_ | refine bt_ctl rfl (fun _ => stepG_skip) ?_ | refine bt_ctl rfl (fun _ => stepG_region_end) ?_ | refine bt_ctl rfl (fun _ => stepG_ret') ?_ | (refine bt_ctl rfl (fun _ => stepG_region) ?_; simp only [List.size_toArray, List.length_cons, List.length_nil, Nat.reduceAdd, Nat.zero_add, List.range, List.range.loop])) | (refine bt_cons zgOk.bodied rfl (by rfl) (by decide) (by decide) (fun dzz Kzz hKzz => ?_); go_simp; refine hKzz _ _ (fun b hb => hb) (bt_at ?_); clear hKzz Kzz; try walk_nrm) | (refine bt_skip rfl (by rfl) ?_; try walk_nrm)))
  refine q19 a len cap gn cn gb cb gL cL ns zs L gW cW g1 c1 g2 c2 n0 w5 G5 hni hs1 hs2 _ _ _ _ _ _ _ _ _ _ _ _ _ _ _ _ _ _ _ _ _ _ _ _ _ _ _ _ _ _ _ _ _ _ _ _ _ _ _ _ _ _ _ _ _ _ _ _ _ _ _ _ _ _ _ _ _ _ _ _ _ _ _ _ _ _ _ _ _ _ _ _ _ _ _ _ _ _ _ _ _ _ _ _ _ _ _ _ _ _ _ _ _ _ _ _ _ _ _ _ _ _ _ _ _ _ _ _ _ _ _ _ _ _ _ _ _ _ _ _ _ _ _ _ _ _ _ _ _ _ _ _ _ _ _ _ _ _ _ _ _ _ _ _ _ _ _ _ _ _ _ _ _ _ _ _ _ _ _ _ _ _ _ _ _ _ _ _ _ _ _ _ _ _ _ _ _ _ _ _ _ _ _ _ _ _ _ _ _ _ _ _ _ _ _ _ ?_
  intro v1 v2 v6 v7 v8 v9 v10 v11 v12 v13 v14 v16 v17 v18 v19 v20 v21 v22 v23 v24 v25 v26 v27 v28 v29 v30 v31 v32 v33 v34 v35 v36 v37 v38 v39 v40 v41 v42 v43 v44 v45 v46 v47 v48 v49 v50 v51 v52 v53 v54 v55 v56 v57 v58 v59 v60 v61 v62 v63 v64 v65 v66 v67 v68 v69 v70 v71 v72 v73 v74 v75 v76 v77 v78 v79 v80 v81 v82 v83 v84 v85 v86 v87 v88 v89 v90 v91 v92 v93 v94 v95 v96 v97 v98 v99 v100 v101 v102 v103 v104 v105 v106 v107 v108 v109 v110 v111 v112 v113 v114 v115 v116 v117 v118 v119 v120 v121 v122 v123 v124 v125 v126 v127 v128 v129 v130 v131 v132 v133 v134 v135 v136 v137 v138 v139 v140 v141 v142 v143 v144 v145 v146 v147 v148 v149 v150 v151 v152 v153 v154 v155 v156 v157 v158 v159 v161 v162 v163 v164 v165 v166 v167 v168 v169 v170 v171 v172 v173 v174 v175 v176 v177 v178 v179 v180 v181 v182 v183 v184 v185 v186 v187 v188 v189 v190 v191 v192 v193 v194 v195 v196 v197 v198 v199 v200 w6 s6
  have c6 := c5.bel s6.bel
  have oW6 := own_bel s6.bel (own_lt oW5) oW5
  clear c5 G5 oW5 o5
  have G6 := gc_bel c6.B hg
  (refine bt_ctl rfl (fun _ => stepG_cond (t := false) rfl) ?_; simp only [if_true, if_false, Bool.false_eq_true, ↓reduceIte])
  (repeat (first | (first | refine bt_ctl rfl (fun _ => stepG_seq) ?_ | refine bt_ctl rfl (fun _ => stepG_skip) ?_ | refine bt_ctl rfl (fun _ => stepG_region_end) ?_ | refine bt_ctl rfl (fun _ => stepG_ret') ?_ | (refine bt_ctl rfl (fun _ => stepG_region) ?_; simp only [List.size_toArray, List.length_cons, List.length_nil, Nat.reduceAdd, Nat.zero_add, List.range, List.range.loop])) | (refine bt_cons zgOk.bodied rfl (by rfl) (by decide) (by decide) (fun dzz Kzz hKzz => ?_); go_simp; refine hKzz _ _ (fun b hb => hb) (bt_at ?_); clear hKzz Kzz; try walk_nrm) | (refine bt_skip rfl (by rfl) ?_; try walk_nrm)))
  refine q20 a len cap gn cn gb cb gL cL ns zs L gW cW n0 w6 G6 hL100 hni (ns_cell dn.hs c6.b2 hn0) (kls_own c6.oL) (fun j y hy => ?_) _ _ _ _ _ _ _ _ _ _ _ _ _ _ _ _ _ _ _ _ _ _ _ _ _ _ _ _ _ _ _ _ _ _ _ _ _ _ _ _ _ _ _ _ _ _ _ _ _ _ _ _ _ _ _ _ _ _ _ _ _ _ _ _ _ _ _ _ _ _ _ _ _ _ _ _ _ _ _ _ _ _ _ _ _ _ _ _ _ _ _ _ _ _ _ _ _ _ _ _ _ _ _ _ _ _ _ _ _ _ _ _ _ _ _ _ _ _ _ _ _ _ _ _ _ _ _ _ _ _ _ _ _ _ _ _ _ _ _ _ _ _ _ _ _ _ _ _ _ _ _ _ _ _ _ _ _ _ _ _ _ _ _ _ _ _ _ _ _ _ _ _ _ _ _ _ _ _ _ _ _ _ _ _ _ _ _ _ _ _ _ _ _ _ _ _ _ ?_
  · refine ownI_at ?_ oW6
    rw [← hVe, hVb, List.getElem?_map, hy]
    rfl
  intro v1 v2 v6 v7 v8 v9 v10 v11 v12 v13 v14 v15 v16 v17 v18 v19 v20 v21 v22 v23 v24 v25 v26 v27 v28 v29 v30 v31 v32 v33 v34 v35 v36 v37 v38 v39 v40 v41 v42 v43 v44 v45 v46 v47 v48 v49 v50 v51 v52 v53 v54 v55 v56 v57 v58 v59 v60 v61 v62 v63 v64 v65 v66 v67 v68 v69 v70 v71 v72 v73 v74 v75 v76 v77 v78 v79 v80 v81 v82 v83 v84 v85 v86 v87 v88 v89 v90 v91 v92 v93 v94 v95 v96 v97 v98 v99 v100 v101 v102 v103 v104 v105 v106 v107 v108 v109 v110 v111 v112 v113 v114 v115 v116 v117 v118 v119 v120 v121 v122 v123 v124 v125 v126 v127 v128 v129 v130 v131 v132 v133 v134 v135 v136 v137 v138 v139 v140 v141 v142 v143 v144 v145 v146 v147 v148 v149 v150 v151 v152 v153 v154 v155 v156 v157 v158 v159 v160 v161 v162 v163 v164 v165 v166 v167 v168 v169 v170 v171 v172 v173 v174 v175 v176 v177 v178 v179 v180 v181 v182 v183 v184 v185 v186 v187 v188 v189 v190 v191 v192 v193 v194 v195 v196 v197 v198 v199 v200 w7 s7
  (repeat (first | (first | refine bt_ctl rfl (fun _ => stepG_seq) ?_ | refine bt_ctl rfl (fun _ => stepG_skip) ?_ | refine bt_ctl rfl (fun _ => stepG_region_end) ?_ | refine bt_ctl rfl (fun _ => stepG_ret') ?_ | (refine bt_ctl rfl (fun _ => stepG_region) ?_; simp only [List.size_toArray, List.length_cons, List.length_nil, Nat.reduceAdd, Nat.zero_add, List.range, List.range.loop])) | (refine bt_cons zgOk.bodied rfl (by rfl) (by decide) (by decide) (fun dzz Kzz hKzz => ?_); go_simp; refine hKzz _ _ (fun b hb => hb) (bt_at ?_); clear hKzz Kzz; try walk_nrm) | (refine bt_skip rfl (by rfl) ?_; try walk_nrm)))
  exact bt_end3 rfl rfl (c6.bel s7.bel).B
end Go.Proofs.Ytghglpcfpokmhaa
