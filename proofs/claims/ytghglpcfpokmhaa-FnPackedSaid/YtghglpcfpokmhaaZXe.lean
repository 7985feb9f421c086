/-
  FnPacked: its second loop, by a lone walk.
-/
import Derived.Test.YtghglpcfpokmhaaZXb
set_option linter.unusedVariables false
set_option linter.unusedSimpArgs false
namespace Go.Proofs.Ytghglpcfpokmhaa
open Go Go.Conc Go.RowKit
open Go.Proofs.Ytghglpcfpokmhaa.Wk (El BodiesV Bel)
set_option maxRecDepth 100000 in
def F20 (a : Option Addr) (len cap gn cn gb cb gL cL : Nat) (ns : List ByteArray) (zs : List El) (L : List Kl) (x : World) (a' : Act) (w' : World) : Prop := ∃ (v1 v2 v6 v7 v8 v9 v10 v11 v12 v13 v14 v15 v16 v17 v18 v19 v20 v21 v22 v23 v24 v25 v26 v27 v28 v29 v30 v31 v32 v33 v34 v35 v36 v37 v38 v39 v40 v41 v42 v43 v44 v45 v46 v47 v48 v49 v50 v51 v52 v53 v54 v55 v56 v57 v58 v59 v60 v61 v62 v63 v64 v65 v66 v67 v68 v69 v70 v71 v72 v73 v74 v75 v76 v77 v78 v79 v80 v81 v82 v83 v84 v85 v86 v87 v88 v89 v90 v91 v92 v93 v94 v95 v96 v97 v98 v99 v100 v101 v102 v103 v104 v105 v106 v107 v108 v109 v110 v111 v112 v113 v114 v115 v116 v117 v118 v119 v120 v121 v122 v123 v124 v125 v126 v127 v128 v129 v130 v131 v132 v133 v134 v135 v136 v137 v138 v139 v140 v141 v142 v143 v144 v145 v146 v147 v148 v149 v150 v151 v152 v153 v154 v155 v156 v157 v158 v159 v160 v161 v162 v163 v164 v165 v166 v167 v168 v169 v170 v171 v172 v173 v174 v175 v176 v177 v178 v179 v180 v181 v182 v183 v184 v185 v186 v187 v188 v189 v190 v191 v192 v193 v194 v195 v196 v197 v198 v199 v200 : Value), a' = ⟨#[.slice a len cap, v1, v2, .slice (some ⟨gn, 0, none⟩) ns.length cn, .slice (some ⟨gb, 0, none⟩) zs.length cb, .slice (some ⟨gL, 0, none⟩) L.length cL, v6, v7, v8, v9, v10, v11, v12, v13, v14, v15, v16, v17, v18, v19, v20, v21, v22, v23, v24, v25, v26, v27, v28, v29, v30, v31, v32, v33, v34, v35, v36, v37, v38, v39, v40, v41, v42, v43, v44, v45, v46, v47, v48, v49, v50, v51, v52, v53, v54, v55, v56, v57, v58, v59, v60, v61, v62, v63, v64, v65, v66, v67, v68, v69, v70, v71, v72, v73, v74, v75, v76, v77, v78, v79, v80, v81, v82, v83, v84, v85, v86, v87, v88, v89, v90, v91, v92, v93, v94, v95, v96, v97, v98, v99, v100, v101, v102, v103, v104, v105, v106, v107, v108, v109, v110, v111, v112, v113, v114, v115, v116, v117, v118, v119, v120, v121, v122, v123, v124, v125, v126, v127, v128, v129, v130, v131, v132, v133, v134, v135, v136, v137, v138, v139, v140, v141, v142, v143, v144, v145, v146, v147, v148, v149, v150, v151, v152, v153, v154, v155, v156, v157, v158, v159, v160, v161, v162, v163, v164, v165, v166, v167, v168, v169, v170, v171, v172, v173, v174, v175, v176, v177, v178, v179, v180, v181, v182, v183, v184, v185, v186, v187, v188, v189, v190, v191, v192, v193, v194, v195, v196, v197, v198, v199, v200], []⟩ ∧ SameH x w'
set_option maxRecDepth 100000 in
set_option maxHeartbeats 6400000 in
theorem w20 (a : Option Addr) (len cap gn cn gb cb gL cL : Nat) (ns : List ByteArray) (zs : List El) (L : List Kl) (gW cW : Nat) (n0 : ByteArray) (x : World) (hL : L.length ≤ 100) (hn : (0 : Int) < ns.length) (hd : x.cell? ⟨gn, 0, none⟩ = some (.string n0)) (hk : Kls x (some ⟨gL, 0, none⟩) L) (hV : ∀ (j : Nat) (y : Kl), L[j]? = some y → x.cell? ⟨gW, j, none⟩ = some (.int .i64 (if (y.1.toList == n0.toList) = true then 3 else 0))) (v1 v2 v6 v7 v8 v9 v10 v11 v12 v13 v14 v16 v17 v19 v20 v21 v22 v23 v24 v25 v26 v27 v28 v29 v30 v31 v32 v33 v34 v35 v36 v37 v38 v39 v40 v41 v42 v43 v44 v45 v46 v47 v48 v49 v50 v51 v52 v53 v54 v55 v56 v57 v58 v59 v60 v61 v62 v63 v64 v65 v66 v67 v68 v69 v70 v71 v72 v73 v74 v75 v76 v77 v78 v79 v80 v81 v82 v83 v84 v85 v86 v87 v88 v89 v90 v91 v92 v93 v94 v95 v96 v97 v98 v99 v100 v101 v102 v103 v104 v105 v106 v107 v108 v109 v110 v111 v112 v113 v114 v115 v116 v117 v118 v119 v120 v121 v122 v123 v124 v125 v126 v127 v128 v129 v130 v131 v132 v133 v134 v135 v136 v137 v138 v139 v140 v141 v142 v143 v144 v145 v146 v147 v148 v149 v150 v151 v152 v153 v154 v155 v156 v157 v158 v159 v160 v161 v162 v163 v164 v165 v166 v167 v168 v169 v170 v171 v172 v173 v174 v175 v176 v177 v178 v179 v180 v181 v182 v183 v184 v185 v186 v187 v188 v189 v190 v191 v192 v193 v194 v195 v196 v197 v198 v199 v200 : Value) :
    K20.wp Try.prog (fun e a' w' => e = .normal ∧ F20 a len cap gn cn gb cb gL cL ns zs L x a' w') ⟨#[.slice a len cap, v1, v2, .slice (some ⟨gn, 0, none⟩) ns.length cn, .slice (some ⟨gb, 0, none⟩) zs.length cb, .slice (some ⟨gL, 0, none⟩) L.length cL, v6, v7, v8, v9, v10, v11, v12, v13, v14, .slice (some ⟨gW, 0, none⟩) L.length cW, v16, v17, .int .i64 0, v19, v20, v21, v22, v23, v24, v25, v26, v27, v28, v29, v30, v31, v32, v33, v34, v35, v36, v37, v38, v39, v40, v41, v42, v43, v44, v45, v46, v47, v48, v49, v50, v51, v52, v53, v54, v55, v56, v57, v58, v59, v60, v61, v62, v63, v64, v65, v66, v67, v68, v69, v70, v71, v72, v73, v74, v75, v76, v77, v78, v79, v80, v81, v82, v83, v84, v85, v86, v87, v88, v89, v90, v91, v92, v93, v94, v95, v96, v97, v98, v99, v100, v101, v102, v103, v104, v105, v106, v107, v108, v109, v110, v111, v112, v113, v114, v115, v116, v117, v118, v119, v120, v121, v122, v123, v124, v125, v126, v127, v128, v129, v130, v131, v132, v133, v134, v135, v136, v137, v138, v139, v140, v141, v142, v143, v144, v145, v146, v147, v148, v149, v150, v151, v152, v153, v154, v155, v156, v157, v158, v159, v160, v161, v162, v163, v164, v165, v166, v167, v168, v169, v170, v171, v172, v173, v174, v175, v176, v177, v178, v179, v180, v181, v182, v183, v184, v185, v186, v187, v188, v189, v190, v191, v192, v193, v194, v195, v196, v197, v198, v199, v200], []⟩ x := by
  have hV' := hide hV
  have hk' := hide hk
  have hd' := hide hd
  clear hV hk hd
  simp only [K20, sb, st, Try.f3, Option.getD_some]
  go_wp2
  go_loopw [18] (fun t wr => ∃ k : Nat, k ≤ L.length ∧ t = .int .i64 k ∧ Hid (SameH x wr)) (fun t _ => L.length - (intOf t).toNat)
  case atStart => exact ⟨0, by omega, rfl, hide ⟨rfl, rfl, rfl⟩⟩
  case round =>
    obtain ⟨k, hk, rfl, S⟩ := hrel
    by_cases hlt : k < L.length
    · have g1 : decide ((k : Int) < L.length) = true := by simp; omega
      obtain ⟨y, hy⟩ : ∃ y, L[k]? = some y := ⟨L[k], List.getElem?_eq_getElem hlt⟩
      have hcell : ∀ p, wr.cell? p = x.cell? p := fun p => by simp only [World.cell?, (unhide S).1]
      obtain ⟨bx, o, ea, i1, c0, c1, c2⟩ := (unhide hk') k y hy
      cases ea
      have d0 := (hcell _).trans c0
      have d1 := (hcell _).trans (unhide hd')
      have d2 := (hcell _).trans (unhide hV' k y hy)
      have d3 := d0
      rw [Nat.zero_add] at d3
      clear c0 c1 c2 hcell i1 hy
      obtain ⟨s, u1, u2⟩ := y
      simp only at d0 d2 d3
      cases he : (s.toList == n0.toList) with
      | true =>
        have he2 : (s.toList != n0.toList) = false := by simp only [bne, he]; rfl
        rw [he] at d2
        simp only [if_true] at d2
        go_wp2_with fail
        go_quiet (fail)
        generalize hYY : World.drewN _ _ = Y
        have SY := hide (show SameH x Y by rw [← hYY]; exact unhide S)
        clear hYY S d0 d1 d2 d3
        go_wp2
        go_roundw
        case rel => exact ⟨k + 1, by omega, by go_num, SY⟩
        case measure => simp [intOf]; omega
      | false =>
        have he2 : (s.toList != n0.toList) = true := by simp only [bne, he]; rfl
        rw [he] at d2
        simp only [if_false, Bool.false_eq_true] at d2
        go_wp2_with fail
        go_quiet (fail)
        generalize hYY : World.drewN _ _ = Y
        have SY := hide (show SameH x Y by rw [← hYY]; exact unhide S)
        clear hYY S d0 d1 d2 d3
        go_wp2
        go_roundw
        case rel => exact ⟨k + 1, by omega, by go_num, SY⟩
        case measure => simp [intOf]; omega
    · have g1 : decide ((k : Int) < L.length) = false := by simp; omega
      go_wp2
      exact ⟨_, _, _, _, _, _, _, _, _, _, _, _, _, _, _, _, _, _, _, _, _, _, _, _, _, _, _, _, _, _, _, _, _, _, _, _, _, _, _, _, _, _, _, _, _, _, _, _, _, _, _, _, _, _, _, _, _, _, _, _, _, _, _, _, _, _, _, _, _, _, _, _, _, _, _, _, _, _, _, _, _, _, _, _, _, _, _, _, _, _, _, _, _, _, _, _, _, _, _, _, _, _, _, _, _, _, _, _, _, _, _, _, _, _, _, _, _, _, _, _, _, _, _, _, _, _, _, _, _, _, _, _, _, _, _, _, _, _, _, _, _, _, _, _, _, _, _, _, _, _, _, _, _, _, _, _, _, _, _, _, _, _, _, _, _, _, _, _, _, _, _, _, _, _, _, _, _, _, _, _, _, _, _, _, _, _, _, _, _, _, _, _, _, _, _, _, _, rfl, unhide S⟩
end Go.Proofs.Ytghglpcfpokmhaa
