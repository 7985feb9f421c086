/-
  FnPacked: the law's own calls beside leavers; what is drawn, as the workers read it.
  FnPacked: its first loop and its first tests, by lone walks.
-/
import Derived.Test.YtghglpcfpokmhaaZTw
import Derived.Test.YtghglpcfpokmhaaZDrC
import Derived.Test.YtghglpcfpokmhaaZPqP
set_option linter.unusedVariables false
set_option linter.unusedSimpArgs false
namespace Go.Proofs.Ytghglpcfpokmhaa
open Go Go.Conc Go.RowKit
open Go.Proofs.Ytghglpcfpokmhaa.Bb (Tks TO TW Rng tot)
open Go.Proofs.Ytghglpcfpokmhaa.Wk (El BodiesV Bel)
open Go.Proofs.Ytghglpcfpokmhaa.Br (Pz rt BT AtEnd0)
theorem big_any (a : Option Addr) (n c : Nat) (w : World) : Calls Try.prog 4 #[.slice a n c] w fun e w' => e = .returned (.bool (decide (4096 < n))) ∧ w' = w := by
  go_enter Try.func4, Try.ntmps4
  go_wp2
  go_ret
  exact ⟨ret_bool (by simp; omega), rfl⟩
theorem pick_any (a : Option Addr) (len cap : Nat) (m : Int) (w : World) (B : Nat) (hl : len ≤ 4096) (hm : 0 < m) (hr : RdB w B a len) :
    Calls Try.prog 11 #[.slice a len cap, .int .i64 m] w fun e w' => ∃ x, e = .returned (.int .i64 x) ∧ 0 ≤ x ∧ x < m ∧ w' = w := by
  have hr' := hide hr
  clear hr
  go_enter Try.func11, Try.ntmps11
  go_wp2
  go_loop [5, 6] (fun s t => ∃ (k : Nat) (q : Int), k ≤ len ∧ t = .int .i64 k ∧ s = .int .i64 q ∧ 0 ≤ q ∧ q ≤ 1000003) (fun _ t => len - (intOf t).toNat)
  case atStart => exact ⟨0, _, Nat.zero_le _, rfl, rfl, by omega, by omega⟩
  case round =>
    obtain ⟨k, q, hk, rfl, rfl, q0, q1⟩ := hrel
    by_cases hlt : k < len
    · obtain ⟨b, o, z, rfl, _, hc, z0, z1⟩ := unhide hr' k hlt
      go_wp2
      go_round
      case rel => exact ⟨k + 1, _, by omega, by go_num, rfl, by omega, by omega⟩
      case measure => simp [intOf]; omega
    · go_wp2
      go_ret
      exact ⟨_, rfl, Int.emod_nonneg _ (by omega), Int.emod_lt_of_pos _ hm, rfl⟩
theorem big_R (w : World) (a : Option Addr) (n c : Nat) (T : Nat → Question → Nat) (d : Nat) :
    Calls Try.prog 4 #[.slice a n c] (rt T d w) fun e w' => ∃ v, e = .returned v ∧ RPo w (decide (4096 < n)) v w' :=
  (big_any a n c (rt T d w)).mono fun e w' ⟨h1, h2⟩ => ⟨_, h1, rfl, by rw [h2]; exact (Wk.Bel.refl w).rtt T d⟩
def RDk (w : World) (v : Value) (w' : World) : Prop := ∃ gn n cn A gb m cb vs ts, v = .tuple #[.slice (some ⟨gn, 0, none⟩) n cn, .slice (some ⟨gb, 0, none⟩) m cb] ∧ n ≤ 110 ∧ m ≤ 110 ∧ OwnS w' w.heap.size gn n cn A ∧ OwnV w' w.heap.size gb m cb vs ∧ ts.length = m ∧ Rw w' w.heap.size vs ts ∧ (∀ s ∈ A, s.size ≤ 40) ∧ Bel w.heap.size w w'
theorem dpk_R (w : World) (a : Option Addr) (len cap : Nat) (hl2 : len ≤ 4096) (hr : RdB w w.heap.size a len) (T : Nat → Question → Nat) (d : Nat) :
    Calls Try.prog 5 #[.slice a len cap] (rt T d w) fun e w' => ∃ v, e = .returned v ∧ RDk w v w' :=
  (dpk_any a len cap (rt T d w) hl2 hr).mono fun e w' ⟨gn, n, cn, A, gb, m, cb, vs, ts, h1, h2, h3, h4, h5, h6, h7, h8, h9⟩ => ⟨_, h1, gn, n, cn, A, gb, m, cb, vs, ts, rfl, h2, h3, h4, h5, h6, h7, h8, bel_rt h9⟩
theorem RDk.i {w : World} (v : Value) (w' : World) (T : Nat → Question → Nat) (d : Nat) (h : RDk w v w') : RDk w v (rt T d w') := by
  obtain ⟨gn, n, cn, A, gb, m, cb, vs, ts, h1, h2, h3, h4, h5, h6, h7, h8, h9⟩ := h
  exact ⟨gn, n, cn, A, gb, m, cb, vs, ts, h1, h2, h3, h4, h5, h6, h7, h8, h9.rtt T d⟩
theorem RDk.e {w : World} (v : Value) (w' : World) (h : RDk w v w') : ∀ b, Pz w b → Pz w' b := by
  obtain ⟨gn, n, cn, A, gb, m, cb, vs, ts, h1, h2, h3, h4, h5, h6, h7, h8, h9⟩ := h
  exact h9.kp
def RUp (w : World) (A B : List ByteArray) (v : Value) (w' : World) : Prop := ∃ g1 c1 g2 c2, v = .tuple #[.slice (some ⟨g1, 0, none⟩) A.length c1, .slice (some ⟨g2, 0, none⟩) B.length c2] ∧ OwnS w' w.heap.size g1 A.length c1 A ∧ Bel w.heap.size w w'
theorem iup_R (w : World) (a b : Option Addr) (ca cb : Nat) (l m : List Kl) (hl : l.length ≤ 1048576) (hm : m.length ≤ 1048576) (hzl : SzOk l) (hzm : SzOk m) (hc : ∀ x ∈ l, x.1.size ≤ 1048576) (hd : ∀ x ∈ m, x.1.size ≤ 1048576) (hk : Kls w a l) (hj : Kls w b m) (T : Nat → Question → Nat) (d : Nat) :
    Calls Try.prog 10 #[.slice a l.length ca, .slice b m.length cb] (rt T d w) fun e w' => ∃ v, e = .returned v ∧ RUp w (updS l m) (updG l m) v w' :=
  (iup_any a b ca cb l m (rt T d w) hl hm hzl hzm hc hd hk hj).mono fun e w' ⟨g1, c1, g2, c2, h1, h2⟩ => ⟨_, h1, g1, c1, g2, c2, rfl, h2.o1, bel_rt h2.bel⟩
theorem RUp.i {w : World} {A B : List ByteArray} (v : Value) (w' : World) (T : Nat → Question → Nat) (d : Nat) (h : RUp w A B v w') : RUp w A B v (rt T d w') := by
  obtain ⟨g1, c1, g2, c2, h1, h2, h3⟩ := h; exact ⟨g1, c1, g2, c2, h1, h2, h3.rtt T d⟩
theorem RUp.e {w : World} {A B : List ByteArray} (v : Value) (w' : World) (h : RUp w A B v w') : ∀ b, Pz w b → Pz w' b := by
  obtain ⟨g1, c1, g2, c2, h1, h2, h3⟩ := h; exact h3.kp
/-- what is drawn, as the workers read it -/
theorem rw_bodies {w : World} {B B2 gb m cb : Nat} {vs : List Value} {ts : List (List Int)} (ho : OwnV w B gb m cb vs) (hl : ts.length = m) (hr : Rw w B2 vs ts) : ∃ zs : List El, zs.length = m ∧ zs.map (·.l) = ts ∧ zs.map El.v = vs ∧ (∀ e ∈ zs, ∃ G, e.p = some ⟨G, 0, none⟩ ∧ G < w.heap.size) ∧ BodiesV w zs (some ⟨gb, 0, none⟩) := by
  have hvl : vs.length = m := by have := ho.1; simpa using this
  obtain ⟨zs, hz, hP⟩ := els_of (fun j e => ts[j]? = some e.l ∧ vs[j]? = some e.v ∧ ∃ G, e.p = some ⟨G, 0, none⟩ ∧ OwnB w B2 G e.l.length e.cap e.l ∧ Byt e.l) m fun j hj => by
    have e1 : ts[j]? = some (ts[j]'(by omega)) := List.getElem?_eq_getElem (by omega)
    obtain ⟨G, cc, h1, h2, h3, h4⟩ := hr j _ e1
    exact ⟨⟨some ⟨G, 0, none⟩, cc, _⟩, e1, h1, G, rfl, h2, h3⟩
  have at_ : ∀ j, j < m → ∃ e, zs[j]? = some e ∧ ts[j]? = some e.l ∧ vs[j]? = some e.v := fun j hj => by
    have e : zs[j]? = some (zs[j]'(by omega)) := List.getElem?_eq_getElem (by omega)
    obtain ⟨h1, h2, _⟩ := hP j _ e
    exact ⟨_, e, h1, h2⟩
  refine ⟨zs, hz, ?_, ?_, ?_, ?_, ?_⟩
  · apply List.ext_getElem?
    intro j
    rw [List.getElem?_map]
    by_cases hj : j < m
    · obtain ⟨e, h1, h2, h3⟩ := at_ j hj
      rw [h1, h2]; rfl
    · rw [List.getElem?_eq_none (by omega), List.getElem?_eq_none (by omega)]; rfl
  · apply List.ext_getElem?
    intro j
    rw [List.getElem?_map]
    by_cases hj : j < m
    · obtain ⟨e, h1, h2, h3⟩ := at_ j hj
      rw [h1, h3]; rfl
    · rw [List.getElem?_eq_none (by omega), List.getElem?_eq_none (by omega)]; rfl
  · intro e he
    obtain ⟨j, hj⟩ := List.getElem?_of_mem he
    obtain ⟨_, _, G, h1, h2, _⟩ := hP j e hj
    exact ⟨G, h1, own_lt h2⟩
  · intro j e hj
    have hlt : j < m := by have := (List.getElem?_eq_some_iff.1 hj).1; omega
    obtain ⟨_, h2, _⟩ := hP j e hj
    refine ⟨gb, 0, rfl, own_lt ho, ?_⟩
    have := ho.cellAt j (by omega)
    rw [Nat.zero_add, this]; exact h2
  · intro e he
    obtain ⟨j, hj⟩ := List.getElem?_of_mem he
    obtain ⟨_, _, G, h1, h2, h3⟩ := hP j e hj
    refine ⟨by rw [h1]; exact bys_own h2, h3, own_capge h2, ?_⟩
    rcases h2.2 with ⟨hv, _⟩ | ⟨g', cap', cur, hv, hB, hh, hc, hm, _⟩
    · cases hv
    · injection hv with e1 e2 e3
      rw [e3]; exact hm
theorem bt_end3 [Br.Thr] {w W : World} {a : Act} {todo : List Item} (hd : a.defers = []) (h : a.tmps.getD 2 undef = .bool true) (hw : Bel W.heap.size W w) : BT Try.prog (AtEnd0 Try.prog (PostL W)) (G { (base 3).at a todo with mode := .returning } []) w := by
  refine Br.BT.done ⟨rfl, fun X => ⟨.bool true, ?_, rfl, hw⟩⟩
  have h2 : a.tmps[2]?.getD undef = .bool true := by rw [← h, Array.getD_eq_getD_getElem?]
  simp [G, stepG, unwind, doReturn, results, Frame.at, base, Try.func3, Try.f3, seen, GStep.after, hd, h2]
/-- all stands -/
def SameH (x w' : World) : Prop := w'.heap = x.heap ∧ w'.os = x.os ∧ w'.output = x.output
theorem SameH.bel {x w' : World} (h : SameH x w') : Bel x.heap.size x w' := ⟨h.2.1, h.2.2, by rw [h.1]; exact Nat.le_refl _, fun k _ => by rw [h.1]⟩
/-- all that was there stands -/
def BelH (x w' : World) : Prop := w'.os = x.os ∧ w'.output = x.output ∧ x.heap.size ≤ w'.heap.size ∧ ∀ k, k < x.heap.size → w'.heap[k]? = x.heap[k]?
theorem BelH.bel {x w' : World} (h : BelH x w') : Bel x.heap.size x w' := ⟨h.1, h.2.1, h.2.2.1, h.2.2.2⟩
/-- all but the block g stands -/
def GroH (g : Nat) (x w' : World) : Prop := w'.os = x.os ∧ w'.output = x.output ∧ x.heap.size ≤ w'.heap.size ∧ ∀ k, k < x.heap.size → k ≠ g → w'.heap[k]? = x.heap[k]?
theorem GroH.gro {g : Nat} {x w' : World} (h : GroH g x w') : Gro g x w' := ⟨h.1, h.2.1, h.2.2.1, h.2.2.2⟩
def st : Nat → Code → Code
  | 0, .seq a _ => a
  | k + 1, .seq _ r => st k r
  | _, c => c
def sd : Nat → Code → Code
  | 0, c => c
  | k + 1, .seq _ r => sd k r
  | _, c => c
def sa : Code → Code
  | .seq a _ => a
  | c => c
def sb : Code → Code
  | .seq _ b => b
  | c => c
noncomputable def K8 : Code := sb (st 8 (Try.f3.body.getD .skip))
noncomputable def K11 : Code := sa (st 11 (Try.f3.body.getD .skip))
noncomputable def K12 : Code := st 12 (Try.f3.body.getD .skip)
noncomputable def K13 : Code := st 13 (Try.f3.body.getD .skip)
noncomputable def K14 : Code := st 14 (Try.f3.body.getD .skip)
noncomputable def K15 : Code := st 15 (Try.f3.body.getD .skip)
noncomputable def K19 : Code := sa (st 19 (Try.f3.body.getD .skip))
noncomputable def K20 : Code := sb (st 20 (Try.f3.body.getD .skip))
theorem ok8 : Br.okC (Br.okOp Zg Try.prog []) K8 = true := by kernel_rfl
theorem ok11 : Br.okC (Br.okOp Zg Try.prog []) K11 = true := by kernel_rfl
theorem ok12 : Br.okC (Br.okOp Zg Try.prog []) K12 = true := by kernel_rfl
theorem ok13 : Br.okC (Br.okOp Zg Try.prog []) K13 = true := by kernel_rfl
theorem ok14 : Br.okC (Br.okOp Zg Try.prog []) K14 = true := by kernel_rfl
theorem ok15 : Br.okC (Br.okOp Zg Try.prog []) K15 = true := by kernel_rfl
theorem ok19 : Br.okC (Br.okOp Zg Try.prog []) K19 = true := by kernel_rfl
theorem ok20 : Br.okC (Br.okOp Zg Try.prog []) K20 = true := by kernel_rfl
end Go.Proofs.Ytghglpcfpokmhaa

set_option linter.unusedVariables false
set_option linter.unusedSimpArgs false
namespace Go.Proofs.Ytghglpcfpokmhaa
open Go Go.Conc Go.RowKit
open Go.Proofs.Ytghglpcfpokmhaa.Wk (El BodiesV Bel)
set_option maxRecDepth 100000 in
def F8 (a : Option Addr) (len cap gn cn gb cb gL cL : Nat) (ns : List ByteArray) (zs : List El) (L : List Kl) (gV cV : Nat) (x : World) (a' : Act) (w' : World) : Prop := ∃ (v1 v2 v6 v7 v8 v10 v11 v12 v13 v14 v15 v16 v17 v18 v19 v20 v21 v22 v23 v24 v25 v26 v27 v28 v29 v30 v31 v32 v33 v34 v35 v36 v37 v38 v39 v40 v41 v42 v43 v44 v45 v46 v47 v48 v49 v50 v51 v52 v53 v54 v55 v56 v57 v58 v59 v60 v61 v62 v63 v64 v65 v66 v67 v68 v69 v70 v71 v72 v73 v74 v75 v76 v77 v78 v79 v80 v81 v82 v83 v84 v85 v86 v87 v88 v89 v90 v91 v92 v93 v94 v95 v96 v97 v98 v99 v100 v101 v102 v103 v104 v105 v106 v107 v108 v109 v110 v111 v112 v113 v114 v115 v116 v117 v118 v119 v120 v121 v122 v123 v124 v125 v126 v127 v128 v129 v130 v131 v132 v133 v134 v135 v136 v137 v138 v139 v140 v141 v142 v143 v144 v145 v146 v147 v148 v149 v150 v151 v152 v153 v154 v155 v156 v157 v158 v159 v160 v161 v162 v163 v164 v165 v166 v167 v168 v169 v170 v171 v172 v173 v174 v175 v176 v177 v178 v179 v180 v181 v182 v183 v184 v185 v186 v187 v188 v189 v190 v191 v192 v193 v194 v195 v196 v197 v198 v199 v200 : Value), a' = ⟨#[.slice a len cap, v1, v2, .slice (some ⟨gn, 0, none⟩) ns.length cn, .slice (some ⟨gb, 0, none⟩) zs.length cb, .slice (some ⟨gL, 0, none⟩) L.length cL, v6, v7, v8, .slice (some ⟨gV, 0, none⟩) L.length cV, v10, v11, v12, v13, v14, v15, v16, v17, v18, v19, v20, v21, v22, v23, v24, v25, v26, v27, v28, v29, v30, v31, v32, v33, v34, v35, v36, v37, v38, v39, v40, v41, v42, v43, v44, v45, v46, v47, v48, v49, v50, v51, v52, v53, v54, v55, v56, v57, v58, v59, v60, v61, v62, v63, v64, v65, v66, v67, v68, v69, v70, v71, v72, v73, v74, v75, v76, v77, v78, v79, v80, v81, v82, v83, v84, v85, v86, v87, v88, v89, v90, v91, v92, v93, v94, v95, v96, v97, v98, v99, v100, v101, v102, v103, v104, v105, v106, v107, v108, v109, v110, v111, v112, v113, v114, v115, v116, v117, v118, v119, v120, v121, v122, v123, v124, v125, v126, v127, v128, v129, v130, v131, v132, v133, v134, v135, v136, v137, v138, v139, v140, v141, v142, v143, v144, v145, v146, v147, v148, v149, v150, v151, v152, v153, v154, v155, v156, v157, v158, v159, v160, v161, v162, v163, v164, v165, v166, v167, v168, v169, v170, v171, v172, v173, v174, v175, v176, v177, v178, v179, v180, v181, v182, v183, v184, v185, v186, v187, v188, v189, v190, v191, v192, v193, v194, v195, v196, v197, v198, v199, v200], []⟩ ∧ SameH x w'
set_option maxRecDepth 100000 in
set_option maxHeartbeats 6400000 in
theorem w8 (a : Option Addr) (len cap gn cn gb cb gL cL : Nat) (ns : List ByteArray) (zs : List El) (L : List Kl) (gV cV : Nat) (x : World) (hL : L.length ≤ 100) (hV : ∀ j, j < L.length → x.cell? ⟨gV, j, none⟩ = some (.int .i64 0)) (v1 v2 v6 v7 v8 v11 v12 v13 v14 v15 v16 v17 v18 v19 v20 v21 v22 v23 v24 v25 v26 v27 v28 v29 v30 v31 v32 v33 v34 v35 v36 v37 v38 v39 v40 v41 v42 v43 v44 v45 v46 v47 v48 v49 v50 v51 v52 v53 v54 v55 v56 v57 v58 v59 v60 v61 v62 v63 v64 v65 v66 v67 v68 v69 v70 v71 v72 v73 v74 v75 v76 v77 v78 v79 v80 v81 v82 v83 v84 v85 v86 v87 v88 v89 v90 v91 v92 v93 v94 v95 v96 v97 v98 v99 v100 v101 v102 v103 v104 v105 v106 v107 v108 v109 v110 v111 v112 v113 v114 v115 v116 v117 v118 v119 v120 v121 v122 v123 v124 v125 v126 v127 v128 v129 v130 v131 v132 v133 v134 v135 v136 v137 v138 v139 v140 v141 v142 v143 v144 v145 v146 v147 v148 v149 v150 v151 v152 v153 v154 v155 v156 v157 v158 v159 v160 v161 v162 v163 v164 v165 v166 v167 v168 v169 v170 v171 v172 v173 v174 v175 v176 v177 v178 v179 v180 v181 v182 v183 v184 v185 v186 v187 v188 v189 v190 v191 v192 v193 v194 v195 v196 v197 v198 v199 v200 : Value) :
    K8.wp Try.prog (fun e a' w' => e = .normal ∧ F8 a len cap gn cn gb cb gL cL ns zs L gV cV x a' w') ⟨#[.slice a len cap, v1, v2, .slice (some ⟨gn, 0, none⟩) ns.length cn, .slice (some ⟨gb, 0, none⟩) zs.length cb, .slice (some ⟨gL, 0, none⟩) L.length cL, v6, v7, v8, .slice (some ⟨gV, 0, none⟩) L.length cV, .int .i64 0, v11, v12, v13, v14, v15, v16, v17, v18, v19, v20, v21, v22, v23, v24, v25, v26, v27, v28, v29, v30, v31, v32, v33, v34, v35, v36, v37, v38, v39, v40, v41, v42, v43, v44, v45, v46, v47, v48, v49, v50, v51, v52, v53, v54, v55, v56, v57, v58, v59, v60, v61, v62, v63, v64, v65, v66, v67, v68, v69, v70, v71, v72, v73, v74, v75, v76, v77, v78, v79, v80, v81, v82, v83, v84, v85, v86, v87, v88, v89, v90, v91, v92, v93, v94, v95, v96, v97, v98, v99, v100, v101, v102, v103, v104, v105, v106, v107, v108, v109, v110, v111, v112, v113, v114, v115, v116, v117, v118, v119, v120, v121, v122, v123, v124, v125, v126, v127, v128, v129, v130, v131, v132, v133, v134, v135, v136, v137, v138, v139, v140, v141, v142, v143, v144, v145, v146, v147, v148, v149, v150, v151, v152, v153, v154, v155, v156, v157, v158, v159, v160, v161, v162, v163, v164, v165, v166, v167, v168, v169, v170, v171, v172, v173, v174, v175, v176, v177, v178, v179, v180, v181, v182, v183, v184, v185, v186, v187, v188, v189, v190, v191, v192, v193, v194, v195, v196, v197, v198, v199, v200], []⟩ x := by
  have hV' := hide hV
  clear hV
  simp only [K8, sb, st, Try.f3, Option.getD_some]
  go_wp2
  go_loop [10] (fun t => ∃ k : Nat, k ≤ L.length ∧ t = .int .i64 k) (fun t => L.length - (intOf t).toNat)
  case atStart => exact ⟨0, by omega, rfl⟩
  case round =>
    obtain ⟨k, hk, rfl⟩ := hrel
    by_cases hlt : k < L.length
    · have g1 : decide ((k : Int) < L.length) = true := by simp; omega
      have c0 := unhide hV' k hlt
      go_wp2
      go_round
      case rel => exact ⟨k + 1, by omega, by go_num⟩
      case measure => simp [intOf]; omega
    · have g1 : decide ((k : Int) < L.length) = false := by simp; omega
      go_wp2
      exact ⟨_, _, _, _, _, _, _, _, _, _, _, _, _, _, _, _, _, _, _, _, _, _, _, _, _, _, _, _, _, _, _, _, _, _, _, _, _, _, _, _, _, _, _, _, _, _, _, _, _, _, _, _, _, _, _, _, _, _, _, _, _, _, _, _, _, _, _, _, _, _, _, _, _, _, _, _, _, _, _, _, _, _, _, _, _, _, _, _, _, _, _, _, _, _, _, _, _, _, _, _, _, _, _, _, _, _, _, _, _, _, _, _, _, _, _, _, _, _, _, _, _, _, _, _, _, _, _, _, _, _, _, _, _, _, _, _, _, _, _, _, _, _, _, _, _, _, _, _, _, _, _, _, _, _, _, _, _, _, _, _, _, _, _, _, _, _, _, _, _, _, _, _, _, _, _, _, _, _, _, _, _, _, _, _, _, _, _, _, _, _, _, _, _, _, _, _, rfl, rfl, rfl, rfl⟩
set_option maxRecDepth 100000 in
def F11 (a : Option Addr) (len cap gn cn gb cb gL cL : Nat) (ns : List ByteArray) (zs : List El) (L : List Kl) (bb : Bool) (x : World) (a' : Act) (w' : World) : Prop := ∃ (v1 v2 v6 v7 v8 v9 v10 v11 v12 v13 v14 v15 v16 v17 v18 v19 v20 v21 v22 v23 v24 v25 v26 v27 v28 v29 v30 v31 v32 v33 v34 v35 v36 v37 v38 v39 v40 v41 v42 v43 v44 v45 v46 v47 v48 v49 v50 v51 v52 v53 v54 v55 v56 v57 v58 v59 v60 v61 v62 v63 v64 v65 v66 v67 v68 v69 v70 v71 v72 v73 v74 v75 v76 v77 v78 v79 v80 v81 v82 v83 v84 v85 v86 v87 v88 v89 v90 v91 v92 v93 v94 v95 v96 v97 v98 v100 v101 v102 v103 v104 v105 v106 v107 v108 v109 v110 v111 v112 v113 v114 v115 v116 v117 v118 v119 v120 v121 v122 v123 v124 v125 v126 v127 v128 v129 v130 v131 v132 v133 v134 v135 v136 v137 v138 v139 v140 v141 v142 v143 v144 v145 v146 v147 v148 v149 v150 v151 v152 v153 v154 v155 v156 v157 v158 v159 v160 v161 v162 v163 v164 v165 v166 v167 v168 v169 v170 v171 v172 v173 v174 v175 v176 v177 v178 v179 v180 v181 v182 v183 v184 v185 v186 v187 v188 v189 v190 v191 v192 v193 v194 v195 v196 v197 v198 v199 v200 : Value), a' = ⟨#[.slice a len cap, v1, v2, .slice (some ⟨gn, 0, none⟩) ns.length cn, .slice (some ⟨gb, 0, none⟩) zs.length cb, .slice (some ⟨gL, 0, none⟩) L.length cL, v6, v7, v8, v9, v10, v11, v12, v13, v14, v15, v16, v17, v18, v19, v20, v21, v22, v23, v24, v25, v26, v27, v28, v29, v30, v31, v32, v33, v34, v35, v36, v37, v38, v39, v40, v41, v42, v43, v44, v45, v46, v47, v48, v49, v50, v51, v52, v53, v54, v55, v56, v57, v58, v59, v60, v61, v62, v63, v64, v65, v66, v67, v68, v69, v70, v71, v72, v73, v74, v75, v76, v77, v78, v79, v80, v81, v82, v83, v84, v85, v86, v87, v88, v89, v90, v91, v92, v93, v94, v95, v96, v97, v98, .bool bb, v100, v101, v102, v103, v104, v105, v106, v107, v108, v109, v110, v111, v112, v113, v114, v115, v116, v117, v118, v119, v120, v121, v122, v123, v124, v125, v126, v127, v128, v129, v130, v131, v132, v133, v134, v135, v136, v137, v138, v139, v140, v141, v142, v143, v144, v145, v146, v147, v148, v149, v150, v151, v152, v153, v154, v155, v156, v157, v158, v159, v160, v161, v162, v163, v164, v165, v166, v167, v168, v169, v170, v171, v172, v173, v174, v175, v176, v177, v178, v179, v180, v181, v182, v183, v184, v185, v186, v187, v188, v189, v190, v191, v192, v193, v194, v195, v196, v197, v198, v199, v200], []⟩ ∧ SameH x w'
set_option maxRecDepth 100000 in
set_option maxHeartbeats 6400000 in
theorem w11a (a : Option Addr) (len cap gn cn gb cb gL cL : Nat) (ns : List ByteArray) (zs : List El) (L : List Kl) (x : World) (hn : ((ns.length : Int) == 0) = true) (v1 v2 v6 v7 v8 v9 v10 v11 v12 v13 v14 v15 v16 v17 v18 v19 v20 v21 v22 v23 v24 v25 v26 v27 v28 v29 v30 v31 v32 v33 v34 v35 v36 v37 v38 v39 v40 v41 v42 v43 v44 v45 v46 v47 v48 v49 v50 v51 v52 v53 v54 v55 v56 v57 v58 v59 v60 v61 v62 v63 v64 v65 v66 v67 v68 v69 v70 v71 v72 v73 v74 v75 v76 v77 v78 v79 v80 v81 v82 v83 v84 v85 v86 v87 v88 v89 v90 v91 v92 v93 v94 v95 v96 v97 v98 v99 v100 v101 v102 v103 v104 v105 v106 v107 v108 v109 v110 v111 v112 v113 v114 v115 v116 v117 v118 v119 v120 v121 v122 v123 v124 v125 v126 v127 v128 v129 v130 v131 v132 v133 v134 v135 v136 v137 v138 v139 v140 v141 v142 v143 v144 v145 v146 v147 v148 v149 v150 v151 v152 v153 v154 v155 v156 v157 v158 v159 v160 v161 v162 v163 v164 v165 v166 v167 v168 v169 v170 v171 v172 v173 v174 v175 v176 v177 v178 v179 v180 v181 v182 v183 v184 v185 v186 v187 v188 v189 v190 v191 v192 v193 v194 v195 v196 v197 v198 v199 v200 : Value) :
    K11.wp Try.prog (fun e a' w' => e = .normal ∧ F11 a len cap gn cn gb cb gL cL ns zs L true x a' w') ⟨#[.slice a len cap, v1, v2, .slice (some ⟨gn, 0, none⟩) ns.length cn, .slice (some ⟨gb, 0, none⟩) zs.length cb, .slice (some ⟨gL, 0, none⟩) L.length cL, v6, v7, v8, v9, v10, v11, v12, v13, v14, v15, v16, v17, v18, v19, v20, v21, v22, v23, v24, v25, v26, v27, v28, v29, v30, v31, v32, v33, v34, v35, v36, v37, v38, v39, v40, v41, v42, v43, v44, v45, v46, v47, v48, v49, v50, v51, v52, v53, v54, v55, v56, v57, v58, v59, v60, v61, v62, v63, v64, v65, v66, v67, v68, v69, v70, v71, v72, v73, v74, v75, v76, v77, v78, v79, v80, v81, v82, v83, v84, v85, v86, v87, v88, v89, v90, v91, v92, v93, v94, v95, v96, v97, v98, v99, v100, v101, v102, v103, v104, v105, v106, v107, v108, v109, v110, v111, v112, v113, v114, v115, v116, v117, v118, v119, v120, v121, v122, v123, v124, v125, v126, v127, v128, v129, v130, v131, v132, v133, v134, v135, v136, v137, v138, v139, v140, v141, v142, v143, v144, v145, v146, v147, v148, v149, v150, v151, v152, v153, v154, v155, v156, v157, v158, v159, v160, v161, v162, v163, v164, v165, v166, v167, v168, v169, v170, v171, v172, v173, v174, v175, v176, v177, v178, v179, v180, v181, v182, v183, v184, v185, v186, v187, v188, v189, v190, v191, v192, v193, v194, v195, v196, v197, v198, v199, v200], []⟩ x := by
  simp only [K11, sa, st, Try.f3, Option.getD_some]
  go_wp2
  exact ⟨_, _, _, _, _, _, _, _, _, _, _, _, _, _, _, _, _, _, _, _, _, _, _, _, _, _, _, _, _, _, _, _, _, _, _, _, _, _, _, _, _, _, _, _, _, _, _, _, _, _, _, _, _, _, _, _, _, _, _, _, _, _, _, _, _, _, _, _, _, _, _, _, _, _, _, _, _, _, _, _, _, _, _, _, _, _, _, _, _, _, _, _, _, _, _, _, _, _, _, _, _, _, _, _, _, _, _, _, _, _, _, _, _, _, _, _, _, _, _, _, _, _, _, _, _, _, _, _, _, _, _, _, _, _, _, _, _, _, _, _, _, _, _, _, _, _, _, _, _, _, _, _, _, _, _, _, _, _, _, _, _, _, _, _, _, _, _, _, _, _, _, _, _, _, _, _, _, _, _, _, _, _, _, _, _, _, _, _, _, _, _, _, _, _, _, _, rfl, rfl, rfl, rfl⟩
set_option maxRecDepth 100000 in
set_option maxHeartbeats 6400000 in
theorem w11b (a : Option Addr) (len cap gn cn gb cb gL cL : Nat) (ns : List ByteArray) (zs : List El) (L : List Kl) (x : World) (z0 : El) (bb : Bool) (hn : ((ns.length : Int) == 0) = false) (hz : (0 : Int) < zs.length) (hc : x.cell? ⟨gb, 0, none⟩ = some (.slice z0.p z0.l.length z0.cap)) (hb : ((z0.l.length : Int) == 0) = bb) (v1 v2 v6 v7 v8 v9 v10 v11 v12 v13 v14 v15 v16 v17 v18 v19 v20 v21 v22 v23 v24 v25 v26 v27 v28 v29 v30 v31 v32 v33 v34 v35 v36 v37 v38 v39 v40 v41 v42 v43 v44 v45 v46 v47 v48 v49 v50 v51 v52 v53 v54 v55 v56 v57 v58 v59 v60 v61 v62 v63 v64 v65 v66 v67 v68 v69 v70 v71 v72 v73 v74 v75 v76 v77 v78 v79 v80 v81 v82 v83 v84 v85 v86 v87 v88 v89 v90 v91 v92 v93 v94 v95 v96 v97 v98 v99 v100 v101 v102 v103 v104 v105 v106 v107 v108 v109 v110 v111 v112 v113 v114 v115 v116 v117 v118 v119 v120 v121 v122 v123 v124 v125 v126 v127 v128 v129 v130 v131 v132 v133 v134 v135 v136 v137 v138 v139 v140 v141 v142 v143 v144 v145 v146 v147 v148 v149 v150 v151 v152 v153 v154 v155 v156 v157 v158 v159 v160 v161 v162 v163 v164 v165 v166 v167 v168 v169 v170 v171 v172 v173 v174 v175 v176 v177 v178 v179 v180 v181 v182 v183 v184 v185 v186 v187 v188 v189 v190 v191 v192 v193 v194 v195 v196 v197 v198 v199 v200 : Value) :
    K11.wp Try.prog (fun e a' w' => e = .normal ∧ F11 a len cap gn cn gb cb gL cL ns zs L bb x a' w') ⟨#[.slice a len cap, v1, v2, .slice (some ⟨gn, 0, none⟩) ns.length cn, .slice (some ⟨gb, 0, none⟩) zs.length cb, .slice (some ⟨gL, 0, none⟩) L.length cL, v6, v7, v8, v9, v10, v11, v12, v13, v14, v15, v16, v17, v18, v19, v20, v21, v22, v23, v24, v25, v26, v27, v28, v29, v30, v31, v32, v33, v34, v35, v36, v37, v38, v39, v40, v41, v42, v43, v44, v45, v46, v47, v48, v49, v50, v51, v52, v53, v54, v55, v56, v57, v58, v59, v60, v61, v62, v63, v64, v65, v66, v67, v68, v69, v70, v71, v72, v73, v74, v75, v76, v77, v78, v79, v80, v81, v82, v83, v84, v85, v86, v87, v88, v89, v90, v91, v92, v93, v94, v95, v96, v97, v98, v99, v100, v101, v102, v103, v104, v105, v106, v107, v108, v109, v110, v111, v112, v113, v114, v115, v116, v117, v118, v119, v120, v121, v122, v123, v124, v125, v126, v127, v128, v129, v130, v131, v132, v133, v134, v135, v136, v137, v138, v139, v140, v141, v142, v143, v144, v145, v146, v147, v148, v149, v150, v151, v152, v153, v154, v155, v156, v157, v158, v159, v160, v161, v162, v163, v164, v165, v166, v167, v168, v169, v170, v171, v172, v173, v174, v175, v176, v177, v178, v179, v180, v181, v182, v183, v184, v185, v186, v187, v188, v189, v190, v191, v192, v193, v194, v195, v196, v197, v198, v199, v200], []⟩ x := by
  simp only [K11, sa, st, Try.f3, Option.getD_some]
  go_wp2
  exact ⟨_, _, _, _, _, _, _, _, _, _, _, _, _, _, _, _, _, _, _, _, _, _, _, _, _, _, _, _, _, _, _, _, _, _, _, _, _, _, _, _, _, _, _, _, _, _, _, _, _, _, _, _, _, _, _, _, _, _, _, _, _, _, _, _, _, _, _, _, _, _, _, _, _, _, _, _, _, _, _, _, _, _, _, _, _, _, _, _, _, _, _, _, _, _, _, _, _, _, _, _, _, _, _, _, _, _, _, _, _, _, _, _, _, _, _, _, _, _, _, _, _, _, _, _, _, _, _, _, _, _, _, _, _, _, _, _, _, _, _, _, _, _, _, _, _, _, _, _, _, _, _, _, _, _, _, _, _, _, _, _, _, _, _, _, _, _, _, _, _, _, _, _, _, _, _, _, _, _, _, _, _, _, _, _, _, _, _, _, _, _, _, _, _, _, _, _, rfl, rfl, rfl, rfl⟩
end Go.Proofs.Ytghglpcfpokmhaa
