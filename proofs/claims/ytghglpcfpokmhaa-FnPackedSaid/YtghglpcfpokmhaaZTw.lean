/-
  impl.Verify beside leavers.
  impl.Verify beside leavers: the whole.
  Two lists of strings that grow; an answer that is two new lists; no conditions.
-/
import Derived.Test.YtghglpcfpokmhaaZIdS
import Derived.Test.YtghglpcfpokmhaaZVc
import Derived.Test.YtghglpcfpokmhaaZShelf
import Derived.Test.YtghglpcfpokmhaaZLv
import Derived.Test.YtghglpcfpokmhaaZPk
set_option linter.unusedVariables false
set_option linter.unusedSimpArgs false
namespace Go.Proofs.Ytghglpcfpokmhaa
open Go Go.Conc Go.RowKit
open Go.Proofs.Ytghglpcfpokmhaa.Bb (Tks)
open Go.Proofs.Ytghglpcfpokmhaa.Wk (El BodiesV Bel dig_B valsE)
open Go.Proofs.Ytghglpcfpokmhaa.Br (BT BTS Hd Pz Pst CallsB bt_ctl bt_cons bt_skip bt_callB bt_call rt)
set_option maxRecDepth 10000 in
theorem array95 (T : Array Value) (h : T.size = 95) : ∃ u0 u1 u2 u3 u4 u5 u6 u7 u8 u9 u10 u11 u12 u13 u14 u15 u16 u17 u18 u19 u20 u21 u22 u23 u24 u25 u26 u27 u28 u29 u30 u31 u32 u33 u34 u35 u36 u37 u38 u39 u40 u41 u42 u43 u44 u45 u46 u47 u48 u49 u50 u51 u52 u53 u54 u55 u56 u57 u58 u59 u60 u61 u62 u63 u64 u65 u66 u67 u68 u69 u70 u71 u72 u73 u74 u75 u76 u77 u78 u79 u80 u81 u82 u83 u84 u85 u86 u87 u88 u89 u90 u91 u92 u93 u94 : Value, T = #[u0, u1, u2, u3, u4, u5, u6, u7, u8, u9, u10, u11, u12, u13, u14, u15, u16, u17, u18, u19, u20, u21, u22, u23, u24, u25, u26, u27, u28, u29, u30, u31, u32, u33, u34, u35, u36, u37, u38, u39, u40, u41, u42, u43, u44, u45, u46, u47, u48, u49, u50, u51, u52, u53, u54, u55, u56, u57, u58, u59, u60, u61, u62, u63, u64, u65, u66, u67, u68, u69, u70, u71, u72, u73, u74, u75, u76, u77, u78, u79, u80, u81, u82, u83, u84, u85, u86, u87, u88, u89, u90, u91, u92, u93, u94] :=
  ⟨T[0], T[1], T[2], T[3], T[4], T[5], T[6], T[7], T[8], T[9], T[10], T[11], T[12], T[13], T[14], T[15], T[16], T[17], T[18], T[19], T[20], T[21], T[22], T[23], T[24], T[25], T[26], T[27], T[28], T[29], T[30], T[31], T[32], T[33], T[34], T[35], T[36], T[37], T[38], T[39], T[40], T[41], T[42], T[43], T[44], T[45], T[46], T[47], T[48], T[49], T[50], T[51], T[52], T[53], T[54], T[55], T[56], T[57], T[58], T[59], T[60], T[61], T[62], T[63], T[64], T[65], T[66], T[67], T[68], T[69], T[70], T[71], T[72], T[73], T[74], T[75], T[76], T[77], T[78], T[79], T[80], T[81], T[82], T[83], T[84], T[85], T[86], T[87], T[88], T[89], T[90], T[91], T[92], T[93], T[94], by
    apply Array.ext
    · simpa using h
    · intro i h1 h2
      have hi : i < 95 := by simpa using h2
      rcases i with _ | _ | _ | _ | _ | _ | _ | _ | _ | _ | _ | _ | _ | _ | _ | _ | _ | _ | _ | _ | _ | _ | _ | _ | _ | _ | _ | _ | _ | _ | _ | _ | _ | _ | _ | _ | _ | _ | _ | _ | _ | _ | _ | _ | _ | _ | _ | _ | _ | _ | _ | _ | _ | _ | _ | _ | _ | _ | _ | _ | _ | _ | _ | _ | _ | _ | _ | _ | _ | _ | _ | _ | _ | _ | _ | _ | _ | _ | _ | _ | _ | _ | _ | _ | _ | _ | _ | _ | _ | _ | _ | _ | _ | _ | _ | i
      all_goals first | rfl | omega⟩
/-- What Verify answers, beside leavers. -/
def RVf (w : World) (L : List Int) (v : Value) (w' : World) : Prop := ∃ g c, v = .slice (some ⟨g, 0, none⟩) L.length c ∧ OwnI w' w.heap.size g L.length c L ∧ Bel w.heap.size w w'
def RPo (w : World) (ok : Bool) (v : Value) (w' : World) : Prop := v = .bool ok ∧ Bel w.heap.size w w'
theorem RPo.i {w : World} {ok : Bool} (v : Value) (w' : World) (T : Nat → Question → Nat) (d : Nat) (h : RPo w ok v w') : RPo w ok v (rt T d w') := ⟨h.1, h.2.rtt T d⟩
theorem RPo.e {w : World} {ok : Bool} (v : Value) (w' : World) (h : RPo w ok v w') : ∀ b, Pz w b → Pz w' b := h.2.kp
theorem ipk_R (w : World) (a : Option Addr) (ca : Nat) (l : List Kl) (hl : l.length ≤ maxLen) (hz : SzOk l) (hk : Kls w a l) (T : Nat → Question → Nat) (d : Nat) :
    Calls Try.prog 9 #[.slice a l.length ca] (rt T d w) fun e w' => ∃ v, e = .returned v ∧ RPo w (pOk l) v w' :=
  (ipk_any a ca l (rt T d w) hl hz hk).mono fun e w' ⟨h1, h2⟩ => ⟨_, h1, rfl, bel_rt h2⟩
theorem Wk.Bel.kls {w w' : World} {a : Option Addr} {l : List Kl} (h : Bel w.heap.size w w') (hs : Kls w a l) : Kls w' a l :=
  Kls.below (w' := { w' with tape := w.tape }) hs ⟨h.os, rfl, h.output, h.size, h.block⟩
theorem Wk.Bel.bods {w w' : World} {a : Option Addr} {l : List El} (h : Bel w.heap.size w w') (hs : BodiesV w l a) : BodiesV w' l a := bodiesV_bel hs h.block h.size
theorem okA39 : Br.okC (Br.okOp Zg Try.prog []) A39 = true := by kernel_rfl
theorem okB39 : Br.okC (Br.okOp Zg Try.prog []) B39 = true := by kernel_rfl
theorem okC39 : Br.okC (Br.okOp Zg Try.prog []) C39 = true := by kernel_rfl
/-- behind the first loop, beside leavers -/
def RW1 (w x : World) (a : Option Addr) (ca gt gz : Nat) (l : List Kl) (ns : List ByteArray) (zs : List El) (a' : Act) (w' : World) : Prop :=
  ∃ T, a' = ⟨T, []⟩ ∧ T.size = 95 ∧ T[0]? = some (.slice a l.length ca) ∧ T[7]? = some (.slice (some ⟨gt, 0, none⟩) l.length l.length) ∧ T[8]? = some (.slice (some ⟨gz, 0, none⟩) l.length l.length) ∧ OwnI w' w.heap.size gt l.length l.length (tk l ns zs) ∧ OwnE w' w.heap.size gz l.length (ek l ns zs) ∧ Bel w.heap.size w w' ∧ KP x w'
def RW2 (w x : World) (gt n : Nat) (tl : List Int) (a' : Act) (w' : World) : Prop :=
  ∃ T, a' = ⟨T, []⟩ ∧ T.size = 95 ∧ T[7]? = some (.slice (some ⟨gt, 0, none⟩) n n) ∧ OwnI w' w.heap.size gt n n tl ∧ Bel w.heap.size w w' ∧ KP x w'
theorem els_bodies {w w' : World} {gz : Nat} {d : Option Addr} {l : List Kl} {ns : List ByteArray} {zs : List El} (hB : BodiesV w zs d) (hb : Bel w.heap.size w w') (ho : OwnE w' w.heap.size gz l.length (ek l ns zs)) : BodiesV w' (ek l ns zs) (some ⟨gz, 0, none⟩) := by
  refine ⟨fun j e he => ?_, fun e he => ?_⟩
  · have hj := (List.getElem?_eq_some_iff.1 he).1
    rw [ek_len] at hj
    have := ho.cellAt j (by omega)
    refine ⟨gz, 0, rfl, own_lt ho, ?_⟩
    rw [Nat.zero_add, this, List.getElem?_map, he]
    rfl
  · obtain ⟨y, hy, rfl⟩ := List.mem_map.1 he
    rcases fst1_mem (ns := ns) (zs := zs) (x := y) with h | h
    · rw [h]
      exact ⟨fun j x hx => by simp [nilE] at hx, fun x hx => by simp [nilE] at hx, Nat.le_refl _, by simp [nilE]⟩
    · exact (hb.bods hB).body _ h
theorem kp_two {x w' : World} {B gt gz n : Nat} {A : List Value} {C : List Value} (ht : x.ownsRow B 2 1 (.slice (some ⟨gt, 0, none⟩) n n) n A) (hz : x.ownsRow B 22 1 (.slice (some ⟨gz, 0, none⟩) n n) n C) (hk : ∀ b, b < x.heap.size → b ≠ gt → b ≠ gz → w'.heap[b]? = x.heap[b]?) (h0 : n = 0 → w'.heap = x.heap) : KP x w' := fun b hb => by
  rcases Nat.eq_zero_or_pos n with e | e
  · obtain ⟨y, hy⟩ := hb
    exact ⟨y, by rw [h0 e]; exact hy⟩
  · have h1 : b ≠ gt := fun e' => by subst e'; have := row_pz0 ht hb; omega
    have h2 : b ≠ gz := fun e' => by subst e'; have := row_pz0 hz hb; omega
    obtain ⟨y, hy⟩ := hb
    exact ⟨y, (hk b (Array.getElem?_eq_some_iff.1 hy).1 h1 h2).trans hy⟩
theorem kp_one {x w' : World} {B gt n : Nat} {A : List Value} (ht : x.ownsRow B 2 1 (.slice (some ⟨gt, 0, none⟩) n n) n A) (hk : ∀ b, b < x.heap.size → b ≠ gt → w'.heap[b]? = x.heap[b]?) (h0 : n = 0 → w'.heap = x.heap) : KP x w' := fun b hb => by
  rcases Nat.eq_zero_or_pos n with e | e
  · obtain ⟨y, hy⟩ := hb
    exact ⟨y, by rw [h0 e]; exact hy⟩
  · have h1 : b ≠ gt := fun e' => by subst e'; have := row_pz0 ht hb; omega
    obtain ⟨y, hy⟩ := hb
    exact ⟨y, (hk b (Array.getElem?_eq_some_iff.1 hy).1 h1).trans hy⟩
set_option maxRecDepth 100000 in
theorem ver_end [Br.Thr] {Q : Goroutine → World → Prop} {c : Frame} {cs : List Frame} (a : Option Addr) (ca : Nat) (l : List Kl) (ns : List ByteArray) (zs : List El) (w w2 : World) (gt gs : Nat) (hne : ns.length = zs.length) (hp : pOk l = true) (h100 : l.length ≤ 100) (hkl : Kls w a l) (hg : Br.GC Try.prog w)
    (hbel : Bel w.heap.size w w2) (hown : OwnI w2 w.heap.size gt l.length l.length (tk l ns zs)) (hgs : ∀ j e, (ek l ns zs)[j]? = some e → w2.cell? ⟨gs, j, none⟩ = some (.int .i64 (dig e.l))) (hgl : gs < w2.heap.size) (hgg : gt ≠ gs) (hk : ∀ v w', RVf w (vfy l ns (zs.map (·.l))) v w' → BT Try.prog Q (G (c.finish v) cs) w')
    (v1 v2 v3 v4 v5 v6 v8 v9 v10 v11 v12 v13 v14 v15 v16 v17 v18 v19 v20 v21 v22 v23 v24 v25 v26 v27 v28 v29 v30 v31 v32 v33 v34 v35 v36 v37 v38 v39 v40 v41 v42 v43 v44 v45 v46 v47 v48 v49 v50 v51 v52 v53 v54 v55 v56 v57 v58 v59 v60 v61 v62 v63 v64 v65 v66 v67 v68 v72 v73 v74 v75 v76 v77 v78 v79 v80 v81 v82 v83 v84 v85 v86 v87 v88 v89 v90 v91 v92 v93 v94 : Value) :
    BT Try.prog Q (G ((base 8).at ⟨#[.slice a l.length ca, v1, v2, v3, v4, v5, v6, .slice (some ⟨gt, 0, none⟩) l.length l.length, v8, v9, v10, v11, v12, v13, v14, v15, v16, v17, v18, v19, v20, v21, v22, v23, v24, v25, v26, v27, v28, v29, v30, v31, v32, v33, v34, v35, v36, v37, v38, v39, v40, v41, v42, v43, v44, v45, v46, v47, v48, v49, v50, v51, v52, v53, v54, v55, v56, v57, v58, v59, v60, v61, v62, v63, v64, v65, v66, v67, v68, .slice (some ⟨gs, 0, none⟩) l.length l.length, .int .i64 l.length, .int .i64 0, v72, v73, v74, v75, v76, v77, v78, v79, v80, v81, v82, v83, v84, v85, v86, v87, v88, v89, v90, v91, v92, v93, v94], []⟩ [.code B39, .code C39]) (c :: cs)) w2 := by
  refine Br.BT.code (R := RW2 w w2 gt l.length (fk l ns zs)) zgOk Try.func8 rfl okB39 rfl (gc_bel hbel hg) (fun a w T d ⟨T', h1, h2, h3, h4, h5, h6⟩ => ⟨T', h1, h2, h3, h4, ⟨h5.os, h5.output, h5.size, h5.block⟩, h6⟩) (fun T dd => ?_) (fun a' w' ⟨_, _, _, _, _, _, h⟩ => h) (fun a' w' h => ?_)
  · have hL := ver_loop2 a ca l ns zs (rt T w.drawn w) (rt T dd w2) gt gs h100 hkl ⟨hbel.os, rfl, hbel.output, hbel.size, hbel.block⟩ hown hgs hgl hgg v1 v2 v3 v4 v5 v6 v8 v9 v10 v11 v12 v13 v14 v15 v16 v17 v18 v19 v20 v21 v22 v23 v24 v25 v26 v27 v28 v29 v30 v31 v32 v33 v34 v35 v36 v37 v38 v39 v40 v41 v42 v43 v44 v45 v46 v47 v48 v49 v50 v51 v52 v53 v54 v55 v56 v57 v58 v59 v60 v61 v62 v63 v64 v65 v66 v67 v68 v72 v73 v74 v75 v76 v77 v78 v79 v80 v81 v82 v83 v84 v85 v86 v87 v88 v89 v90 v91 v92 v93 v94
    refine wp_mono hL ?_
    rintro e a' w' ⟨he, T', h1, h2, h3, h4⟩
    exact ⟨he, T', h1, h2, h3, h4.t, ⟨h4.bel.os, h4.bel.output, h4.bel.size, h4.bel.block⟩, kp_one hown h4.keep h4.nil0⟩
  · obtain ⟨T, rfl, hT, t7, ho, hb', hkp⟩ := h
    obtain ⟨u0, u1, u2, u3, u4, u5, u6, u7, u8, u9, u10, u11, u12, u13, u14, u15, u16, u17, u18, u19, u20, u21, u22, u23, u24, u25, u26, u27, u28, u29, u30, u31, u32, u33, u34, u35, u36, u37, u38, u39, u40, u41, u42, u43, u44, u45, u46, u47, u48, u49, u50, u51, u52, u53, u54, u55, u56, u57, u58, u59, u60, u61, u62, u63, u64, u65, u66, u67, u68, u69, u70, u71, u72, u73, u74, u75, u76, u77, u78, u79, u80, u81, u82, u83, u84, u85, u86, u87, u88, u89, u90, u91, u92, u93, u94, rfl⟩ := array95 T hT
    simp only [List.getElem?_toArray, List.getElem?_cons_succ, List.getElem?_cons_zero, Option.some.injEq] at t7
    subst t7
    refine Br.BT.body (R := fun v w4 => v = .slice (some ⟨gt, 0, none⟩) l.length l.length ∧ w4.heap = w'.heap ∧ w4.os = w'.os ∧ w4.output = w'.output) zgOk Try.func8 rfl okC39 rfl (gc_bel hb' hg) (fun v w T d h => h) (fun T dd => ?_) (fun v w4 h b ⟨y, hy⟩ => ⟨y, by rw [h.2.1]; exact hy⟩) (fun v w4 h => hk v w4 ?_)
    · refine wp_mono (ver_tail (rt T dd w') gt l.length u0 u1 u2 u3 u4 u5 u6 u8 u9 u10 u11 u12 u13 u14 u15 u16 u17 u18 u19 u20 u21 u22 u23 u24 u25 u26 u27 u28 u29 u30 u31 u32 u33 u34 u35 u36 u37 u38 u39 u40 u41 u42 u43 u44 u45 u46 u47 u48 u49 u50 u51 u52 u53 u54 u55 u56 u57 u58 u59 u60 u61 u62 u63 u64 u65 u66 u67 u68 u69 u70 u71 u72 u73 u74 u75 u76 u77 u78 u79 u80 u81 u82 u83 u84 u85 u86 u87 u88 u89 u90 u91 u92 u93 u94) (bodyPost_mono ?_ ?_)
      · rintro v w4 ⟨v', e, h1, rfl⟩
        exact ⟨v', e, h1, rfl, rfl, rfl⟩
      · rintro e w4 ⟨v, h, _⟩
        exact ⟨v, h⟩
    · obtain ⟨rfl, e1, e2, e3⟩ := h
      rw [← fk_vfy hne hp]
      have hsame : Bel w'.heap.size w' w4 := ⟨e2, e3, by rw [e1]; exact Nat.le_refl _, fun k _ => by rw [e1]⟩
      refine ⟨gt, l.length, by rw [fk_len], by rw [fk_len]; exact own_bel hsame (own_lt ho) ho, hb'.trans (hsame.mono hb'.size)⟩
set_option maxRecDepth 100000 in
set_option maxHeartbeats 4000000 in
theorem ver_mid [Br.Thr] {Q : Goroutine → World → Prop} {c : Frame} {cs : List Frame} (a b d : Option Addr) (ca cb cd : Nat) (l : List Kl) (ns : List ByteArray) (zs : List El) (w w2 : World) (gt gz : Nat) (hne : ns.length = zs.length) (hnm : ns.length ≤ 1048576) (hp : pOk l = true) (h100 : l.length ≤ 100) (hkl : Kls w a l) (hs : Sts w b ns) (hB : BodiesV w zs d) (hg : Br.GC Try.prog w) (hTh : Br.Thr.N ≤ w.heap.size)
    (hbel : Bel w.heap.size w w2) (ht : OwnI w2 w.heap.size gt l.length l.length (List.replicate l.length 0)) (hz : OwnE w2 w.heap.size gz l.length (List.replicate l.length nilE)) (hgg : gt ≠ gz) (hk : ∀ v w', RVf w (vfy l ns (zs.map (·.l))) v w' → BT Try.prog Q (G (c.finish v) cs) w')
    (v3 v4 v5 v6 v9 v10 v11 v12 v13 v14 v15 v16 v17 v18 v19 v20 v21 v22 v23 v24 v25 v26 v27 v28 v29 v30 v34 v35 v36 v37 v38 v39 v40 v41 v42 v43 v44 v45 v46 v47 v48 v49 v50 v51 v52 v53 v54 v55 v56 v57 v58 v59 v60 v61 v62 v63 v64 v65 v66 v67 v68 v69 v70 v71 v72 v73 v74 v75 v76 v77 v78 v79 v80 v81 v82 v83 v84 v85 v86 v87 v88 v89 v90 v91 v92 v93 v94 : Value) :
    BT Try.prog Q (G ((base 8).at ⟨#[.slice a l.length ca, .slice b ns.length cb, .slice d zs.length cd, v3, v4, v5, v6, .slice (some ⟨gt, 0, none⟩) l.length l.length, .slice (some ⟨gz, 0, none⟩) l.length l.length, v9, v10, v11, v12, v13, v14, v15, v16, v17, v18, v19, v20, v21, v22, v23, v24, v25, v26, v27, v28, v29, v30, .slice a l.length ca, .int .i64 l.length, .int .i64 0, v34, v35, v36, v37, v38, v39, v40, v41, v42, v43, v44, v45, v46, v47, v48, v49, v50, v51, v52, v53, v54, v55, v56, v57, v58, v59, v60, v61, v62, v63, v64, v65, v66, v67, v68, v69, v70, v71, v72, v73, v74, v75, v76, v77, v78, v79, v80, v81, v82, v83, v84, v85, v86, v87, v88, v89, v90, v91, v92, v93, v94], []⟩ [.code A39, .code R39]) (c :: cs)) w2 := by
  refine Br.BT.code (R := RW1 w w2 a ca gt gz l ns zs) zgOk Try.func8 rfl okA39 rfl (gc_bel hbel hg) (fun a w T d ⟨T', h1, h2, h3, h4, h5, h6, h7, h8, h9⟩ => ⟨T', h1, h2, h3, h4, h5, h6, h7, ⟨h8.os, h8.output, h8.size, h8.block⟩, h9⟩) (fun T dd => ?_) (fun a' w' ⟨_, _, _, _, _, _, _, _, _, h⟩ => h) (fun a' w' h => ?_)
  · have hL := ver_loop1 a b d ca cb cd l ns zs (rt T w.drawn w) (rt T dd w2) gt gz hne h100 hnm hkl hs ⟨hB.el, hB.body⟩ ⟨hbel.os, rfl, hbel.output, hbel.size, hbel.block⟩ ht hz hgg v3 v4 v5 v6 v9 v10 v11 v12 v13 v14 v15 v16 v17 v18 v19 v20 v21 v22 v23 v24 v25 v26 v27 v28 v29 v30 v34 v35 v36 v37 v38 v39 v40 v41 v42 v43 v44 v45 v46 v47 v48 v49 v50 v51 v52 v53 v54 v55 v56 v57 v58 v59 v60 v61 v62 v63 v64 v65 v66 v67 v68 v69 v70 v71 v72 v73 v74 v75 v76 v77 v78 v79 v80 v81 v82 v83 v84 v85 v86 v87 v88 v89 v90 v91 v92 v93 v94
    refine wp_mono hL ?_
    rintro e a' w' ⟨he, T', h1, h2, h3, h4, h5, k, hk', h6⟩
    subst hk'
    exact ⟨he, T', h1, h2, h3, h4, h5, h6.t, h6.z, ⟨h6.bel.os, h6.bel.output, h6.bel.size, h6.bel.block⟩, kp_two ht hz h6.keep h6.nil0⟩
  · obtain ⟨T, rfl, hT, t0, t7, t8, ho, hoz, hb', hkp⟩ := h
    obtain ⟨u0, u1, u2, u3, u4, u5, u6, u7, u8, u9, u10, u11, u12, u13, u14, u15, u16, u17, u18, u19, u20, u21, u22, u23, u24, u25, u26, u27, u28, u29, u30, u31, u32, u33, u34, u35, u36, u37, u38, u39, u40, u41, u42, u43, u44, u45, u46, u47, u48, u49, u50, u51, u52, u53, u54, u55, u56, u57, u58, u59, u60, u61, u62, u63, u64, u65, u66, u67, u68, u69, u70, u71, u72, u73, u74, u75, u76, u77, u78, u79, u80, u81, u82, u83, u84, u85, u86, u87, u88, u89, u90, u91, u92, u93, u94, rfl⟩ := array95 T hT
    simp only [List.getElem?_toArray, List.getElem?_cons_succ, List.getElem?_cons_zero, Option.some.injEq] at t0 t7 t8
    subst t0 t7 t8
    have hbz := hide (els_bodies hB hb' hoz)
    have Ho := hide ho
    have Hb := hide hb'
    have HK := hide hk
    clear ho hoz hb' hkp hT hk ht hz hbel
    simp only [R39, Try.f8, Option.getD_some]
    (repeat (first | (first | refine bt_ctl rfl (fun _ => stepG_seq) ?_ | refine bt_ctl rfl (fun _ => stepG_skip) ?_ | refine bt_ctl rfl (fun _ => stepG_region_end) ?_ | refine bt_ctl rfl (fun _ => stepG_ret') ?_ | (refine bt_ctl rfl (fun _ => stepG_region) ?_; simp only [List.size_toArray, List.length_cons, List.length_nil, Nat.reduceAdd, Nat.zero_add, List.range, List.range.loop])) | (refine bt_cons zgOk.bodied rfl (by rfl) (by decide) (by decide) (fun dzz Kzz hKzz => ?_); go_simp; refine hKzz _ _ (fun b hb => hb) (bt_at ?_); clear hKzz Kzz; try walk_nrm) | (refine bt_skip rfl (by rfl) ?_; try walk_nrm)))
    refine bt_callB (dig_B (w := w') (zs := ek l ns zs) (n := l.length) (cap := l.length) (a0 := some ⟨gz, 0, none⟩) ek_len (by omega) (unhide hbz) (gc_bel (unhide Hb) hg) (Nat.le_trans hTh (unhide Hb).size)) Try.func17 (by kernel_rfl) (by kernel_rfl) rfl (by rfl) rfl (by decide) (by simp [Act.eval]) ?_
    rintro v w3 ⟨rfl, hsum, hbel⟩
    have hlt3 : w'.heap.size < w3.heap.size := (Array.getElem?_eq_some_iff.1 hsum).1
    have hsums : ∀ j e, (ek l ns zs)[j]? = some e → w3.cell? ⟨w'.heap.size, j, none⟩ = some (.int .i64 (dig e.l)) := fun j e he => by
      have hj := (List.getElem?_eq_some_iff.1 he).1
      rw [ek_len] at hj
      have hv : (valsE (ek l ns zs) l.length)[j]? = some (.int .i64 (dig e.l)) := by rw [Wk.valsE_get j hj]; simp [Wk.val, he]
      simp [World.cell?, hsum, hv]
    have H1 := hide ((unhide Hb).trans (hbel.mono (unhide Hb).size))
    have hgt : gt < w'.heap.size := own_lt (unhide Ho)
    have H2 := hide (own_bel hbel hgt (unhide Ho))
    have H3 := hide hlt3
    have H4 := hide hsums
    have H5 := hide (show gt ≠ w'.heap.size by omega)
    clear hlt3 hsums hsum hbel hgt Ho Hb hbz
    try walk_nrm
    (repeat (first | (first | refine bt_ctl rfl (fun _ => stepG_seq) ?_ | refine bt_ctl rfl (fun _ => stepG_skip) ?_ | refine bt_ctl rfl (fun _ => stepG_region_end) ?_ | refine bt_ctl rfl (fun _ => stepG_ret') ?_ | (refine bt_ctl rfl (fun _ => stepG_region) ?_; simp only [List.size_toArray, List.length_cons, List.length_nil, Nat.reduceAdd, Nat.zero_add, List.range, List.range.loop])) | (refine bt_cons zgOk.bodied rfl (by rfl) (by decide) (by decide) (fun dzz Kzz hKzz => ?_); go_simp; refine hKzz _ _ (fun b hb => hb) (bt_at ?_); clear hKzz Kzz; try walk_nrm) | (refine bt_skip rfl (by rfl) ?_; try walk_nrm)))
    have key := ver_end (Q := Q) (c := c) (cs := cs) a ca l ns zs w w3 gt w'.heap.size hne hp h100 hkl hg (unhide H1) (unhide H2) (unhide H4) (unhide H3) (unhide H5) (unhide HK)
    exact key _ _ _ _ _ _ _ _ _ _ _ _ _ _ _ _ _ _ _ _ _ _ _ _ _ _ _ _ _ _ _ _ _ _ _ _ _ _ _ _ _ _ _ _ _ _ _ _ _ _ _ _ _ _ _ _ _ _ _ _ _ _ _ _ _ _ _ _ _ _ _ _ _ _ _ _ _ _ _ _ _ _ _ _ _ _ _ _ _ _
end Go.Proofs.Ytghglpcfpokmhaa

set_option linter.unusedVariables false
set_option linter.unusedSimpArgs false
namespace Go.Proofs.Ytghglpcfpokmhaa
open Go Go.Conc Go.RowKit
open Go.Proofs.Ytghglpcfpokmhaa.Bb (Tks)
open Go.Proofs.Ytghglpcfpokmhaa.Wk (El BodiesV Bel dig_B valsE)
open Go.Proofs.Ytghglpcfpokmhaa.Br (BT BTS Hd Pz Pst CallsB bt_ctl bt_cons bt_skip bt_callB bt_call rt)
theorem own_from {w : World} {B B' e m g n c : Nat} {xs : List Value} (ho : w.ownsRow B e m (.slice (some ⟨g, 0, none⟩) n c) n xs) (hB : B' ≤ B) : w.ownsRow B' e m (.slice (some ⟨g, 0, none⟩) n c) n xs := by
  refine ⟨ho.1, ?_⟩
  rcases ho.2 with ⟨hv, _⟩ | ⟨g', cp, cur, e', hg', r⟩
  · cases hv
  · exact .inr ⟨g', cp, cur, e', Nat.le_trans hB hg', r⟩
theorem ownI_made {w : World} {n : Nat} (hn : n ≤ 1048576) : OwnI (w.alloc (.cells (madeCells #[.int .i64 0] n) 2)) w.heap.size w.heap.size n n (List.replicate n 0) := by
  refine ⟨by simp, .inr ⟨w.heap.size, n, _, rfl, Nat.le_refl _, heap_alloc_new w _, Nat.le_refl _, by unfold maxLen; omega, by simp [size_madeCells], ?_⟩⟩
  rw [made_I]
  simp
theorem ownE_made {w : World} {B n : Nat} (hB : B ≤ w.heap.size) (hn : n ≤ 1048576) : OwnE (w.alloc (.cells (madeCells #[.slice none 0 0] n) 22)) B w.heap.size n (List.replicate n nilE) := by
  refine ⟨by simp, .inr ⟨w.heap.size, n, _, rfl, hB, heap_alloc_new w _, Nat.le_refl _, by unfold maxLen; omega, by simp [size_madeCells], ?_⟩⟩
  rw [toList_madeCells_one]
  simp [nilE, El.v]
set_option maxRecDepth 100000 in
set_option maxHeartbeats 4000000 in
theorem iver_B [Br.Thr] (a b d : Option Addr) (ca cb cd : Nat) (l : List Kl) (ns : List ByteArray) (zs : List El) (w : World) (hl : l.length ≤ 1048576) (hnm : ns.length ≤ 1048576) (hzl : SzOk l) (hkl : Kls w a l) (hs : Sts w b ns) (hB : BodiesV w zs d) (hg : Br.GC Try.prog w) (hTh : Br.Thr.N ≤ w.heap.size) :
    CallsB Try.prog 8 #[.slice a l.length ca, .slice b ns.length cb, .slice d zs.length cd] w (RVf w (vfy l ns (zs.map (·.l)))) := by
  intro c cs Q hk
  have e39 : Frame.enter Try.prog 8 #[.slice a l.length ca, .slice b ns.length cb, .slice d zs.length cd] .normal = (base 8).at ⟨#[.slice a l.length ca, .slice b ns.length cb, .slice d zs.length cd] ++ Array.replicate 92 undef, []⟩ [.code (Try.f8.body.getD .skip)] := by
    simp [Frame.enter, Frame.at, Try.func8, base, Try.f8]
  rw [e39]
  clear e39
  simp only [Try.f8, Option.getD_some, List.size_toArray, List.length_cons, List.length_nil, Nat.reduceAdd, Nat.reduceSub, Array.replicate_succ, Array.replicate_zero, List.push_toArray, List.append_toArray, List.nil_append, List.cons_append]
  (repeat (first | (first | refine bt_ctl rfl (fun _ => stepG_seq) ?_ | refine bt_ctl rfl (fun _ => stepG_skip) ?_ | refine bt_ctl rfl (fun _ => stepG_region_end) ?_ | refine bt_ctl rfl (fun _ => stepG_ret') ?_ | (refine bt_ctl rfl (fun _ => stepG_region) ?_; simp only [List.size_toArray, List.length_cons, List.length_nil, Nat.reduceAdd, Nat.zero_add, List.range, List.range.loop])) | (refine bt_cons zgOk.bodied rfl (by rfl) (by decide) (by decide) (fun dzz Kzz hKzz => ?_); go_simp; refine hKzz _ _ (fun b hb => hb) (bt_at ?_); clear hKzz Kzz; try walk_nrm) | (refine bt_skip rfl (by rfl) ?_; try walk_nrm)))
  refine bt_call zgOk (ipk_R w a ca l (by unfold maxLen; omega) hzl hkl) hg RPo.i RPo.e rfl (fun s hs => by cases hs) Try.func9 (by kernel_rfl) (by kernel_rfl) rfl (by rfl) rfl (by decide) (by simp [Act.eval]) ?_
  rintro v w1 ⟨rfl, B1⟩
  obtain ⟨v, hv⟩ : ∃ v, pOk l = v := ⟨_, rfl⟩
  rw [hv]
  have HV := hide hv
  have HB1 := hide B1
  clear hv B1
  try walk_nrm
  cases v with
  | false =>
    have hq := vfy_bad (ns := ns) (ts := zs.map (·.l)) (unhide HV)
    (repeat (first | (first | refine bt_ctl rfl (fun _ => stepG_seq) ?_ | refine bt_ctl rfl (fun _ => stepG_skip) ?_ | refine bt_ctl rfl (fun _ => stepG_region_end) ?_ | refine bt_ctl rfl (fun _ => stepG_ret') ?_ | (refine bt_ctl rfl (fun _ => stepG_region) ?_; simp only [List.size_toArray, List.length_cons, List.length_nil, Nat.reduceAdd, Nat.zero_add, List.range, List.range.loop])) | (refine bt_cons zgOk.bodied rfl (by rfl) (by decide) (by decide) (fun dzz Kzz hKzz => ?_); go_simp; refine hKzz _ _ (fun b hb => hb) (bt_at ?_); clear hKzz Kzz; try walk_nrm) | (refine bt_skip rfl (by rfl) ?_; try walk_nrm)))
    (refine bt_ctl rfl (fun _ => stepG_cond (t := true) rfl) ?_; simp only [if_true, if_false, Bool.false_eq_true, ↓reduceIte])
    (repeat (first | (first | refine bt_ctl rfl (fun _ => stepG_seq) ?_ | refine bt_ctl rfl (fun _ => stepG_skip) ?_ | refine bt_ctl rfl (fun _ => stepG_region_end) ?_ | refine bt_ctl rfl (fun _ => stepG_ret') ?_ | (refine bt_ctl rfl (fun _ => stepG_region) ?_; simp only [List.size_toArray, List.length_cons, List.length_nil, Nat.reduceAdd, Nat.zero_add, List.range, List.range.loop])) | (refine bt_cons zgOk.bodied rfl (by rfl) (by decide) (by decide) (fun dzz Kzz hKzz => ?_); go_simp; refine hKzz _ _ (fun b hb => hb) (bt_at ?_); clear hKzz Kzz; try walk_nrm) | (refine bt_skip rfl (by rfl) ?_; try walk_nrm)))
    refine bt_cons zgOk.bodied rfl (by rfl) (by decide) (by decide) (fun dzz Kzz hKzz => ?_)
    go_simp
    refine hKzz _ ((w1.alloc (.cells #[] 2)).at dzz) (fun b hb => Wk.pz_alloc _ hb) (bt_at ?_)
    clear hKzz Kzz
    try walk_nrm
    (repeat (first | (first | refine bt_ctl rfl (fun _ => stepG_seq) ?_ | refine bt_ctl rfl (fun _ => stepG_skip) ?_ | refine bt_ctl rfl (fun _ => stepG_region_end) ?_ | refine bt_ctl rfl (fun _ => stepG_ret') ?_ | (refine bt_ctl rfl (fun _ => stepG_region) ?_; simp only [List.size_toArray, List.length_cons, List.length_nil, Nat.reduceAdd, Nat.zero_add, List.range, List.range.loop])) | (refine bt_cons zgOk.bodied rfl (by rfl) (by decide) (by decide) (fun dzz Kzz hKzz => ?_); go_simp; refine hKzz _ _ (fun b hb => hb) (bt_at ?_); clear hKzz Kzz; try walk_nrm) | (refine bt_skip rfl (by rfl) ?_; try walk_nrm)))
    refine Br.BT.leave (v := .slice (some ⟨w1.heap.size, 0, none⟩) 0 0) ⟨rfl, rfl, rfl, Try.f8, Try.func8, results_tmp (t := 6) rfl _ _ _⟩ (hk _ _ ?_)
    rw [hq]
    exact ⟨w1.heap.size, 0, rfl, ownI_lit0 w1 (unhide HB1).size, (unhide HB1).trans ⟨rfl, rfl, by simp, fun k hk' => Below.heap_alloc _ _ _ (Nat.lt_of_lt_of_le hk' (unhide HB1).size)⟩⟩
  | true =>
  by_cases hne : ns.length = zs.length
  rotate_left
  · have hq := vfy_len (l := l) (ns := ns) (ts := zs.map (·.l)) (by simpa using hne)
    have g0 : ((ns.length : Int) != zs.length) = true := by simp; omega
    (repeat (first | (first | refine bt_ctl rfl (fun _ => stepG_seq) ?_ | refine bt_ctl rfl (fun _ => stepG_skip) ?_ | refine bt_ctl rfl (fun _ => stepG_region_end) ?_ | refine bt_ctl rfl (fun _ => stepG_ret') ?_ | (refine bt_ctl rfl (fun _ => stepG_region) ?_; simp only [List.size_toArray, List.length_cons, List.length_nil, Nat.reduceAdd, Nat.zero_add, List.range, List.range.loop])) | (refine bt_cons zgOk.bodied rfl (by rfl) (by decide) (by decide) (fun dzz Kzz hKzz => ?_); go_simp; refine hKzz _ _ (fun b hb => hb) (bt_at ?_); clear hKzz Kzz; try walk_nrm) | (refine bt_skip rfl (by rfl) ?_; try walk_nrm)))
    (refine bt_ctl rfl (fun _ => stepG_cond (t := true) rfl) ?_; simp only [if_true, if_false, Bool.false_eq_true, ↓reduceIte])
    (repeat (first | (first | refine bt_ctl rfl (fun _ => stepG_seq) ?_ | refine bt_ctl rfl (fun _ => stepG_skip) ?_ | refine bt_ctl rfl (fun _ => stepG_region_end) ?_ | refine bt_ctl rfl (fun _ => stepG_ret') ?_ | (refine bt_ctl rfl (fun _ => stepG_region) ?_; simp only [List.size_toArray, List.length_cons, List.length_nil, Nat.reduceAdd, Nat.zero_add, List.range, List.range.loop])) | (refine bt_cons zgOk.bodied rfl (by rfl) (by decide) (by decide) (fun dzz Kzz hKzz => ?_); go_simp; refine hKzz _ _ (fun b hb => hb) (bt_at ?_); clear hKzz Kzz; try walk_nrm) | (refine bt_skip rfl (by rfl) ?_; try walk_nrm)))
    refine bt_cons zgOk.bodied rfl (by rfl) (by decide) (by decide) (fun dzz Kzz hKzz => ?_)
    go_simp
    refine hKzz _ ((w1.alloc (.cells #[] 2)).at dzz) (fun b hb => Wk.pz_alloc _ hb) (bt_at ?_)
    clear hKzz Kzz
    try walk_nrm
    (repeat (first | (first | refine bt_ctl rfl (fun _ => stepG_seq) ?_ | refine bt_ctl rfl (fun _ => stepG_skip) ?_ | refine bt_ctl rfl (fun _ => stepG_region_end) ?_ | refine bt_ctl rfl (fun _ => stepG_ret') ?_ | (refine bt_ctl rfl (fun _ => stepG_region) ?_; simp only [List.size_toArray, List.length_cons, List.length_nil, Nat.reduceAdd, Nat.zero_add, List.range, List.range.loop])) | (refine bt_cons zgOk.bodied rfl (by rfl) (by decide) (by decide) (fun dzz Kzz hKzz => ?_); go_simp; refine hKzz _ _ (fun b hb => hb) (bt_at ?_); clear hKzz Kzz; try walk_nrm) | (refine bt_skip rfl (by rfl) ?_; try walk_nrm)))
    refine Br.BT.leave (v := .slice (some ⟨w1.heap.size, 0, none⟩) 0 0) ⟨rfl, rfl, rfl, Try.f8, Try.func8, results_tmp (t := 6) rfl _ _ _⟩ (hk _ _ ?_)
    rw [hq]
    exact ⟨w1.heap.size, 0, rfl, ownI_lit0 w1 (unhide HB1).size, (unhide HB1).trans ⟨rfl, rfl, by simp, fun k hk' => Below.heap_alloc _ _ _ (Nat.lt_of_lt_of_le hk' (unhide HB1).size)⟩⟩
  have g0 : ((ns.length : Int) != zs.length) = false := by simp; omega
  have h100 : l.length ≤ 100 := (pOk_parts (unhide HV)).1
  have hneH := hide hne
  clear hne
  (repeat (first | (first | refine bt_ctl rfl (fun _ => stepG_seq) ?_ | refine bt_ctl rfl (fun _ => stepG_skip) ?_ | refine bt_ctl rfl (fun _ => stepG_region_end) ?_ | refine bt_ctl rfl (fun _ => stepG_ret') ?_ | (refine bt_ctl rfl (fun _ => stepG_region) ?_; simp only [List.size_toArray, List.length_cons, List.length_nil, Nat.reduceAdd, Nat.zero_add, List.range, List.range.loop])) | (refine bt_cons zgOk.bodied rfl (by rfl) (by decide) (by decide) (fun dzz Kzz hKzz => ?_); go_simp; refine hKzz _ _ (fun b hb => hb) (bt_at ?_); clear hKzz Kzz; try walk_nrm) | (refine bt_skip rfl (by rfl) ?_; try walk_nrm)))
  (refine bt_ctl rfl (fun _ => stepG_cond (t := false) rfl) ?_; simp only [if_true, if_false, Bool.false_eq_true, ↓reduceIte])
  (repeat (first | (first | refine bt_ctl rfl (fun _ => stepG_seq) ?_ | refine bt_ctl rfl (fun _ => stepG_skip) ?_ | refine bt_ctl rfl (fun _ => stepG_region_end) ?_ | refine bt_ctl rfl (fun _ => stepG_ret') ?_ | (refine bt_ctl rfl (fun _ => stepG_region) ?_; simp only [List.size_toArray, List.length_cons, List.length_nil, Nat.reduceAdd, Nat.zero_add, List.range, List.range.loop])) | (refine bt_cons zgOk.bodied rfl (by rfl) (by decide) (by decide) (fun dzz Kzz hKzz => ?_); go_simp; refine hKzz _ _ (fun b hb => hb) (bt_at ?_); clear hKzz Kzz; try walk_nrm) | (refine bt_skip rfl (by rfl) ?_; try walk_nrm)))
  obtain ⟨i0, hi, hz0, hz1, hz2⟩ := info_parts infoI
  have hmk := fun w => run_make (P := Try.prog) w 31 2 i0 (.int .i64 0) Try.underlying31 hi hz0 .i64 .i64 l.length l.length (by omega) (by omega) (by rw [hz2]; omega) (by omega)
  refine bt_cons zgOk.bodied rfl (by rfl) (by decide) (by decide) (fun dzz Kzz hKzz => ?_)
  go_simp
  refine hKzz _ ((w1.alloc (.cells (madeCells #[.int .i64 0] l.length) 2)).at dzz) (fun b hb => Wk.pz_alloc _ hb) (bt_at ?_)
  clear hKzz Kzz hmk hi hz0 hz1 hz2
  have hsz : ∀ d, (w1.at d).heap.size = w1.heap.size := fun _ => rfl
  simp only [hsz]
  clear hsz
  have om := hide (ownI_made (w := w1) (n := l.length) hl)
  have Bm := hide (show Bel w1.heap.size w1 (w1.alloc (.cells (madeCells #[.int .i64 0] l.length) 2)) from ⟨rfl, rfl, by simp, fun k hk' => Below.heap_alloc _ _ _ hk'⟩)
  have sm := hide (show (w1.alloc (.cells (madeCells #[.int .i64 0] l.length) 2)).heap.size = w1.heap.size + 1 by simp)
  generalize w1.alloc (.cells (madeCells #[.int .i64 0] l.length) 2) = wm at *
  try walk_nrm
  (repeat (first | (first | refine bt_ctl rfl (fun _ => stepG_seq) ?_ | refine bt_ctl rfl (fun _ => stepG_skip) ?_ | refine bt_ctl rfl (fun _ => stepG_region_end) ?_ | refine bt_ctl rfl (fun _ => stepG_ret') ?_ | (refine bt_ctl rfl (fun _ => stepG_region) ?_; simp only [List.size_toArray, List.length_cons, List.length_nil, Nat.reduceAdd, Nat.zero_add, List.range, List.range.loop])) | (refine bt_cons zgOk.bodied rfl (by rfl) (by decide) (by decide) (fun dzz Kzz hKzz => ?_); go_simp; refine hKzz _ _ (fun b hb => hb) (bt_at ?_); clear hKzz Kzz; try walk_nrm) | (refine bt_skip rfl (by rfl) ?_; try walk_nrm)))
  obtain ⟨j0, hi, hz0, hz1, hz2⟩ := info_parts Bb.info22
  have hmk := fun w => run_make (P := Try.prog) w 25 22 j0 (.slice none 0 0) Try.underlying25 hi hz0 .i64 .i64 l.length l.length (by omega) (by omega) (by rw [hz2]; omega) (by omega)
  refine bt_cons zgOk.bodied rfl (by rfl) (by decide) (by decide) (fun dzz Kzz hKzz => ?_)
  go_simp
  refine hKzz _ ((wm.alloc (.cells (madeCells #[.slice none 0 0] l.length) 22)).at dzz) (fun b hb => Wk.pz_alloc _ hb) (bt_at ?_)
  clear hKzz Kzz hmk hi hz0 hz1 hz2
  have hsz : ∀ d, (wm.at d).heap.size = wm.heap.size := fun _ => rfl
  simp only [hsz]
  clear hsz
  have Bn := hide (show Bel wm.heap.size wm (wm.alloc (.cells (madeCells #[.slice none 0 0] l.length) 22)) from ⟨rfl, rfl, by simp, fun k hk' => Below.heap_alloc _ _ _ hk'⟩)
  have H1 := hide (show OwnI (wm.alloc (.cells (madeCells #[.slice none 0 0] l.length) 22)) w.heap.size w1.heap.size l.length l.length (List.replicate l.length 0) from own_bel (unhide Bn) (by have := unhide sm; omega) (own_from (unhide om) (unhide HB1).size))
  have H2 := hide (ownE_made (w := wm) (B := w.heap.size) (n := l.length) (Nat.le_trans (unhide HB1).size (unhide Bm).size) hl)
  have H3 := hide (show Bel w.heap.size w (wm.alloc (.cells (madeCells #[.slice none 0 0] l.length) 22)) from ((unhide HB1).trans ((unhide Bm).mono (unhide HB1).size)).trans ((unhide Bn).mono (Nat.le_trans (unhide HB1).size (unhide Bm).size)))
  generalize wm.alloc (.cells (madeCells #[.slice none 0 0] l.length) 22) = wn at *
  have H5 := hide (show w1.heap.size ≠ wm.heap.size by have := unhide sm; omega)
  clear om Bm sm Bn
  try walk_nrm
  (repeat (first | (first | refine bt_ctl rfl (fun _ => stepG_seq) ?_ | refine bt_ctl rfl (fun _ => stepG_skip) ?_ | refine bt_ctl rfl (fun _ => stepG_region_end) ?_ | refine bt_ctl rfl (fun _ => stepG_ret') ?_ | (refine bt_ctl rfl (fun _ => stepG_region) ?_; simp only [List.size_toArray, List.length_cons, List.length_nil, Nat.reduceAdd, Nat.zero_add, List.range, List.range.loop])) | (refine bt_cons zgOk.bodied rfl (by rfl) (by decide) (by decide) (fun dzz Kzz hKzz => ?_); go_simp; refine hKzz _ _ (fun b hb => hb) (bt_at ?_); clear hKzz Kzz; try walk_nrm) | (refine bt_skip rfl (by rfl) ?_; try walk_nrm)))
  have key := ver_mid (Q := Q) (c := c) (cs := cs) a b d ca cb cd l ns zs w wn w1.heap.size wm.heap.size (unhide hneH) hnm (unhide HV) h100 hkl hs hB hg hTh (unhide H3) (unhide H1) (unhide H2) (unhide H5) hk
  exact key _ _ _ _ _ _ _ _ _ _ _ _ _ _ _ _ _ _ _ _ _ _ _ _ _ _ _ _ _ _ _ _ _ _ _ _ _ _ _ _ _ _ _ _ _ _ _ _ _ _ _ _ _ _ _ _ _ _ _ _ _ _ _ _ _ _ _ _ _ _ _ _ _ _ _ _ _ _ _ _ _ _ _ _ _ _ _
end Go.Proofs.Ytghglpcfpokmhaa

namespace Go.Proofs.Ytghglpcfpokmhaa
open Go.RowKit
set_option linter.unusedVariables false
set_option linter.unusedSimpArgs false

/-- two lists of the call's own, in two blocks -/
structure Two (w wr : World) (g1 n1 c1 : Nat) (A : List ByteArray) (g2 n2 c2 : Nat) (B : List ByteArray) : Prop where
  o1 : OwnS wr w.heap.size g1 n1 c1 A
  o2 : OwnS wr w.heap.size g2 n2 c2 B
  ne : g1 ≠ g2
  bel : Below w.heap.size w wr
theorem Two.below {w wr w1 : World} {g1 n1 c1 g2 n2 c2 : Nat} {A B : List ByteArray} (h : Two w wr g1 n1 c1 A g2 n2 c2 B) (hb : Below wr.heap.size wr w1) : Two w w1 g1 n1 c1 A g2 n2 c2 B :=
  ⟨ownsRow_below h.o1 hb, ownsRow_below h.o2 hb, h.ne, laterB h.bel hb⟩
theorem Two.drew {w wr : World} {g1 n1 c1 g2 n2 c2 : Nat} {A B : List ByteArray} (h : Two w wr g1 n1 c1 A g2 n2 c2 B) (n : Nat) : Two w (wr.drewN n) g1 n1 c1 A g2 n2 c2 B :=
  ⟨h.o1, h.o2, h.ne, below_drewN h.bel _⟩
theorem Two.app1 {w wr w1 : World} {g1 n1 c1 g2 n2 c2 g' c' : Nat} {A B : List ByteArray} {s : ByteArray} (h : Two w wr g1 n1 c1 A g2 n2 c2 B) (ho : OwnS w1 w.heap.size g' (n1 + 1) c' (A ++ [s])) (hg : wr.grownBy w1 (some g1)) (hl : g' = g1 ∨ wr.heap.size ≤ g') : Two w w1 g' (n1 + 1) c' (A ++ [s]) g2 n2 c2 B :=
  ⟨ho, own_kept h.o2 hg h.ne.symm, by
    rcases hl with rfl | hl
    · exact h.ne
    · have := own_lt h.o2; omega, below_grown h.bel hg (own_ge h.o1)⟩
theorem Two.app2 {w wr w1 : World} {g1 n1 c1 g2 n2 c2 g' c' : Nat} {A B : List ByteArray} {s : ByteArray} (h : Two w wr g1 n1 c1 A g2 n2 c2 B) (ho : OwnS w1 w.heap.size g' (n2 + 1) c' (B ++ [s])) (hg : wr.grownBy w1 (some g2)) (hl : g' = g2 ∨ wr.heap.size ≤ g') : Two w w1 g1 n1 c1 A g' (n2 + 1) c' (B ++ [s]) :=
  ⟨own_kept h.o1 hg h.ne, ho, by
    rcases hl with rfl | hl
    · exact h.ne
    · have := own_lt h.o1; omega, below_grown h.bel hg (own_ge h.o2)⟩
theorem two_new (w : World) : Two w ((w.alloc (.cells #[] 9)).alloc (.cells #[] 9)) w.heap.size 0 0 [] (w.heap.size + 1) 0 0 [] := by
  have b1 : Below w.heap.size w (w.alloc (.cells #[] 9)) := (Below.refl _ _).alloc (Nat.le_refl _) _
  have b2 : Below (w.alloc (.cells #[] 9)).heap.size (w.alloc (.cells #[] 9)) ((w.alloc (.cells #[] 9)).alloc (.cells #[] 9)) := (Below.refl _ _).alloc (Nat.le_refl _) _
  have o1 := ownsRow_below (ownS_lit0 w (Nat.le_refl w.heap.size)) b2
  have o2 := ownS_lit0 (w.alloc (.cells #[] 9)) (B := w.heap.size) b1.size
  have e : (w.alloc (.cells #[] 9)).heap.size = w.heap.size + 1 := by simp
  rw [e] at o2
  exact ⟨o1, o2, by omega, laterB b1 b2⟩
theorem kls_two {w wr : World} {g1 n1 c1 g2 n2 c2 : Nat} {A B : List ByteArray} {a : Option Addr} {l : List Kl} (hk : Kls w a l) (h : Two w wr g1 n1 c1 A g2 n2 c2 B) : Kls wr a l := hk.below h.bel
/-- an answer that is two new lists -/
def AnU (w : World) (A B : List ByteArray) (e : Ending) (w' : World) : Prop := ∃ g1 c1 g2 c2, e = .returned (.tuple #[.slice (some ⟨g1, 0, none⟩) A.length c1, .slice (some ⟨g2, 0, none⟩) B.length c2]) ∧ Two w w' g1 A.length c1 A g2 B.length c2 B
theorem AnU.mk {w w' : World} {A B : List ByteArray} {n m g1 c1 g2 c2 : Nat} (h : Two w w' g1 n c1 A g2 m c2 B) : AnU w A B (.returned (.tuple #[.slice (some ⟨g1, 0, none⟩) n c1, .slice (some ⟨g2, 0, none⟩) m c2])) w' := by
  have h1 := ownS_len h.o1
  have h2 := ownS_len h.o2
  subst h1 h2
  exact ⟨g1, c1, g2, c2, rfl, h⟩

end Go.Proofs.Ytghglpcfpokmhaa
