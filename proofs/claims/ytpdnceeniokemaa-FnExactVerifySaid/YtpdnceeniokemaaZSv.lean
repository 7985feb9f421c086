/-
  impl.Verify beside leavers.
  A number appended to an owned list of numbers; the answer that is a new list of numbers.
  The contract of the model's Verify; nothing that was there is written.
-/
import Derived.Test.YtpdnceeniokemaaZIdS
import Derived.Test.YtpdnceeniokemaaZVc
import Derived.Test.YtpdnceeniokemaaZCopyL
import Derived.Test.YtpdnceeniokemaaZSt
import Derived.Test.YtpdnceeniokemaaZPk
import Derived.Test.YtpdnceeniokemaaZDg
set_option linter.unusedVariables false
set_option linter.unusedSimpArgs false
namespace Go.Proofs.Ytpdnceeniokemaa
open Go Go.Conc Go.RowKit
open Go.Proofs.Ytpdnceeniokemaa.Bb (Tks)
open Go.Proofs.Ytpdnceeniokemaa.Wk (El BodiesV Bel dig_B valsE)
open Go.Proofs.Ytpdnceeniokemaa.Br (BT BTS Hd Pz Pst CallsB bt_ctl bt_cons bt_skip bt_callB bt_call rt)
set_option maxRecDepth 10000 in
theorem array95 (T : Array Value) (h : T.size = 95) : ∃ u0 u1 u2 u3 u4 u5 u6 u7 u8 u9 u10 u11 u12 u13 u14 u15 u16 u17 u18 u19 u20 u21 u22 u23 u24 u25 u26 u27 u28 u29 u30 u31 u32 u33 u34 u35 u36 u37 u38 u39 u40 u41 u42 u43 u44 u45 u46 u47 u48 u49 u50 u51 u52 u53 u54 u55 u56 u57 u58 u59 u60 u61 u62 u63 u64 u65 u66 u67 u68 u69 u70 u71 u72 u73 u74 u75 u76 u77 u78 u79 u80 u81 u82 u83 u84 u85 u86 u87 u88 u89 u90 u91 u92 u93 u94 : Value, T = #[u0, u1, u2, u3, u4, u5, u6, u7, u8, u9, u10, u11, u12, u13, u14, u15, u16, u17, u18, u19, u20, u21, u22, u23, u24, u25, u26, u27, u28, u29, u30, u31, u32, u33, u34, u35, u36, u37, u38, u39, u40, u41, u42, u43, u44, u45, u46, u47, u48, u49, u50, u51, u52, u53, u54, u55, u56, u57, u58, u59, u60, u61, u62, u63, u64, u65, u66, u67, u68, u69, u70, u71, u72, u73, u74, u75, u76, u77, u78, u79, u80, u81, u82, u83, u84, u85, u86, u87, u88, u89, u90, u91, u92, u93, u94] :=
  ⟨T[0], T[1], T[2], T[3], T[4], T[5], T[6], T[7], T[8], T[9], T[10], T[11], T[12], T[13], T[14], T[15], T[16], T[17], T[18], T[19], T[20], T[21], T[22], T[23], T[24], T[25], T[26], T[27], T[28], T[29], T[30], T[31], T[32], T[33], T[34], T[35], T[36], T[37], T[38], T[39], T[40], T[41], T[42], T[43], T[44], T[45], T[46], T[47], T[48], T[49], T[50], T[51], T[52], T[53], T[54], T[55], T[56], T[57], T[58], T[59], T[60], T[61], T[62], T[63], T[64], T[65], T[66], T[67], T[68], T[69], T[70], T[71], T[72], T[73], T[74], T[75], T[76], T[77], T[78], T[79], T[80], T[81], T[82], T[83], T[84], T[85], T[86], T[87], T[88], T[89], T[90], T[91], T[92], T[93], T[94], by
    apply Array.ext
    · simpa using h
    · intro i h1 h2
      have hi : i < 95 := by simpa using h2
      rcases i with _ | _ | _ | _ | _ | _ | _ | _ | _ | _ | _ | _ | _ | _ | _ | _ | _ | _ | _ | _ | _ | _ | _ | _ | _ | _ | _ | _ | _ | _ | _ | _ | _ | _ | _ | _ | _ | _ | _ | _ | _ | _ | _ | _ | _ | _ | _ | _ | _ | _ | _ | _ | _ | _ | _ | _ | _ | _ | _ | _ | _ | _ | _ | _ | _ | _ | _ | _ | _ | _ | _ | _ | _ | _ | _ | _ | _ | _ | _ | _ | _ | _ | _ | _ | _ | _ | _ | _ | _ | _ | _ | _ | _ | _ | _ | i
      all_goals first | rfl | omega⟩
/-- What Verify answers, beside leavers. -/
def RVf (w : World) (L : List Int) (v : Value) (w' : World) : Prop := ∃ g c, v = .slice (some ⟨g, 0, none⟩) L.length c ∧ OwnI w' w.heap.size g L.length c L ∧ Bel w.heap.size w w'
def RPo (w : World) (ok : Bool) (v : Value) (w' : World) : Prop := v = .bool ok ∧ Bel w.heap.size w w'
theorem RPo.i {w : World} {ok : Bool} (v : Value) (w' : World) (T : Nat → Question → Nat) (d : Nat) (h : RPo w ok v w') : RPo w ok v (rt T d w') := ⟨h.1, h.2.rtt T d⟩
theorem RPo.e {w : World} {ok : Bool} (v : Value) (w' : World) (h : RPo w ok v w') : ∀ b, Pz w b → Pz w' b := h.2.kp
theorem ipk_R (w : World) (a : Option Addr) (ca : Nat) (l : List Kl) (hl : l.length ≤ maxLen) (hz : SzOk l) (hk : Kls w a l) (T : Nat → Question → Nat) (d : Nat) :
    Calls Try.prog 24 #[.slice a l.length ca] (rt T d w) fun e w' => ∃ v, e = .returned v ∧ RPo w (pOk l) v w' :=
  (ipk_any a ca l (rt T d w) hl hz hk).mono fun e w' ⟨h1, h2⟩ => ⟨_, h1, rfl, bel_rt h2⟩
theorem Wk.Bel.kls {w w' : World} {a : Option Addr} {l : List Kl} (h : Bel w.heap.size w w') (hs : Kls w a l) : Kls w' a l :=
  Kls.below (w' := { w' with tape := w.tape }) hs ⟨h.os, rfl, h.output, h.size, h.block⟩
theorem Wk.Bel.bods {w w' : World} {a : Option Addr} {l : List El} (h : Bel w.heap.size w w') (hs : BodiesV w l a) : BodiesV w' l a := bodiesV_bel hs h.block h.size
theorem okA39 : Br.okC (Br.okOp Zg Try.prog []) A39 = true := by kernel_rfl
theorem okB39 : Br.okC (Br.okOp Zg Try.prog []) B39 = true := by kernel_rfl
theorem okC39 : Br.okC (Br.okOp Zg Try.prog []) C39 = true := by kernel_rfl
/-- behind the first loop, beside leavers -/
def RW1 (w x : World) (a : Option Addr) (ca gt gz : Nat) (l : List Kl) (ns : List ByteArray) (zs : List El) (a' : Act) (w' : World) : Prop :=
  ∃ T, a' = ⟨T, []⟩ ∧ T.size = 95 ∧ T[0]? = some (.slice a l.length ca) ∧ T[7]? = some (.slice (some ⟨gt, 0, none⟩) l.length l.length) ∧ T[8]? = some (.slice (some ⟨gz, 0, none⟩) l.length l.length) ∧ OwnI w' w.heap.size gt l.length l.length (tk l ns zs) ∧ OwnE w' w.heap.size gz l.length (ek l ns zs) ∧ Bel w.heap.size w w' ∧ KP x w'
def RW2 (w x : World) (gt n : Nat) (tl : List Int) (a' : Act) (w' : World) : Prop :=
  ∃ T, a' = ⟨T, []⟩ ∧ T.size = 95 ∧ T[7]? = some (.slice (some ⟨gt, 0, none⟩) n n) ∧ OwnI w' w.heap.size gt n n tl ∧ Bel w.heap.size w w' ∧ KP x w'
theorem els_bodies {w w' : World} {gz : Nat} {d : Option Addr} {l : List Kl} {ns : List ByteArray} {zs : List El} (hB : BodiesV w zs d) (hb : Bel w.heap.size w w') (ho : OwnE w' w.heap.size gz l.length (ek l ns zs)) : BodiesV w' (ek l ns zs) (some ⟨gz, 0, none⟩) := by
  refine ⟨fun j e he => ?_, fun e he => ?_⟩
  · have hj := (List.getElem?_eq_some_iff.1 he).1
    rw [ek_len] at hj
    have := ho.cellAt j (by omega)
    refine ⟨gz, 0, rfl, own_lt ho, ?_⟩
    rw [Nat.zero_add, this, List.getElem?_map, he]
    rfl
  · obtain ⟨y, hy, rfl⟩ := List.mem_map.1 he
    rcases fst1_mem (ns := ns) (zs := zs) (x := y) with h | h
    · rw [h]
      exact ⟨fun j x hx => by simp [nilE] at hx, fun x hx => by simp [nilE] at hx, Nat.le_refl _, by simp [nilE]⟩
    · exact (hb.bods hB).body _ h
theorem kp_two {x w' : World} {B gt gz n : Nat} {A : List Value} {C : List Value} (ht : x.ownsRow B 2 1 (.slice (some ⟨gt, 0, none⟩) n n) n A) (hz : x.ownsRow B 22 1 (.slice (some ⟨gz, 0, none⟩) n n) n C) (hk : ∀ b, b < x.heap.size → b ≠ gt → b ≠ gz → w'.heap[b]? = x.heap[b]?) (h0 : n = 0 → w'.heap = x.heap) : KP x w' := fun b hb => by
  rcases Nat.eq_zero_or_pos n with e | e
  · obtain ⟨y, hy⟩ := hb
    exact ⟨y, by rw [h0 e]; exact hy⟩
  · have h1 : b ≠ gt := fun e' => by subst e'; have := row_pz0 ht hb; omega
    have h2 : b ≠ gz := fun e' => by subst e'; have := row_pz0 hz hb; omega
    obtain ⟨y, hy⟩ := hb
    exact ⟨y, (hk b (Array.getElem?_eq_some_iff.1 hy).1 h1 h2).trans hy⟩
theorem kp_one {x w' : World} {B gt n : Nat} {A : List Value} (ht : x.ownsRow B 2 1 (.slice (some ⟨gt, 0, none⟩) n n) n A) (hk : ∀ b, b < x.heap.size → b ≠ gt → w'.heap[b]? = x.heap[b]?) (h0 : n = 0 → w'.heap = x.heap) : KP x w' := fun b hb => by
  rcases Nat.eq_zero_or_pos n with e | e
  · obtain ⟨y, hy⟩ := hb
    exact ⟨y, by rw [h0 e]; exact hy⟩
  · have h1 : b ≠ gt := fun e' => by subst e'; have := row_pz0 ht hb; omega
    obtain ⟨y, hy⟩ := hb
    exact ⟨y, (hk b (Array.getElem?_eq_some_iff.1 hy).1 h1).trans hy⟩
set_option maxRecDepth 100000 in
theorem ver_end [Br.Thr] {Q : Goroutine → World → Prop} {c : Frame} {cs : List Frame} (a : Option Addr) (ca : Nat) (l : List Kl) (ns : List ByteArray) (zs : List El) (w w2 : World) (gt gs : Nat) (hne : ns.length = zs.length) (hp : pOk l = true) (h100 : l.length ≤ 100) (hkl : Kls w a l) (hg : Br.GC Try.prog w)
    (hbel : Bel w.heap.size w w2) (hown : OwnI w2 w.heap.size gt l.length l.length (tk l ns zs)) (hgs : ∀ j e, (ek l ns zs)[j]? = some e → w2.cell? ⟨gs, j, none⟩ = some (.int .i64 (dig e.l))) (hgl : gs < w2.heap.size) (hgg : gt ≠ gs) (hk : ∀ v w', RVf w (vfy l ns (zs.map (·.l))) v w' → BT Try.prog Q (G (c.finish v) cs) w')
    (v1 v2 v3 v4 v5 v6 v8 v9 v10 v11 v12 v13 v14 v15 v16 v17 v18 v19 v20 v21 v22 v23 v24 v25 v26 v27 v28 v29 v30 v31 v32 v33 v34 v35 v36 v37 v38 v39 v40 v41 v42 v43 v44 v45 v46 v47 v48 v49 v50 v51 v52 v53 v54 v55 v56 v57 v58 v59 v60 v61 v62 v63 v64 v65 v66 v67 v68 v72 v73 v74 v75 v76 v77 v78 v79 v80 v81 v82 v83 v84 v85 v86 v87 v88 v89 v90 v91 v92 v93 v94 : Value) :
    BT Try.prog Q (G ((base 39).at ⟨#[.slice a l.length ca, v1, v2, v3, v4, v5, v6, .slice (some ⟨gt, 0, none⟩) l.length l.length, v8, v9, v10, v11, v12, v13, v14, v15, v16, v17, v18, v19, v20, v21, v22, v23, v24, v25, v26, v27, v28, v29, v30, v31, v32, v33, v34, v35, v36, v37, v38, v39, v40, v41, v42, v43, v44, v45, v46, v47, v48, v49, v50, v51, v52, v53, v54, v55, v56, v57, v58, v59, v60, v61, v62, v63, v64, v65, v66, v67, v68, .slice (some ⟨gs, 0, none⟩) l.length l.length, .int .i64 l.length, .int .i64 0, v72, v73, v74, v75, v76, v77, v78, v79, v80, v81, v82, v83, v84, v85, v86, v87, v88, v89, v90, v91, v92, v93, v94], []⟩ [.code B39, .code C39]) (c :: cs)) w2 := by
  refine Br.BT.code (R := RW2 w w2 gt l.length (fk l ns zs)) zgOk Try.func39 rfl okB39 rfl (gc_bel hbel hg) (fun a w T d ⟨T', h1, h2, h3, h4, h5, h6⟩ => ⟨T', h1, h2, h3, h4, ⟨h5.os, h5.output, h5.size, h5.block⟩, h6⟩) (fun T dd => ?_) (fun a' w' ⟨_, _, _, _, _, _, h⟩ => h) (fun a' w' h => ?_)
  · have hL := ver_loop2 a ca l ns zs (rt T w.drawn w) (rt T dd w2) gt gs h100 hkl ⟨hbel.os, rfl, hbel.output, hbel.size, hbel.block⟩ hown hgs hgl hgg v1 v2 v3 v4 v5 v6 v8 v9 v10 v11 v12 v13 v14 v15 v16 v17 v18 v19 v20 v21 v22 v23 v24 v25 v26 v27 v28 v29 v30 v31 v32 v33 v34 v35 v36 v37 v38 v39 v40 v41 v42 v43 v44 v45 v46 v47 v48 v49 v50 v51 v52 v53 v54 v55 v56 v57 v58 v59 v60 v61 v62 v63 v64 v65 v66 v67 v68 v72 v73 v74 v75 v76 v77 v78 v79 v80 v81 v82 v83 v84 v85 v86 v87 v88 v89 v90 v91 v92 v93 v94
    refine wp_mono hL ?_
    rintro e a' w' ⟨he, T', h1, h2, h3, h4⟩
    exact ⟨he, T', h1, h2, h3, h4.t, ⟨h4.bel.os, h4.bel.output, h4.bel.size, h4.bel.block⟩, kp_one hown h4.keep h4.nil0⟩
  · obtain ⟨T, rfl, hT, t7, ho, hb', hkp⟩ := h
    obtain ⟨u0, u1, u2, u3, u4, u5, u6, u7, u8, u9, u10, u11, u12, u13, u14, u15, u16, u17, u18, u19, u20, u21, u22, u23, u24, u25, u26, u27, u28, u29, u30, u31, u32, u33, u34, u35, u36, u37, u38, u39, u40, u41, u42, u43, u44, u45, u46, u47, u48, u49, u50, u51, u52, u53, u54, u55, u56, u57, u58, u59, u60, u61, u62, u63, u64, u65, u66, u67, u68, u69, u70, u71, u72, u73, u74, u75, u76, u77, u78, u79, u80, u81, u82, u83, u84, u85, u86, u87, u88, u89, u90, u91, u92, u93, u94, rfl⟩ := array95 T hT
    simp only [List.getElem?_toArray, List.getElem?_cons_succ, List.getElem?_cons_zero, Option.some.injEq] at t7
    subst t7
    refine Br.BT.body (R := fun v w4 => v = .slice (some ⟨gt, 0, none⟩) l.length l.length ∧ w4.heap = w'.heap ∧ w4.os = w'.os ∧ w4.output = w'.output) zgOk Try.func39 rfl okC39 rfl (gc_bel hb' hg) (fun v w T d h => h) (fun T dd => ?_) (fun v w4 h b ⟨y, hy⟩ => ⟨y, by rw [h.2.1]; exact hy⟩) (fun v w4 h => hk v w4 ?_)
    · refine wp_mono (ver_tail (rt T dd w') gt l.length u0 u1 u2 u3 u4 u5 u6 u8 u9 u10 u11 u12 u13 u14 u15 u16 u17 u18 u19 u20 u21 u22 u23 u24 u25 u26 u27 u28 u29 u30 u31 u32 u33 u34 u35 u36 u37 u38 u39 u40 u41 u42 u43 u44 u45 u46 u47 u48 u49 u50 u51 u52 u53 u54 u55 u56 u57 u58 u59 u60 u61 u62 u63 u64 u65 u66 u67 u68 u69 u70 u71 u72 u73 u74 u75 u76 u77 u78 u79 u80 u81 u82 u83 u84 u85 u86 u87 u88 u89 u90 u91 u92 u93 u94) (bodyPost_mono ?_ ?_)
      · rintro v w4 ⟨v', e, h1, rfl⟩
        exact ⟨v', e, h1, rfl, rfl, rfl⟩
      · rintro e w4 ⟨v, h, _⟩
        exact ⟨v, h⟩
    · obtain ⟨rfl, e1, e2, e3⟩ := h
      rw [← fk_vfy hne hp]
      have hsame : Bel w'.heap.size w' w4 := ⟨e2, e3, by rw [e1]; exact Nat.le_refl _, fun k _ => by rw [e1]⟩
      refine ⟨gt, l.length, by rw [fk_len], by rw [fk_len]; exact own_bel hsame (own_lt ho) ho, hb'.trans (hsame.mono hb'.size)⟩
set_option maxRecDepth 100000 in
set_option maxHeartbeats 4000000 in
theorem ver_mid [Br.Thr] {Q : Goroutine → World → Prop} {c : Frame} {cs : List Frame} (a b d : Option Addr) (ca cb cd : Nat) (l : List Kl) (ns : List ByteArray) (zs : List El) (w w2 : World) (gt gz : Nat) (hne : ns.length = zs.length) (hnm : ns.length ≤ 1048576) (hp : pOk l = true) (h100 : l.length ≤ 100) (hkl : Kls w a l) (hs : Sts w b ns) (hB : BodiesV w zs d) (hg : Br.GC Try.prog w) (hTh : Br.Thr.N ≤ w.heap.size)
    (hbel : Bel w.heap.size w w2) (ht : OwnI w2 w.heap.size gt l.length l.length (List.replicate l.length 0)) (hz : OwnE w2 w.heap.size gz l.length (List.replicate l.length nilE)) (hgg : gt ≠ gz) (hk : ∀ v w', RVf w (vfy l ns (zs.map (·.l))) v w' → BT Try.prog Q (G (c.finish v) cs) w')
    (v3 v4 v5 v6 v9 v10 v11 v12 v13 v14 v15 v16 v17 v18 v19 v20 v21 v22 v23 v24 v25 v26 v27 v28 v29 v30 v34 v35 v36 v37 v38 v39 v40 v41 v42 v43 v44 v45 v46 v47 v48 v49 v50 v51 v52 v53 v54 v55 v56 v57 v58 v59 v60 v61 v62 v63 v64 v65 v66 v67 v68 v69 v70 v71 v72 v73 v74 v75 v76 v77 v78 v79 v80 v81 v82 v83 v84 v85 v86 v87 v88 v89 v90 v91 v92 v93 v94 : Value) :
    BT Try.prog Q (G ((base 39).at ⟨#[.slice a l.length ca, .slice b ns.length cb, .slice d zs.length cd, v3, v4, v5, v6, .slice (some ⟨gt, 0, none⟩) l.length l.length, .slice (some ⟨gz, 0, none⟩) l.length l.length, v9, v10, v11, v12, v13, v14, v15, v16, v17, v18, v19, v20, v21, v22, v23, v24, v25, v26, v27, v28, v29, v30, .slice a l.length ca, .int .i64 l.length, .int .i64 0, v34, v35, v36, v37, v38, v39, v40, v41, v42, v43, v44, v45, v46, v47, v48, v49, v50, v51, v52, v53, v54, v55, v56, v57, v58, v59, v60, v61, v62, v63, v64, v65, v66, v67, v68, v69, v70, v71, v72, v73, v74, v75, v76, v77, v78, v79, v80, v81, v82, v83, v84, v85, v86, v87, v88, v89, v90, v91, v92, v93, v94], []⟩ [.code A39, .code R39]) (c :: cs)) w2 := by
  refine Br.BT.code (R := RW1 w w2 a ca gt gz l ns zs) zgOk Try.func39 rfl okA39 rfl (gc_bel hbel hg) (fun a w T d ⟨T', h1, h2, h3, h4, h5, h6, h7, h8, h9⟩ => ⟨T', h1, h2, h3, h4, h5, h6, h7, ⟨h8.os, h8.output, h8.size, h8.block⟩, h9⟩) (fun T dd => ?_) (fun a' w' ⟨_, _, _, _, _, _, _, _, _, h⟩ => h) (fun a' w' h => ?_)
  · have hL := ver_loop1 a b d ca cb cd l ns zs (rt T w.drawn w) (rt T dd w2) gt gz hne h100 hnm hkl hs ⟨hB.el, hB.body⟩ ⟨hbel.os, rfl, hbel.output, hbel.size, hbel.block⟩ ht hz hgg v3 v4 v5 v6 v9 v10 v11 v12 v13 v14 v15 v16 v17 v18 v19 v20 v21 v22 v23 v24 v25 v26 v27 v28 v29 v30 v34 v35 v36 v37 v38 v39 v40 v41 v42 v43 v44 v45 v46 v47 v48 v49 v50 v51 v52 v53 v54 v55 v56 v57 v58 v59 v60 v61 v62 v63 v64 v65 v66 v67 v68 v69 v70 v71 v72 v73 v74 v75 v76 v77 v78 v79 v80 v81 v82 v83 v84 v85 v86 v87 v88 v89 v90 v91 v92 v93 v94
    refine wp_mono hL ?_
    rintro e a' w' ⟨he, T', h1, h2, h3, h4, h5, k, hk', h6⟩
    subst hk'
    exact ⟨he, T', h1, h2, h3, h4, h5, h6.t, h6.z, ⟨h6.bel.os, h6.bel.output, h6.bel.size, h6.bel.block⟩, kp_two ht hz h6.keep h6.nil0⟩
  · obtain ⟨T, rfl, hT, t0, t7, t8, ho, hoz, hb', hkp⟩ := h
    obtain ⟨u0, u1, u2, u3, u4, u5, u6, u7, u8, u9, u10, u11, u12, u13, u14, u15, u16, u17, u18, u19, u20, u21, u22, u23, u24, u25, u26, u27, u28, u29, u30, u31, u32, u33, u34, u35, u36, u37, u38, u39, u40, u41, u42, u43, u44, u45, u46, u47, u48, u49, u50, u51, u52, u53, u54, u55, u56, u57, u58, u59, u60, u61, u62, u63, u64, u65, u66, u67, u68, u69, u70, u71, u72, u73, u74, u75, u76, u77, u78, u79, u80, u81, u82, u83, u84, u85, u86, u87, u88, u89, u90, u91, u92, u93, u94, rfl⟩ := array95 T hT
    simp only [List.getElem?_toArray, List.getElem?_cons_succ, List.getElem?_cons_zero, Option.some.injEq] at t0 t7 t8
    subst t0 t7 t8
    have hbz := hide (els_bodies hB hb' hoz)
    have Ho := hide ho
    have Hb := hide hb'
    have HK := hide hk
    clear ho hoz hb' hkp hT hk ht hz hbel
    simp only [R39, Try.f39, Option.getD_some]
    (repeat (first | (first | refine bt_ctl rfl (fun _ => stepG_seq) ?_ | refine bt_ctl rfl (fun _ => stepG_skip) ?_ | refine bt_ctl rfl (fun _ => stepG_region_end) ?_ | refine bt_ctl rfl (fun _ => stepG_ret') ?_ | (refine bt_ctl rfl (fun _ => stepG_region) ?_; simp only [List.size_toArray, List.length_cons, List.length_nil, Nat.reduceAdd, Nat.zero_add, List.range, List.range.loop])) | (refine bt_cons zgOk.bodied rfl (by rfl) (by decide) (by decide) (fun dzz Kzz hKzz => ?_); go_simp; refine hKzz _ _ (fun b hb => hb) (bt_at ?_); clear hKzz Kzz; try walk_nrm) | (refine bt_skip rfl (by rfl) ?_; try walk_nrm)))
    refine bt_callB (dig_B (w := w') (zs := ek l ns zs) (n := l.length) (cap := l.length) (a0 := some ⟨gz, 0, none⟩) ek_len (by omega) (unhide hbz) (gc_bel (unhide Hb) hg) (Nat.le_trans hTh (unhide Hb).size)) Try.func66 (by kernel_rfl) (by kernel_rfl) rfl (by rfl) rfl (by decide) (by simp [Act.eval]) ?_
    rintro v w3 ⟨rfl, hsum, hbel⟩
    have hlt3 : w'.heap.size < w3.heap.size := (Array.getElem?_eq_some_iff.1 hsum).1
    have hsums : ∀ j e, (ek l ns zs)[j]? = some e → w3.cell? ⟨w'.heap.size, j, none⟩ = some (.int .i64 (dig e.l)) := fun j e he => by
      have hj := (List.getElem?_eq_some_iff.1 he).1
      rw [ek_len] at hj
      have hv : (valsE (ek l ns zs) l.length)[j]? = some (.int .i64 (dig e.l)) := by rw [Wk.valsE_get j hj]; simp [Wk.val, he]
      simp [World.cell?, hsum, hv]
    have H1 := hide ((unhide Hb).trans (hbel.mono (unhide Hb).size))
    have hgt : gt < w'.heap.size := own_lt (unhide Ho)
    have H2 := hide (own_bel hbel hgt (unhide Ho))
    have H3 := hide hlt3
    have H4 := hide hsums
    have H5 := hide (show gt ≠ w'.heap.size by omega)
    clear hlt3 hsums hsum hbel hgt Ho Hb hbz
    try walk_nrm
    (repeat (first | (first | refine bt_ctl rfl (fun _ => stepG_seq) ?_ | refine bt_ctl rfl (fun _ => stepG_skip) ?_ | refine bt_ctl rfl (fun _ => stepG_region_end) ?_ | refine bt_ctl rfl (fun _ => stepG_ret') ?_ | (refine bt_ctl rfl (fun _ => stepG_region) ?_; simp only [List.size_toArray, List.length_cons, List.length_nil, Nat.reduceAdd, Nat.zero_add, List.range, List.range.loop])) | (refine bt_cons zgOk.bodied rfl (by rfl) (by decide) (by decide) (fun dzz Kzz hKzz => ?_); go_simp; refine hKzz _ _ (fun b hb => hb) (bt_at ?_); clear hKzz Kzz; try walk_nrm) | (refine bt_skip rfl (by rfl) ?_; try walk_nrm)))
    have key := ver_end (Q := Q) (c := c) (cs := cs) a ca l ns zs w w3 gt w'.heap.size hne hp h100 hkl hg (unhide H1) (unhide H2) (unhide H4) (unhide H3) (unhide H5) (unhide HK)
    exact key _ _ _ _ _ _ _ _ _ _ _ _ _ _ _ _ _ _ _ _ _ _ _ _ _ _ _ _ _ _ _ _ _ _ _ _ _ _ _ _ _ _ _ _ _ _ _ _ _ _ _ _ _ _ _ _ _ _ _ _ _ _ _ _ _ _ _ _ _ _ _ _ _ _ _ _ _ _ _ _ _ _ _ _ _ _ _ _ _ _
end Go.Proofs.Ytpdnceeniokemaa

namespace Go.Proofs.Ytpdnceeniokemaa
open Go.RowKit
set_option linter.unusedVariables false
set_option linter.unusedSimpArgs false

theorem iv_news {w : World} {E : Nat} {v : Int} {t : TypeId} {m : Nat × Nat} (hblk : w.heap[E]? = some (.cells #[.int .i64 v] t m)) : ∀ j u, [iv v][j]? = some u → w.cell? ((⟨E, 0, none⟩ : Addr).add j) = some u := by
  have := World.news_of_block hblk
  simpa [iv] using this
/-- the answer is a new list of numbers -/
def AnI (w : World) (L : List Int) (e : Ending) (w' : World) : Prop := ∃ G cap, e = .returned (.slice (some ⟨G, 0, none⟩) L.length cap) ∧ w.heap.size ≤ G ∧ OwnI w' w.heap.size G L.length cap L ∧ Below w.heap.size w w'
theorem AnI.mk {w w' : World} {L : List Int} {k g c : Nat} (hL : L.length = k) (ho : OwnI w' w.heap.size g k c L) (hb : Below w.heap.size w w') : AnI w L (.returned (.slice (some ⟨g, 0, none⟩) k c)) w' := by
  subst hL; exact ⟨g, c, rfl, own_ge ho, ho, hb⟩
theorem wpList_iA {ops : Array Oper} {rest : List Oper} {o : Oper} {a : Act} {Q : Exit → Act → World → Prop} (w : World) (hgd : o.guard = none) (s x : Operand) (ho : o.op = .call { callee := .builtin .append, args := #[s, x], argTypes := #[53, 53] })
    (B g n cap : Nat) (L : List Int) (v : Int) (hs : a.eval s = .slice (some ⟨g, 0, none⟩) n cap) (hown : OwnI w B g n cap L) (hx : a.eval x = .slice (some ⟨w.heap.size, 0, none⟩) 1 1)
    (hl : n ≤ 1000000) (hB : B ≤ w.heap.size)
    (h : ∀ g' cap' w', OwnI w' B g' (n + 1) cap' (L ++ [v]) → w.grownBy w' (some g) → B ≤ g' → (g' = g ∨ w.heap.size ≤ g') → wpList Try.prog ops Q rest (a.put o.dst (.slice (some ⟨g', 0, none⟩) (n + 1) cap')) w') : wpList Try.prog ops Q (o :: rest) a (w.alloc (.cells #[.int .i64 v] 2)) := by
  obtain ⟨i0, hi, hz0, hz1, hz2⟩ := info_parts infoI
  have hb : Below w.heap.size w (w.alloc (.cells #[.int .i64 v] 2)) := (Below.refl _ _).alloc (Nat.le_refl _) _
  have hblk : (w.alloc (.cells #[.int .i64 v] 2)).heap[w.heap.size]? = some (.cells #[.int .i64 v] 2 (0, 0)) := heap_alloc_new w _
  have hnews := iv_news hblk
  have hsz := hb.size
  generalize w.alloc (.cells #[.int .i64 v] 2) = W at *
  have hown2 := ownsRow_below hown hb
  have hBg : B ≤ g := (hown.lt g rfl).1
  refine wpList_append_lies W hgd s x 53 ho B 2 i0 (.int .i64 0) 1 8 Try.underlying53 hi hz0 hz1 hz2 rfl (by decide) _ n (L.map iv) hs hown2 ⟨w.heap.size, 0, none⟩ 1 1 [iv v] hx rfl hnews (by intro u hu; simp at hu; subst hu; rfl) (by decide) (by unfold maxLen; omega) (by omega) (by omega) W.heap.size rfl ?_
  intro g' cap' w' h1 h2 h3 h4
  refine h g' cap' w' (by show World.ownsRow _ _ _ _ _ _ _; rw [List.map_append]; exact h1) ?_ (own_ge h1) ?_
  · exact grown_trans ⟨hb.os, hb.tape, hb.output, hb.size, fun j hj _ => hb.block j hj⟩ h2
  · rcases h3 with h3 | h3
    · simp [Value.ownBlock] at h3; exact .inl h3.symm
    · exact .inr (by omega)

end Go.Proofs.Ytpdnceeniokemaa

namespace Go.Proofs.Ytpdnceeniokemaa
open Go.RowKit
open Go.Proofs.Ytpdnceeniokemaa.Bb (Tks)
set_option linter.unusedVariables false
set_option linter.unusedSimpArgs false

theorem bys_drwN {w : World} {a : Option Addr} {l : List Int} (h : Bys w a l) (n : Nat) : Bys (w.drewN n) a l := h.below (below_drewN (Below.refl _ _) n)
theorem ownI_later {w w1 : World} {B g n c : Nat} {l : List Int} (h : OwnI w B g n c l) (hb : Below w.heap.size w w1) : OwnI w1 B g n c l := ownsRow_below h hb
set_option maxRecDepth 100000 in
set_option maxHeartbeats 3200000 in
theorem sver_any (a b d : Option Addr) (ca cb cd : Nat) (l : List Kl) (ns : List ByteArray) (ts : List (List Int)) (w : World) (hl : l.length ≤ 1048576) (hn : ns.length ≤ 1048576) (ht : ts.length ≤ 1048576) (hz : SzOk l) (hy : ∀ t ∈ ts, Byt t) (hk : Kls w a l) (hs : Sts w b ns) (hb : Tks w d ts) :
    Calls Try.prog 38 #[.slice a l.length ca, .slice b ns.length cb, .slice d ts.length cd] w (AnI w (vfy l ns ts)) := by
  have hW0 : Below w.heap.size w (w.alloc (.cells #[] 2)) := (Below.refl _ _).alloc (Nat.le_refl _) _
  have O0 := hide (ownI_lit0 w (Nat.le_refl _))
  have B0 := hide hW0
  have hk' := hide hk
  have hs' := hide hs
  have hb' := hide hb
  have hz' := hide hz
  have hy' := hide hy
  have hlM : Hid (l.length ≤ maxLen) := hide (by unfold maxLen; omega)
  clear hk hs hb hz hy hW0
  obtain ⟨v1, hv1⟩ : ∃ v, pOk l = v := ⟨_, rfl⟩
  have p1 := hide hv1
  clear hv1
  go_enter Try.func38, Try.ntmps38
  go_wp2_with fail
  refine (spk_any _ ca l _ (unhide hlM) (unhide hz') ((unhide hk').below (unhide B0))).mono ?_
  rintro e w1 ⟨rfl, hbb⟩
  rw [unhide p1]
  have O1 := hide (ownI_later (unhide O0) hbb)
  have B1 := hide (laterB (unhide B0) hbb)
  clear hbb O0 B0
  cases v1 with
  | false =>
    go_wp2
    go_ret
    rw [vfy_bad (unhide p1)]
    exact AnI.mk rfl (unhide O1) (unhide B1)
  | true =>
  by_cases hne : ns.length = ts.length
  rotate_left
  · have g0 : ((ns.length : Int) != ts.length) = true := by simp; omega
    have hne' := hide hne
    clear hne
    go_wp2
    go_ret
    rw [vfy_len (unhide hne')]
    exact AnI.mk rfl (unhide O1) (unhide B1)
  have g0 : ((ns.length : Int) != ts.length) = false := by simp; omega
  have hl1 : l.length ≤ 100 := (pOk_parts (unhide p1)).1
  have hne' := hide hne
  clear hne
  go_wp2
  go_loopw [7, 8] (fun u t wr => ∃ (k g c : Nat), k ≤ l.length ∧ t = .int .i64 k ∧ u = .slice (some ⟨g, 0, none⟩) k c ∧ Hid (OwnI wr w.heap.size g k c ((l.take k).map (vcode ns ts))) ∧ Hid (Below w.heap.size w wr)) (fun _ t _ => l.length - (intOf t).toNat)
  case atStart => exact ⟨0, w.heap.size, 0, by omega, rfl, rfl, O1, B1⟩
  case round =>
    clear O1 B1
    obtain ⟨k, g, c, hk1, rfl, rfl, O, B⟩ := hrel
    by_cases hlt : k < l.length
    rotate_left
    · have hke : Hid (k = l.length) := hide (by omega)
      have g1 : decide ((k : Int) < l.length) = false := by simp; omega
      go_wp2
      go_ret
      rw [vfy_ok (unhide p1) (unhide hne')]
      refine AnI.mk (by rw [List.length_map]; exact (unhide hke).symm) ?_ (unhide B)
      have := unhide O
      rw [show l.take k = l by rw [unhide hke, List.take_length]] at this
      exact this
    obtain ⟨x, hx⟩ : ∃ x, l[k]? = some x := ⟨l[k], List.getElem?_eq_getElem hlt⟩
    have hsn := hide (show (l.take (k + 1)).map (vcode ns ts) = (l.take k).map (vcode ns ts) ++ [vcode ns ts x] by rw [take_snocK hx, List.map_append]; rfl)
    have hxx := hide hx
    have g1 : decide ((k : Int) < l.length) = true := by simp; omega
    clear hx
    obtain ⟨s, p, q⟩ := x
    go_wp2
    rename_i wo
    go_loopw [9, 10] (fun u t wi => ∃ (j : Nat), j ≤ ns.length ∧ t = .int .i64 j ∧ u = .int .i64 1 ∧ Hid (∀ (i : Nat) (n : ByteArray), i < j → ns[i]? = some n → (n.toList == s.toList) = false) ∧ Hid (OwnI wi w.heap.size g k c ((l.take k).map (vcode ns ts))) ∧ Hid (Below w.heap.size w wi)) (fun _ t _ => ns.length - (intOf t).toNat)
    case atStart => exact ⟨0, by omega, rfl, rfl, hide (fun i n h => by omega), O, B⟩
    case round =>
      clear O B
      obtain ⟨j, hj1, rfl, rfl, hpre, O, B⟩ := hrel
      by_cases hlj : j < ns.length
      rotate_left
      · have hke : j = ns.length := by omega
        have g2 : decide ((j : Int) < ns.length) = false := by simp; omega
        have hcd := hide (show vcode ns ts (s, p, q) = 1 from vcode_no (fun i n hn => unhide hpre i n (by have := (List.getElem?_eq_some_iff.1 hn).1; omega) hn))
        have OX := O
        have BX := B
        clear hpre O B hke
        go_wp2_with (with_reducible refine wpList_iA wr rfl _ _ rfl w.heap.size g k c ((l.take k).map (vcode ns ts)) 1 rfl (unhide OX) rfl (by omega) (unhide BX).size ?_)
        intro g' c' w' o' b' q1 q2
        have OY := hide (show OwnI w' w.heap.size g' (k + 1) c' ((l.take (k + 1)).map (vcode ns ts)) by rw [unhide hsn, unhide hcd]; first | exact o' | (rw [List.map_take]; exact o'))
        have BY := hide (show Below w.heap.size w w' from (unhide BX).grown b' (unhide BX).size (fun j hj => by injection hj with hj; subst hj; exact own_ge (unhide OX)))
        clear o' b' OX BX
        go_wp2
        go_roundw
        case rel => exact ⟨k + 1, g', c', by omega, by go_num, by go_num, OY, BY⟩
        case measure => simp [intOf]; omega
      obtain ⟨bn, on, n, ea, hnn, i1, c0⟩ := sts_at (unhide hs') (unhide B) hlj
      subst ea
      obtain ⟨bx, ox, eb, i2, d0, d1, d2⟩ := (unhide hk').below (unhide B) k (s, p, q) (unhide hxx)
      subst eb
      simp only at d0 d1 d2
      have hnn' := hide hnn
      have g2 : decide ((j : Int) < ns.length) = true := by simp; omega
      clear hnn i1 i2
      cases he : (n.toList == s.toList) with
      | false =>
        have hn := hide (show ∀ (i : Nat) (m : ByteArray), i < j + 1 → ns[i]? = some m → (m.toList == s.toList) = false from fun i m hi hm => by
          rcases Nat.lt_or_ge i j with h | h
          · exact unhide hpre i m h hm
          · have : i = j := by omega
            subst this
            rw [unhide hnn'] at hm; injection hm with hm; subst hm; exact he)
        clear hpre
        go_wp2_with fail
        go_quiet (fail)
        generalize hX : World.drewN _ _ = X
        have OX := hide (show OwnI X w.heap.size g k c ((l.take k).map (vcode ns ts)) by rw [← hX]; exact ownI_later (unhide O) (below_drewN (Below.refl _ _) _))
        have BX := hide (show Below w.heap.size w X by rw [← hX]; exact below_drewN (unhide B) _)
        clear hX O B
        go_wp2
        go_roundw
        case rel => exact ⟨j + 1, by omega, by go_num, rfl, hn, OX, BX⟩
        case measure => simp [intOf]; omega
      | true =>
        obtain ⟨t, hx⟩ : ∃ t, ts[j]? = some t := ⟨ts[j]'(by have := unhide hne'; omega), List.getElem?_eq_getElem _⟩
        obtain ⟨bt, ot, pt, ct, et, i3, f0, K, hmx⟩ := (unhide hb').below (unhide B) j t hx
        subst et
        have hjt : (j : Int) < ts.length := by have := unhide hne'; omega
        have K := hide K
        have hyt := hide (unhide hy' t (List.mem_of_getElem? hx))
        have hat := hide (vcode_at (x := (s, p, q)) (ts := ts) (unhide hpre) (unhide hnn') he hx)
        clear hx i3 hpre hnn'
        cases e1 : ((t.length : Int) != p) with
        | true =>
          have hcd := hide (show vcode ns ts (s, p, q) = 2 from (unhide hat).trans (vone2 e1))
          clear hat
          go_wp2_with fail
          go_quiet (fail)
          go_wp2_with fail
          go_quiet (fail)
          generalize hX : World.drewN _ _ = X
          have OX := hide (show OwnI X w.heap.size g k c ((l.take k).map (vcode ns ts)) by rw [← hX]; exact ownI_later (unhide O) (below_drewN (below_drewN (Below.refl _ _) _) _))
          have BX := hide (show Below w.heap.size w X by rw [← hX]; exact below_drewN (below_drewN (unhide B) _) _)
          clear hX O B
          go_wp2_with (with_reducible refine wpList_iA X rfl _ _ rfl w.heap.size g k c ((l.take k).map (vcode ns ts)) 2 rfl (unhide OX) rfl (by omega) (unhide BX).size ?_)
          intro g' c' w' o' b' q1 q2
          have OY := hide (show OwnI w' w.heap.size g' (k + 1) c' ((l.take (k + 1)).map (vcode ns ts)) by rw [unhide hsn, unhide hcd]; first | exact o' | (rw [List.map_take]; exact o'))
          have BY := hide (show Below w.heap.size w w' from (unhide BX).grown b' (unhide BX).size (fun j hj => by injection hj with hj; subst hj; exact own_ge (unhide OX)))
          clear o' b' OX BX
          go_wp2
          go_roundw
          case rel => exact ⟨k + 1, g', c', by omega, by go_num, by go_num, OY, BY⟩
          case measure => simp [intOf]; omega
        | false =>
          cases e2 : (dig t != q) with
          | true =>
            have hcd := hide (show vcode ns ts (s, p, q) = 3 from (unhide hat).trans (vone3 e1 e2))
            clear hat
            go_wp2_with fail
            go_quiet (fail)
            go_wp2_with fail
            go_quiet (fail)
            go_wp2_with fail
            go_quiet ((go_at_call 17; exact (sdig_any pt ct t _ hmx (unhide hyt) (bys_drwN (unhide K) _)).mono (fun _ _ h => ⟨h.1, _, h.2⟩)))
            generalize hX : World.drewN _ _ = X
            have OX := hide (show OwnI X w.heap.size g k c ((l.take k).map (vcode ns ts)) by rw [← hX]; exact ownI_later (unhide O) (below_drewN (below_drewN (below_drewN (Below.refl _ _) _) _) _))
            have BX := hide (show Below w.heap.size w X by rw [← hX]; exact below_drewN (below_drewN (below_drewN (unhide B) _) _) _)
            clear hX O B
            go_wp2_with (with_reducible refine wpList_iA X rfl _ _ rfl w.heap.size g k c ((l.take k).map (vcode ns ts)) 3 rfl (unhide OX) rfl (by omega) (unhide BX).size ?_)
            intro g' c' w' o' b' q1 q2
            have OY := hide (show OwnI w' w.heap.size g' (k + 1) c' ((l.take (k + 1)).map (vcode ns ts)) by rw [unhide hsn, unhide hcd]; first | exact o' | (rw [List.map_take]; exact o'))
            have BY := hide (show Below w.heap.size w w' from (unhide BX).grown b' (unhide BX).size (fun j hj => by injection hj with hj; subst hj; exact own_ge (unhide OX)))
            clear o' b' OX BX
            go_wp2
            go_roundw
            case rel => exact ⟨k + 1, g', c', by omega, by go_num, by go_num, OY, BY⟩
            case measure => simp [intOf]; omega
          | false =>
            have hcd := hide (show vcode ns ts (s, p, q) = 0 from (unhide hat).trans (vone0 e1 e2))
            clear hat
            go_wp2_with fail
            go_quiet (fail)
            go_wp2_with fail
            go_quiet (fail)
            go_wp2_with fail
            go_quiet ((go_at_call 17; exact (sdig_any pt ct t _ hmx (unhide hyt) (bys_drwN (unhide K) _)).mono (fun _ _ h => ⟨h.1, _, h.2⟩)))
            generalize hX : World.drewN _ _ = X
            have OX := hide (show OwnI X w.heap.size g k c ((l.take k).map (vcode ns ts)) by rw [← hX]; exact ownI_later (unhide O) (below_drewN (below_drewN (below_drewN (Below.refl _ _) _) _) _))
            have BX := hide (show Below w.heap.size w X by rw [← hX]; exact below_drewN (below_drewN (below_drewN (unhide B) _) _) _)
            clear hX O B
            go_wp2_with (with_reducible refine wpList_iA X rfl _ _ rfl w.heap.size g k c ((l.take k).map (vcode ns ts)) 0 rfl (unhide OX) rfl (by omega) (unhide BX).size ?_)
            intro g' c' w' o' b' q1 q2
            have OY := hide (show OwnI w' w.heap.size g' (k + 1) c' ((l.take (k + 1)).map (vcode ns ts)) by rw [unhide hsn, unhide hcd]; first | exact o' | (rw [List.map_take]; exact o'))
            have BY := hide (show Below w.heap.size w w' from (unhide BX).grown b' (unhide BX).size (fun j hj => by injection hj with hj; subst hj; exact own_ge (unhide OX)))
            clear o' b' OX BX
            go_wp2
            go_roundw
            case rel => exact ⟨k + 1, g', c', by omega, by go_num, by go_num, OY, BY⟩
            case measure => simp [intOf]; omega

end Go.Proofs.Ytpdnceeniokemaa
