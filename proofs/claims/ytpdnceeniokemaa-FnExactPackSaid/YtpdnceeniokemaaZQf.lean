/-
  Small facts for FnExactPack's law: lengths, and copies that are kept.
  impl.Pack beside leavers: the law of FnExactPack, what its pieces hand over.
  impl.Pack beside leavers: the law of FnExactPack, its first piece.
-/
import Derived.Test.YtpdnceeniokemaaZPf
set_option linter.unusedVariables false
set_option linter.unusedSimpArgs false
namespace Go.Proofs.Ytpdnceeniokemaa
open Go Go.Conc Go.RowKit
open Go.Proofs.Ytpdnceeniokemaa.Bb (Tks TO TW tot)
open Go.Proofs.Ytpdnceeniokemaa.Wk (El BodiesV Bel)
theorem tot_mem : ∀ {ts : List (List Int)} {t : List Int}, t ∈ ts → t.length ≤ tot ts
  | u :: us, t, h => by
    have e : tot (u :: us) = u.length + tot us := by simp [tot]
    rw [e]
    rcases List.mem_cons.1 h with rfl | h
    · omega
    · have := tot_mem h; omega
theorem pkQ_len {ns : List ByteArray} {ts : List (List Int)} {L : List Kl} {ok : Bool} (h : PkQ ns ts L ok) : L.length ≤ ns.length := by
  rcases h with ⟨_, hg, hp, _⟩ | ⟨_, rfl, _⟩
  · rw [hp.length_eq, pkL_len hg.len]; exact Nat.le_refl _
  · simp
theorem to_bel {lo hi N : Nat} {w w' : World} {B : Nat} {ts : List (List Int)} (h : TO lo hi w B ts ts.length) (hb : Bel N w w') (hN : hi ≤ N) : TO lo hi w' B ts ts.length := by
  obtain ⟨cur, h1, h2, h3⟩ := h.blk
  refine ⟨h.ge, h.lt, cur, (hb.block B (by have := h.lt; omega)).trans h1, h2, fun j t ht hj => ?_⟩
  obtain ⟨g, g1, g2, g3⟩ := h3 j t ht hj
  exact ⟨g, g1, g2, own_bel hb (by omega) g3⟩
theorem tw_gro {lo hi g2 : Nat} {w w' : World} {B : Nat} {ts : List (List Int)} (h : TW lo hi w B ts) (hb : Gro g2 w w') (hB : lo ≤ B) (hg : g2 < lo) : TW lo hi w' B ts := by
  obtain ⟨cur, h1, h2, h3⟩ := h.blk
  refine ⟨cur, (hb.block B (Array.getElem?_eq_some_iff.1 h1).1 (by omega)).trans h1, h2, fun j t ht => ?_⟩
  obtain ⟨g, a1, a2, a3, c, a4, a5, a6⟩ := h3 j t ht
  exact ⟨g, a1, a2, a3, c, (hb.block g (Array.getElem?_eq_some_iff.1 a4).1 (by omega)).trans a4, a5, a6⟩
theorem own_rng {lo hi : Nat} {w w' : World} {v : Value} {B e m g n c : Nat} {xs : List Value} (h : R35 w lo hi v w') (hg : g < lo ∨ hi ≤ g) (ho : w.ownsRow B e m (.slice (some ⟨g, 0, none⟩) n c) n xs) : w'.ownsRow B e m (.slice (some ⟨g, 0, none⟩) n c) n xs := by
  obtain ⟨r, _, _, _, _, _, hbl, _⟩ := h
  refine ⟨ho.1, ?_⟩
  rcases ho.2 with ⟨hv, _⟩ | ⟨g', cp, cur, e', hg', hh, rr⟩
  · cases hv
  · injection id e' with e1
    injection e1 with e1
    injection e1 with e1
    subst e1
    exact .inr ⟨g, cp, cur, e', hg', (hbl g (Array.getElem?_eq_some_iff.1 hh).1 hg).trans hh, rr⟩
/-- what the marks of another's blocks leave of what was there at the entry -/
theorem bel_gro {w a b : World} {g : Nat} (h : Bel w.heap.size w a) (k : Gro g a b) (hg : w.heap.size ≤ g) : Bel w.heap.size w b :=
  ⟨k.os.trans h.os, k.output.trans h.output, Nat.le_trans h.size k.size, fun i hi => (k.block i (Nat.lt_of_lt_of_le hi h.size) (by omega)).trans (h.block i hi)⟩
theorem bel_rng {w a b : World} {lo hi : Nat} {v : Value} (h : Bel w.heap.size w a) (k : R35 a lo hi v b) (hg : w.heap.size ≤ lo) : Bel w.heap.size w b := by
  obtain ⟨r, _, _, h1, h2, h3, hbl, _⟩ := k
  exact ⟨h1.trans h.os, h2.trans h.output, Nat.le_trans h.size h3, fun i hi => (hbl i (Nat.lt_of_lt_of_le hi h.size) (by omega)).trans (h.block i hi)⟩
end Go.Proofs.Ytpdnceeniokemaa

set_option linter.unusedVariables false
set_option linter.unusedSimpArgs false
namespace Go.Proofs.Ytpdnceeniokemaa
open Go Go.Conc Go.RowKit
open Go.Proofs.Ytpdnceeniokemaa.Bb (Tks TO TW tot)
open Go.Proofs.Ytpdnceeniokemaa.Wk (El BodiesV Bel dig_B valsE)
open Go.Proofs.Ytpdnceeniokemaa.Br (BT BTS Hd Pz Pst CallsB bt_ctl bt_cons bt_skip bt_callB bt_call rt AtEnd0)
def st : Nat → Code → Code
  | 0, .seq a _ => a
  | k + 1, .seq _ r => st k r
  | _, c => c
def sd : Nat → Code → Code
  | 0, c => c
  | k + 1, .seq _ r => sd k r
  | _, c => c
structure Pk1 (W u : World) (pS gS cS pX gX lo hi gY pG gG cG : Nat) (ns : List ByteArray) (ts : List (List Int)) (L : List Kl) : Prop where
  B : Bel W.heap.size W u
  oS : Own u pS gS L.length cS L
  oX : OwnS u pX gX ns.length ns.length ns
  oG : Own u pG gG L.length cG L
  TY : TO lo hi u gY ts ts.length
  sz : hi ≤ u.heap.size
  x0 : W.heap.size ≤ gX
  x1 : gX < lo
  s1 : gS < lo
  sx : gS ≠ gX
  g1 : hi ≤ gG
  l0 : W.heap.size ≤ lo
theorem Pk1.bel {W u u' : World} {pS gS cS pX gX lo hi gY pG gG cG : Nat} {ns : List ByteArray} {ts : List (List Int)} {L : List Kl} (h : Pk1 W u pS gS cS pX gX lo hi gY pG gG cG ns ts L) (b : Bel u.heap.size u u') : Pk1 W u' pS gS cS pX gX lo hi gY pG gG cG ns ts L :=
  ⟨h.B.trans (b.mono h.B.size), own_bel b (own_lt h.oS) h.oS, own_bel b (own_lt h.oX) h.oX, own_bel b (own_lt h.oG) h.oG, to_bel h.TY b h.sz, Nat.le_trans h.sz b.size, h.x0, h.x1, h.s1, h.sx, h.g1, h.l0⟩
structure Pk2 (W u : World) (pS gS cS pG gG cG : Nat) (L : List Kl) : Prop where
  B : Bel W.heap.size W u
  oS : Own u pS gS L.length cS L
  oG : Own u pG gG L.length cG L
  gs : gS ≠ gG
  g0 : W.heap.size ≤ gG
theorem Pk2.bel {W u u' : World} {pS gS cS pG gG cG : Nat} {L : List Kl} (h : Pk2 W u pS gS cS pG gG cG L) (b : Bel u.heap.size u u') : Pk2 W u' pS gS cS pG gG cG L :=
  ⟨h.B.trans (b.mono h.B.size), own_bel b (own_lt h.oS) h.oS, own_bel b (own_lt h.oG) h.oG, h.gs, h.g0⟩
structure Pk3 (W u : World) (pS gS cS pG gG cG : Nat) (L : List Kl) : Prop where
  B : Bel W.heap.size W u
  oS : Own u pS gS L.length cS L
  oM : ∃ ys, u.ownsRow pG 79 3 (.slice (some ⟨gG, 0, none⟩) L.length cG) L.length ys ∧ Mks 1 (L.length * 3) ys
theorem Pk3.bel {W u u' : World} {pS gS cS pG gG cG : Nat} {L : List Kl} (h : Pk3 W u pS gS cS pG gG cG L) (b : Bel u.heap.size u u') : Pk3 W u' pS gS cS pG gG cG L := by
  obtain ⟨ys, h1, h2⟩ := h.oM
  exact ⟨h.B.trans (b.mono h.B.size), own_bel b (own_lt h.oS) h.oS, ys, own_bel b (own_lt h1) h1, h2⟩
theorem Pk1.marked {W u u1 u2 : World} {v : Value} {pS gS cS pX gX lo hi gY pG gG cG : Nat} {ns : List ByteArray} {ts : List (List Int)} {L : List Kl} (h : Pk1 W u pS gS cS pX gX lo hi gY pG gG cG ns ts L) (m1 : Gro gX u u1) (m2 : R35 u1 lo hi v u2) : Pk2 W u2 pS gS cS pG gG cG L := by
  have hl := h.TY.ge
  have hh := h.TY.lt
  have x1 := h.x1
  have g1 := h.g1
  have s1 := h.s1
  have l0 := h.l0
  refine ⟨bel_rng (bel_gro h.B m1 h.x0) m2 h.l0, own_rng m2 (.inl h.s1) (own_gro m1 h.sx h.oS), own_rng m2 (.inr h.g1) (own_gro m1 (by omega) h.oG), by omega, by omega⟩
theorem bt_end6 [Br.Thr] {w W : World} {a : Act} {todo : List Item} (hd : a.defers = []) (h : a.tmps.getD 4 undef = .bool true) (hw : Bel W.heap.size W w) : BT Try.prog (AtEnd0 Try.prog (PostL W)) (G { (base 6).at a todo with mode := .returning } []) w := by
  refine Br.BT.done ⟨rfl, fun X => ⟨.bool true, ?_, rfl, hw⟩⟩
  have h2 : a.tmps[4]?.getD undef = .bool true := by rw [← h, Array.getD_eq_getD_getElem?]
  simp [G, stepG, unwind, doReturn, results, Frame.at, base, Try.func6, Try.f6, seen, GStep.after, hd, h2]
end Go.Proofs.Ytpdnceeniokemaa

set_option linter.unusedVariables false
set_option linter.unusedSimpArgs false
namespace Go.Proofs.Ytpdnceeniokemaa
open Go Go.Conc Go.RowKit
open Go.Proofs.Ytpdnceeniokemaa.Bb (Tks TO TW tot)
open Go.Proofs.Ytpdnceeniokemaa.Wk (El BodiesV Bel dig_B valsE)
open Go.Proofs.Ytpdnceeniokemaa.Br (BT BTS Hd Pz Pst CallsB bt_ctl bt_cons bt_skip bt_callB bt_call rt AtEnd0)
set_option maxRecDepth 100000 in
set_option maxHeartbeats 8000000 in
theorem lawPkA [Br.Thr] (b d : Option Addr) (cb cd : Nat) (ns : List ByteArray) (ts : List (List Int)) (w : World) (hg : Br.GC Try.prog w) (hTh : Br.Thr.N ≤ w.heap.size) (hm : ns.length ≤ maxLen) (hz : ∀ n ∈ ns, n.size ≤ maxLen) (hs : Sts w b ns) (hm2 : ts.length ≤ maxLen) (hb : Tks w d ts) (hy : ∀ t ∈ ts, Byt t) (rest : Code)
    (hk : ∀ (pS gS cS pX gX lo hi gY pG gG cG : Nat) (LG : List Kl) (okG : Bool) (v2 v3 v4 v5 v12 v13 v14 v15 v16 v17 v18 v19 v20 v21 v22 v23 v24 v25 v26 v27 v28 v29 v30 v31 v32 v33 v34 v35 v36 v37 v38 v39 v40 v41 v42 v43 v44 v45 v46 v47 v48 v49 v50 v51 v52 v53 v54 v55 v56 v57 v58 v59 v60 v61 v62 v63 v64 v65 v66 v67 v68 v69 v70 v71 v72 v73 v74 v75 v76 v77 v78 v79 v80 v81 v82 v83 v84 v85 v86 v87 v88 v89 v90 v91 v92 v93 v94 v95 v96 v97 v98 v99 v100 v101 v102 v103 v104 v105 v106 v107 v108 v109 v110 v111 v112 v113 v114 v115 v116 v117 v118 : Value) (u' : World), ns.length ≤ 1048576 → (∀ n ∈ ns, n.size ≤ 1048576) → ts.length + tot ts ≤ 1048576 → PkQ ns ts LG okG → Pk1 w u' pS gS cS pX gX lo hi gY pG gG cG ns ts LG → BT Try.prog (AtEnd0 Try.prog (PostL w)) (G ((base 6).at ⟨#[.slice b ns.length cb, .slice d ts.length cd, v2, v3, v4, v5, .slice (some ⟨gS, 0, none⟩) LG.length cS, .bool okG, .slice (some ⟨gX, 0, none⟩) ns.length ns.length, .slice (some ⟨gY, 0, none⟩) ts.length ts.length, .slice (some ⟨gG, 0, none⟩) LG.length cG, .bool okG, v12, v13, v14, v15, v16, v17, v18, v19, v20, v21, v22, v23, v24, v25, v26, v27, v28, v29, v30, v31, v32, v33, v34, v35, v36, v37, v38, v39, v40, v41, v42, v43, v44, v45, v46, v47, v48, v49, v50, v51, v52, v53, v54, v55, v56, v57, v58, v59, v60, v61, v62, v63, v64, v65, v66, v67, v68, v69, v70, v71, v72, v73, v74, v75, v76, v77, v78, v79, v80, v81, v82, v83, v84, v85, v86, v87, v88, v89, v90, v91, v92, v93, v94, v95, v96, v97, v98, v99, v100, v101, v102, v103, v104, v105, v106, v107, v108, v109, v110, v111, v112, v113, v114, v115, v116, v117, v118], []⟩ [.code rest]) []) u') :
    BT Try.prog (AtEnd0 Try.prog (PostL w)) (G ((base 6).at ⟨#[.slice b ns.length cb, .slice d ts.length cd, undef, undef, undef, undef, undef, undef, undef, undef, undef, undef, undef, undef, undef, undef, undef, undef, undef, undef, undef, undef, undef, undef, undef, undef, undef, undef, undef, undef, undef, undef, undef, undef, undef, undef, undef, undef, undef, undef, undef, undef, undef, undef, undef, undef, undef, undef, undef, undef, undef, undef, undef, undef, undef, undef, undef, undef, undef, undef, undef, undef, undef, undef, undef, undef, undef, undef, undef, undef, undef, undef, undef, undef, undef, undef, undef, undef, undef, undef, undef, undef, undef, undef, undef, undef, undef, undef, undef, undef, undef, undef, undef, undef, undef, undef, undef, undef, undef, undef, undef, undef, undef, undef, undef, undef, undef, undef, undef, undef, undef, undef, undef, undef, undef, undef, undef, undef, undef], []⟩ [.code (.seq (st 0 (Try.f6.body.getD .skip)) (.seq (st 1 (Try.f6.body.getD .skip)) (.seq (st 2 (Try.f6.body.getD .skip)) (.seq (st 3 (Try.f6.body.getD .skip)) (.seq (st 4 (Try.f6.body.getD .skip)) (.seq (st 5 (Try.f6.body.getD .skip)) (.seq (st 6 (Try.f6.body.getD .skip)) (.seq (st 7 (Try.f6.body.getD .skip)) (.seq (st 8 (Try.f6.body.getD .skip)) (.seq (st 9 (Try.f6.body.getD .skip)) rest))))))))))]) []) w := by
  simp only [st, Try.f6, Option.getD_some]
  (repeat (first | (first | refine bt_ctl rfl (fun _ => stepG_seq) ?_ | refine bt_ctl rfl (fun _ => stepG_skip) ?_ | refine bt_ctl rfl (fun _ => stepG_region_end) ?_ | refine bt_ctl rfl (fun _ => stepG_ret') ?_ | (refine bt_ctl rfl (fun _ => stepG_region) ?_; simp only [List.size_toArray, List.length_cons, List.length_nil, Nat.reduceAdd, Nat.zero_add, List.range, List.range.loop])) | (refine bt_cons zgOk.bodied rfl (by rfl) (by decide) (by decide) (fun dzz Kzz hKzz => ?_); go_simp; refine hKzz _ _ (fun b hb => hb) (bt_at ?_); clear hKzz Kzz; try walk_nrm) | (refine bt_skip rfl (by rfl) ?_; try walk_nrm)))
  refine bt_call zgOk (szS_R w b cb ns hm hs hz 1048576 (by omega) (by omega)) hg R26.i R26.e rfl (fun s hs => by cases hs) Try.func26 (by kernel_rfl) (by kernel_rfl) rfl (by rfl) rfl (by decide) (by simp [Act.eval]) ?_
  rintro v w1 ⟨r, rfl, hr, B1⟩
  try walk_nrm
  rcases hr with rfl | ⟨r0, r1, n1, z1⟩
  · (repeat (first | (first | refine bt_ctl rfl (fun _ => stepG_seq) ?_ | refine bt_ctl rfl (fun _ => stepG_skip) ?_ | refine bt_ctl rfl (fun _ => stepG_region_end) ?_ | refine bt_ctl rfl (fun _ => stepG_ret') ?_ | (refine bt_ctl rfl (fun _ => stepG_region) ?_; simp only [List.size_toArray, List.length_cons, List.length_nil, Nat.reduceAdd, Nat.zero_add, List.range, List.range.loop])) | (refine bt_cons zgOk.bodied rfl (by rfl) (by decide) (by decide) (fun dzz Kzz hKzz => ?_); go_simp; refine hKzz _ _ (fun b hb => hb) (bt_at ?_); clear hKzz Kzz; try walk_nrm) | (refine bt_skip rfl (by rfl) ?_; try walk_nrm)))
    (refine bt_ctl rfl (fun _ => stepG_cond (t := true) rfl) ?_; simp only [if_true, if_false, Bool.false_eq_true, ↓reduceIte])
    (repeat (first | (first | refine bt_ctl rfl (fun _ => stepG_seq) ?_ | refine bt_ctl rfl (fun _ => stepG_skip) ?_ | refine bt_ctl rfl (fun _ => stepG_region_end) ?_ | refine bt_ctl rfl (fun _ => stepG_ret') ?_ | (refine bt_ctl rfl (fun _ => stepG_region) ?_; simp only [List.size_toArray, List.length_cons, List.length_nil, Nat.reduceAdd, Nat.zero_add, List.range, List.range.loop])) | (refine bt_cons zgOk.bodied rfl (by rfl) (by decide) (by decide) (fun dzz Kzz hKzz => ?_); go_simp; refine hKzz _ _ (fun b hb => hb) (bt_at ?_); clear hKzz Kzz; try walk_nrm) | (refine bt_skip rfl (by rfl) ?_; try walk_nrm)))
    exact bt_end6 rfl rfl B1
  have hd1 : decide (r < 0) = false := by simp; omega
  have G1 := gc_bel B1 hg
  (repeat (first | (first | refine bt_ctl rfl (fun _ => stepG_seq) ?_ | refine bt_ctl rfl (fun _ => stepG_skip) ?_ | refine bt_ctl rfl (fun _ => stepG_region_end) ?_ | refine bt_ctl rfl (fun _ => stepG_ret') ?_ | (refine bt_ctl rfl (fun _ => stepG_region) ?_; simp only [List.size_toArray, List.length_cons, List.length_nil, Nat.reduceAdd, Nat.zero_add, List.range, List.range.loop])) | (refine bt_cons zgOk.bodied rfl (by rfl) (by decide) (by decide) (fun dzz Kzz hKzz => ?_); go_simp; refine hKzz _ _ (fun b hb => hb) (bt_at ?_); clear hKzz Kzz; try walk_nrm) | (refine bt_skip rfl (by rfl) ?_; try walk_nrm)))
  (refine bt_ctl rfl (fun _ => stepG_cond (t := false) rfl) ?_; simp only [if_true, if_false, Bool.false_eq_true, ↓reduceIte])
  (repeat (first | (first | refine bt_ctl rfl (fun _ => stepG_seq) ?_ | refine bt_ctl rfl (fun _ => stepG_skip) ?_ | refine bt_ctl rfl (fun _ => stepG_region_end) ?_ | refine bt_ctl rfl (fun _ => stepG_ret') ?_ | (refine bt_ctl rfl (fun _ => stepG_region) ?_; simp only [List.size_toArray, List.length_cons, List.length_nil, Nat.reduceAdd, Nat.zero_add, List.range, List.range.loop])) | (refine bt_cons zgOk.bodied rfl (by rfl) (by decide) (by decide) (fun dzz Kzz hKzz => ?_); go_simp; refine hKzz _ _ (fun b hb => hb) (bt_at ?_); clear hKzz Kzz; try walk_nrm) | (refine bt_skip rfl (by rfl) ?_; try walk_nrm)))
  refine bt_call zgOk (szbb_R w1 d cd ts hm2 (B1.tks hb) r r0 r1) G1 R27.i R27.e rfl (fun s hs => by cases hs) Try.func27 (by kernel_rfl) (by kernel_rfl) rfl (by rfl) rfl (by decide) (by simp [Act.eval]) ?_
  rintro v w2 ⟨r2, rfl, hr2, b2⟩
  try walk_nrm
  have B2 : Bel w.heap.size w w2 := B1.trans (b2.mono B1.size)
  have G2 := gc_bel B2 hg
  rcases hr2 with rfl | ⟨r3, n2⟩
  · (repeat (first | (first | refine bt_ctl rfl (fun _ => stepG_seq) ?_ | refine bt_ctl rfl (fun _ => stepG_skip) ?_ | refine bt_ctl rfl (fun _ => stepG_region_end) ?_ | refine bt_ctl rfl (fun _ => stepG_ret') ?_ | (refine bt_ctl rfl (fun _ => stepG_region) ?_; simp only [List.size_toArray, List.length_cons, List.length_nil, Nat.reduceAdd, Nat.zero_add, List.range, List.range.loop])) | (refine bt_cons zgOk.bodied rfl (by rfl) (by decide) (by decide) (fun dzz Kzz hKzz => ?_); go_simp; refine hKzz _ _ (fun b hb => hb) (bt_at ?_); clear hKzz Kzz; try walk_nrm) | (refine bt_skip rfl (by rfl) ?_; try walk_nrm)))
    (refine bt_ctl rfl (fun _ => stepG_cond (t := true) rfl) ?_; simp only [if_true, if_false, Bool.false_eq_true, ↓reduceIte])
    (repeat (first | (first | refine bt_ctl rfl (fun _ => stepG_seq) ?_ | refine bt_ctl rfl (fun _ => stepG_skip) ?_ | refine bt_ctl rfl (fun _ => stepG_region_end) ?_ | refine bt_ctl rfl (fun _ => stepG_ret') ?_ | (refine bt_ctl rfl (fun _ => stepG_region) ?_; simp only [List.size_toArray, List.length_cons, List.length_nil, Nat.reduceAdd, Nat.zero_add, List.range, List.range.loop])) | (refine bt_cons zgOk.bodied rfl (by rfl) (by decide) (by decide) (fun dzz Kzz hKzz => ?_); go_simp; refine hKzz _ _ (fun b hb => hb) (bt_at ?_); clear hKzz Kzz; try walk_nrm) | (refine bt_skip rfl (by rfl) ?_; try walk_nrm)))
    exact bt_end6 rfl rfl B2
  have hd2 : decide (r2 < 0) = false := by simp; omega
  (repeat (first | (first | refine bt_ctl rfl (fun _ => stepG_seq) ?_ | refine bt_ctl rfl (fun _ => stepG_skip) ?_ | refine bt_ctl rfl (fun _ => stepG_region_end) ?_ | refine bt_ctl rfl (fun _ => stepG_ret') ?_ | (refine bt_ctl rfl (fun _ => stepG_region) ?_; simp only [List.size_toArray, List.length_cons, List.length_nil, Nat.reduceAdd, Nat.zero_add, List.range, List.range.loop])) | (refine bt_cons zgOk.bodied rfl (by rfl) (by decide) (by decide) (fun dzz Kzz hKzz => ?_); go_simp; refine hKzz _ _ (fun b hb => hb) (bt_at ?_); clear hKzz Kzz; try walk_nrm) | (refine bt_skip rfl (by rfl) ?_; try walk_nrm)))
  (refine bt_ctl rfl (fun _ => stepG_cond (t := false) rfl) ?_; simp only [if_true, if_false, Bool.false_eq_true, ↓reduceIte])
  (repeat (first | (first | refine bt_ctl rfl (fun _ => stepG_seq) ?_ | refine bt_ctl rfl (fun _ => stepG_skip) ?_ | refine bt_ctl rfl (fun _ => stepG_region_end) ?_ | refine bt_ctl rfl (fun _ => stepG_ret') ?_ | (refine bt_ctl rfl (fun _ => stepG_region) ?_; simp only [List.size_toArray, List.length_cons, List.length_nil, Nat.reduceAdd, Nat.zero_add, List.range, List.range.loop])) | (refine bt_cons zgOk.bodied rfl (by rfl) (by decide) (by decide) (fun dzz Kzz hKzz => ?_); go_simp; refine hKzz _ _ (fun b hb => hb) (bt_at ?_); clear hKzz Kzz; try walk_nrm) | (refine bt_skip rfl (by rfl) ?_; try walk_nrm)))
  have hT : ts.length + tot ts ≤ 1048576 := by omega
  have ht1 : ts.length ≤ 1048576 := by omega
  have hmt : ∀ t ∈ ts, t.length ≤ 1048576 := fun t ht => by have := tot_mem ht; omega
  refine bt_call zgOk (tos_R w2 b cb ns n1 (B2.sts hs)) G2 R29.i R29.e rfl (fun s hs => by cases hs) Try.func29 (by kernel_rfl) (by kernel_rfl) rfl (by rfl) rfl (by decide) (by simp [Act.eval]) ?_
  rintro v w3 ⟨g3, rfl, hg3, o3, b3⟩
  try walk_nrm
  have B3 : Bel w.heap.size w w3 := B2.trans (b3.mono B2.size)
  have G3 := gc_bel B3 hg
  (repeat (first | (first | refine bt_ctl rfl (fun _ => stepG_seq) ?_ | refine bt_ctl rfl (fun _ => stepG_skip) ?_ | refine bt_ctl rfl (fun _ => stepG_region_end) ?_ | refine bt_ctl rfl (fun _ => stepG_ret') ?_ | (refine bt_ctl rfl (fun _ => stepG_region) ?_; simp only [List.size_toArray, List.length_cons, List.length_nil, Nat.reduceAdd, Nat.zero_add, List.range, List.range.loop])) | (refine bt_cons zgOk.bodied rfl (by rfl) (by decide) (by decide) (fun dzz Kzz hKzz => ?_); go_simp; refine hKzz _ _ (fun b hb => hb) (bt_at ?_); clear hKzz Kzz; try walk_nrm) | (refine bt_skip rfl (by rfl) ?_; try walk_nrm)))
  refine bt_call zgOk (tobb_R w3 d cd ts ht1 hmt (B3.tks hb)) G3 R30.i R30.e rfl (fun s hs => by cases hs) Try.func30 (by kernel_rfl) (by kernel_rfl) rfl (by rfl) rfl (by decide) (by simp [Act.eval]) ?_
  rintro v w4 ⟨g4, rfl, T4, b4⟩
  try walk_nrm
  have B4 : Bel w.heap.size w w4 := B3.trans (b4.mono B3.size)
  have G4 := gc_bel B4 hg
  (repeat (first | (first | refine bt_ctl rfl (fun _ => stepG_seq) ?_ | refine bt_ctl rfl (fun _ => stepG_skip) ?_ | refine bt_ctl rfl (fun _ => stepG_region_end) ?_ | refine bt_ctl rfl (fun _ => stepG_ret') ?_ | (refine bt_ctl rfl (fun _ => stepG_region) ?_; simp only [List.size_toArray, List.length_cons, List.length_nil, Nat.reduceAdd, Nat.zero_add, List.range, List.range.loop])) | (refine bt_cons zgOk.bodied rfl (by rfl) (by decide) (by decide) (fun dzz Kzz hKzz => ?_); go_simp; refine hKzz _ _ (fun b hb => hb) (bt_at ?_); clear hKzz Kzz; try walk_nrm) | (refine bt_skip rfl (by rfl) ?_; try walk_nrm)))
  refine bt_call zgOk (spack_R w4 (some ⟨g3, 0, none⟩) (some ⟨g4, 0, none⟩) ns.length ts.length ns ts n1 ht1 hz hy (b4.sts (sts_own o3)) (T4.tks (fun t ht => by have := hmt t ht; unfold maxLen; omega))) G4 RPk.i RPk.e rfl (fun s hs => by cases hs) Try.func28 (by kernel_rfl) (by kernel_rfl) rfl (by rfl) rfl (by decide) (by simp [Act.eval]) ?_
  rintro v w5 ⟨LS, okS, gS, cS, rfl, oS, b5, qS⟩
  try walk_nrm
  have B5 : Bel w.heap.size w w5 := B4.trans (b5.mono B4.size)
  have G5 := gc_bel B5 hg
  have kS : gS < w5.heap.size := own_lt oS
  clear o3 T4
  (repeat (first | (first | refine bt_ctl rfl (fun _ => stepG_seq) ?_ | refine bt_ctl rfl (fun _ => stepG_skip) ?_ | refine bt_ctl rfl (fun _ => stepG_region_end) ?_ | refine bt_ctl rfl (fun _ => stepG_ret') ?_ | (refine bt_ctl rfl (fun _ => stepG_region) ?_; simp only [List.size_toArray, List.length_cons, List.length_nil, Nat.reduceAdd, Nat.zero_add, List.range, List.range.loop])) | (refine bt_cons zgOk.bodied rfl (by rfl) (by decide) (by decide) (fun dzz Kzz hKzz => ?_); go_simp; refine hKzz _ _ (fun b hb => hb) (bt_at ?_); clear hKzz Kzz; try walk_nrm) | (refine bt_skip rfl (by rfl) ?_; try walk_nrm)))
  refine bt_call zgOk (tos_R w5 b cb ns n1 (B5.sts hs)) G5 R29.i R29.e rfl (fun s hs => by cases hs) Try.func29 (by kernel_rfl) (by kernel_rfl) rfl (by rfl) rfl (by decide) (by simp [Act.eval]) ?_
  rintro v w6 ⟨gX, rfl, hgX, oX, b6⟩
  try walk_nrm
  have B6 : Bel w.heap.size w w6 := B5.trans (b6.mono B5.size)
  have G6 := gc_bel B6 hg
  have oS6 := own_bel b6 kS oS
  have kX : gX < w6.heap.size := own_lt oX
  (repeat (first | (first | refine bt_ctl rfl (fun _ => stepG_seq) ?_ | refine bt_ctl rfl (fun _ => stepG_skip) ?_ | refine bt_ctl rfl (fun _ => stepG_region_end) ?_ | refine bt_ctl rfl (fun _ => stepG_ret') ?_ | (refine bt_ctl rfl (fun _ => stepG_region) ?_; simp only [List.size_toArray, List.length_cons, List.length_nil, Nat.reduceAdd, Nat.zero_add, List.range, List.range.loop])) | (refine bt_cons zgOk.bodied rfl (by rfl) (by decide) (by decide) (fun dzz Kzz hKzz => ?_); go_simp; refine hKzz _ _ (fun b hb => hb) (bt_at ?_); clear hKzz Kzz; try walk_nrm) | (refine bt_skip rfl (by rfl) ?_; try walk_nrm)))
  refine bt_call zgOk (tobb_R w6 d cd ts ht1 hmt (B6.tks hb)) G6 R30.i R30.e rfl (fun s hs => by cases hs) Try.func30 (by kernel_rfl) (by kernel_rfl) rfl (by rfl) rfl (by decide) (by simp [Act.eval]) ?_
  rintro v w7 ⟨gY, rfl, TY, b7⟩
  try walk_nrm
  have B7 : Bel w.heap.size w w7 := B6.trans (b7.mono B6.size)
  have G7 := gc_bel B7 hg
  have oS7 := own_bel b7 (Nat.lt_of_lt_of_le kS b6.size) oS6
  have oX7 := own_bel b7 kX oX
  obtain ⟨zs, hzs, hV⟩ := to_bodies TY hy hmt
  have hzl : zs.length = ts.length := by rw [← hzs]; simp
  clear oS oS6 oX
  (repeat (first | (first | refine bt_ctl rfl (fun _ => stepG_seq) ?_ | refine bt_ctl rfl (fun _ => stepG_skip) ?_ | refine bt_ctl rfl (fun _ => stepG_region_end) ?_ | refine bt_ctl rfl (fun _ => stepG_ret') ?_ | (refine bt_ctl rfl (fun _ => stepG_region) ?_; simp only [List.size_toArray, List.length_cons, List.length_nil, Nat.reduceAdd, Nat.zero_add, List.range, List.range.loop])) | (refine bt_cons zgOk.bodied rfl (by rfl) (by decide) (by decide) (fun dzz Kzz hKzz => ?_); go_simp; refine hKzz _ _ (fun b hb => hb) (bt_at ?_); clear hKzz Kzz; try walk_nrm) | (refine bt_skip rfl (by rfl) ?_; try walk_nrm)))
  refine bt_callB (ipack_B (some ⟨gX, 0, none⟩) (some ⟨gY, 0, none⟩) ns.length ts.length ns zs w7 z1 (sts_own oX7) hV G7 (Nat.le_trans hTh B7.size)) Try.func31 (by kernel_rfl) (by kernel_rfl) rfl (by rfl) rfl (by decide) (by simp [Act.eval, hzl]) ?_
  rintro v w8 ⟨LG, okG, gG, cG, rfl, oG, b8, qG⟩
  rw [hzs] at qG
  obtain ⟨eL, eo⟩ := PkQ.uniq qG qS
  subst eL eo
  try walk_nrm
  have B8 : Bel w.heap.size w w8 := B7.trans (b8.mono B7.size)
  have G8 := gc_bel B8 hg
  have oS8 := own_bel b8 (Nat.lt_of_lt_of_le (Nat.lt_of_lt_of_le kS b6.size) b7.size) oS7
  have oX8 := own_bel b8 (Nat.lt_of_lt_of_le kX b7.size) oX7
  have TY8 := to_bel TY b8 (Nat.le_refl _)
  have hLn : LG.length ≤ 1048576 := Nat.le_trans (pkQ_len qS) n1
  have TYl := TY.ge
  have gG0 : w7.heap.size ≤ gG := (World.ownsRow.lt oG gG rfl).1
  have gX0 : w5.heap.size ≤ gX := hgX
  have c8 : Pk1 w w8 w4.heap.size gS cS w5.heap.size gX w6.heap.size w7.heap.size gY w7.heap.size gG cG ns ts LG :=
    ⟨B8, oS8, oX8, oG, TY8, b8.size, Nat.le_trans B5.size gX0, kX, Nat.lt_of_lt_of_le kS b6.size, by omega, gG0, B6.size⟩
  clear oS7 oX7 TY hV hzl hzs zs oS8 oX8 oG TY8 B1 B2 B3 B4 B5 B6 B7 G1 G2 G3 G4 G5 G6 G7 b2 b3 b4 b5 b6 b7 qG
  (repeat (first | (first | refine bt_ctl rfl (fun _ => stepG_seq) ?_ | refine bt_ctl rfl (fun _ => stepG_skip) ?_ | refine bt_ctl rfl (fun _ => stepG_region_end) ?_ | refine bt_ctl rfl (fun _ => stepG_ret') ?_ | (refine bt_ctl rfl (fun _ => stepG_region) ?_; simp only [List.size_toArray, List.length_cons, List.length_nil, Nat.reduceAdd, Nat.zero_add, List.range, List.range.loop])) | (refine bt_cons zgOk.bodied rfl (by rfl) (by decide) (by decide) (fun dzz Kzz hKzz => ?_); go_simp; refine hKzz _ _ (fun b hb => hb) (bt_at ?_); clear hKzz Kzz; try walk_nrm) | (refine bt_skip rfl (by rfl) ?_; try walk_nrm)))
  exact hk _ _ _ _ _ _ _ _ _ _ _ _ _ _ _ _ _ _ _ _ _ _ _ _ _ _ _ _ _ _ _ _ _ _ _ _ _ _ _ _ _ _ _ _ _ _ _ _ _ _ _ _ _ _ _ _ _ _ _ _ _ _ _ _ _ _ _ _ _ _ _ _ _ _ _ _ _ _ _ _ _ _ _ _ _ _ _ _ _ _ _ _ _ _ _ _ _ _ _ _ _ _ _ _ _ _ _ _ _ _ _ _ _ _ _ _ _ _ _ _ _ _ _ _ _ n1 z1 hT qS c8
end Go.Proofs.Ytpdnceeniokemaa
