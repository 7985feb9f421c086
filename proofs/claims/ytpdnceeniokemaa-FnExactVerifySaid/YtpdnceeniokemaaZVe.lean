/-
  impl.Verify beside leavers: the law of FnExactVerify, what its pieces hand over.
  impl.Verify beside leavers: the whole.
-/
import Derived.Test.YtpdnceeniokemaaZIdS
import Derived.Test.YtpdnceeniokemaaZSv
set_option linter.unusedVariables false
set_option linter.unusedSimpArgs false
namespace Go.Proofs.Ytpdnceeniokemaa
open Go Go.Conc Go.RowKit
open Go.Proofs.Ytpdnceeniokemaa.Bb (Tks TO TW tot)
open Go.Proofs.Ytpdnceeniokemaa.Wk (El BodiesV Bel dig_B valsE)
open Go.Proofs.Ytpdnceeniokemaa.Br (BT BTS Hd Pz Pst CallsB bt_ctl bt_cons bt_skip bt_callB bt_call rt AtEnd0)
theorem RVf.i {w : World} {L : List Int} (v : Value) (w' : World) (T : Nat → Question → Nat) (d : Nat) (h : RVf w L v w') : RVf w L v (rt T d w') := by
  obtain ⟨g, c, h1, h2, h3⟩ := h; exact ⟨g, c, h1, h2, h3.rtt T d⟩
theorem RVf.e {w : World} {L : List Int} (v : Value) (w' : World) (h : RVf w L v w') : ∀ b, Pz w b → Pz w' b := by
  obtain ⟨g, c, h1, h2, h3⟩ := h; exact h3.kp
section
variable (w : World)
def R21 (l : List Kl) (v : Value) (w' : World) : Prop := ∃ r : Int, v = .int .i64 r ∧ (r = -1 ∨ (0 ≤ r ∧ r ≤ 1048576 ∧ l.length ≤ 1048576 ∧ ∀ x ∈ l, x.1.size ≤ 1048576)) ∧ Bel w.heap.size w w'
theorem szk_R (a : Option Addr) (cap : Nat) (l : List Kl) (hl : l.length ≤ maxLen) (hr : Kls w a l) (hsz : ∀ x ∈ l, x.1.size ≤ maxLen) (N : Int) (N0 : 0 ≤ N) (N1 : N ≤ 1048576) (T : Nat → Question → Nat) (d : Nat) :
    Calls Try.prog 21 #[.slice a l.length cap, .int .i64 N] (rt T d w) fun e w' => ∃ v, e = .returned v ∧ R21 w l v w' :=
  (szk_any a cap l (rt T d w) hl hr hsz N N0 N1).mono fun e w' ⟨r, h1, h2, h3⟩ => ⟨_, h1, r, rfl, h2, bel_rt h3⟩
def R23 (zs : List Kl) (v : Value) (w' : World) : Prop := ∃ B, v = .slice (some ⟨B, 0, none⟩) zs.length zs.length ∧ w.heap.size ≤ B ∧ Own w' w.heap.size B zs.length zs.length zs ∧ Bel w.heap.size w w'
theorem tok_R (a : Option Addr) (cap : Nat) (zs : List Kl) (hl : zs.length ≤ 1048576) (hr : Kls w a zs) (T : Nat → Question → Nat) (d : Nat) :
    Calls Try.prog 23 #[.slice a zs.length cap] (rt T d w) fun e w' => ∃ v, e = .returned v ∧ R23 w zs v w' :=
  (tok_any a cap zs (rt T d w) hl hr).mono fun e w' ⟨B, h1, h2, h3, h4⟩ => ⟨_, h1, B, rfl, h2, h3, bel_rt h4⟩
theorem sver_R (a b d : Option Addr) (ca cb cd : Nat) (l : List Kl) (ns : List ByteArray) (ts : List (List Int)) (hl : l.length ≤ 1048576) (hn : ns.length ≤ 1048576) (ht : ts.length ≤ 1048576) (hz : SzOk l) (hy : ∀ t ∈ ts, Byt t) (hk : Kls w a l) (hs : Sts w b ns) (hb : Tks w d ts) (T : Nat → Question → Nat) (dd : Nat) :
    Calls Try.prog 38 #[.slice a l.length ca, .slice b ns.length cb, .slice d ts.length cd] (rt T dd w) fun e w' => ∃ v, e = .returned v ∧ RVf w (vfy l ns ts) v w' :=
  (sver_any a b d ca cb cd l ns ts (rt T dd w) hl hn ht hz hy hk hs hb).mono fun e w' ⟨g, c, h1, h2, h3, h4⟩ => ⟨_, h1, g, c, rfl, h3, bel_rt h4⟩
theorem eqi_R (a b : Option Addr) (ca cb : Nat) (l : List Int) (hl : l.length ≤ 1048576) (ha : Ins w a l) (hb : Ins w b l) (T : Nat → Question → Nat) (d : Nat) :
    Calls Try.prog 40 #[.slice a l.length ca, .slice b l.length cb] (rt T d w) fun e w' => ∃ v, e = .returned v ∧ RTr w v w' :=
  (eqi_any a b ca cb l (rt T d w) hl ha hb).mono fun e w' ⟨h1, h2⟩ => ⟨_, h1, rfl, bel_rt h2⟩
def R41 (B g n cap : Nat) (q : Int) (v : Value) (w' : World) : Prop := v = .int .i64 (q + n) ∧ (∃ ys, w'.ownsRow B 2 1 (.slice (some ⟨g, 0, none⟩) n cap) n ys ∧ Mkd q n ys) ∧ Gro g w w' ∧ KP w w'
theorem marki_R (B g n cap : Nat) (q : Int) (xs : List Value) (hn : n ≤ 10000000) (q0 : 0 ≤ q) (q1 : q ≤ 100000000) (h : w.ownsRow B 2 1 (.slice (some ⟨g, 0, none⟩) n cap) n xs) (T : Nat → Question → Nat) (d : Nat) :
    Calls Try.prog 41 #[.slice (some ⟨g, 0, none⟩) n cap, .int .i64 q] (rt T d w) fun e w' => ∃ v, e = .returned v ∧ R41 w B g n cap q v w' :=
  (marki_any B g n cap q xs (rt T d w) hn q0 q1 h).mono fun e w' ⟨h1, ⟨ys, h2, h4⟩, h3⟩ => ⟨_, h1, rfl, ⟨ys, h2, h4⟩, gro_rt h3, kp_gro (gro_rt h3) h h2⟩
def R42 (n : Nat) (q : Int) (v : Value) (w' : World) : Prop := v = .int .i64 (q + n) ∧ Bel w.heap.size w w'
theorem heldi_R (B g n cap : Nat) (q : Int) (xs : List Value) (hn : n ≤ 10000000) (q0 : 0 ≤ q) (q1 : q ≤ 100000000) (h : w.ownsRow B 2 1 (.slice (some ⟨g, 0, none⟩) n cap) n xs) (hm : Mkd q n xs) (T : Nat → Question → Nat) (d : Nat) :
    Calls Try.prog 42 #[.slice (some ⟨g, 0, none⟩) n cap, .int .i64 q] (rt T d w) fun e w' => ∃ v, e = .returned v ∧ R42 w n q v w' :=
  (heldi_any B g n cap q xs (rt T d w) hn q0 q1 h hm).mono fun e w' ⟨h1, h2⟩ => ⟨_, h1, rfl, by rw [h2]; exact (Wk.Bel.refl w).rtt T d⟩
end
theorem R21.i {w : World} {l : List Kl} (v : Value) (w' : World) (T : Nat → Question → Nat) (d : Nat) (h : R21 w l v w') : R21 w l v (rt T d w') := by
  obtain ⟨r, h1, h2, h3⟩ := h; exact ⟨r, h1, h2, h3.rtt T d⟩
theorem R21.e {w : World} {l : List Kl} (v : Value) (w' : World) (h : R21 w l v w') : ∀ b, Pz w b → Pz w' b := by
  obtain ⟨r, h1, h2, h3⟩ := h; exact h3.kp
theorem R23.i {w : World} {l : List Kl} (v : Value) (w' : World) (T : Nat → Question → Nat) (d : Nat) (h : R23 w l v w') : R23 w l v (rt T d w') := by
  obtain ⟨B, h1, h2, h3, h4⟩ := h; exact ⟨B, h1, h2, h3, h4.rtt T d⟩
theorem R23.e {w : World} {l : List Kl} (v : Value) (w' : World) (h : R23 w l v w') : ∀ b, Pz w b → Pz w' b := by
  obtain ⟨B, h1, h2, h3, h4⟩ := h; exact h4.kp
theorem R41.i {w : World} {B g n cap : Nat} {q : Int} (v : Value) (w' : World) (T : Nat → Question → Nat) (d : Nat) (h : R41 w B g n cap q v w') : R41 w B g n cap q v (rt T d w') := ⟨h.1, h.2.1, h.2.2.1.rtt T d, h.2.2.2⟩
theorem R41.e {w : World} {B g n cap : Nat} {q : Int} (v : Value) (w' : World) (h : R41 w B g n cap q v w') : ∀ b, Pz w b → Pz w' b := h.2.2.2
theorem R42.i {w : World} {n : Nat} {q : Int} (v : Value) (w' : World) (T : Nat → Question → Nat) (d : Nat) (h : R42 w n q v w') : R42 w n q v (rt T d w') := ⟨h.1, h.2.rtt T d⟩
theorem R42.e {w : World} {n : Nat} {q : Int} (v : Value) (w' : World) (h : R42 w n q v w') : ∀ b, Pz w b → Pz w' b := h.2.kp
structure Pv1 (W u : World) (pS gS cS pA gA pX gX lo hi gY pG gG cG : Nat) (l : List Kl) (ns : List ByteArray) (ts : List (List Int)) (L : List Int) : Prop where
  B : Bel W.heap.size W u
  oS : OwnI u pS gS L.length cS L
  oA : Own u pA gA l.length l.length l
  oX : OwnS u pX gX ns.length ns.length ns
  oG : OwnI u pG gG L.length cG L
  TY : TO lo hi u gY ts ts.length
  sz : hi ≤ u.heap.size
  a0 : W.heap.size ≤ gA
  x0 : W.heap.size ≤ gX
  a1 : gA < lo
  x1 : gX < lo
  s1 : gS < lo
  ax : gA ≠ gX
  sx : gS ≠ gX
  sa : gS ≠ gA
  g1 : hi ≤ gG
  l0 : W.heap.size ≤ lo
theorem Pv1.bel {W u u' : World} {pS gS cS pA gA pX gX lo hi gY pG gG cG : Nat} {l : List Kl} {ns : List ByteArray} {ts : List (List Int)} {L : List Int} (h : Pv1 W u pS gS cS pA gA pX gX lo hi gY pG gG cG l ns ts L) (b : Bel u.heap.size u u') : Pv1 W u' pS gS cS pA gA pX gX lo hi gY pG gG cG l ns ts L :=
  ⟨h.B.trans (b.mono h.B.size), own_bel b (own_lt h.oS) h.oS, own_bel b (own_lt h.oA) h.oA, own_bel b (own_lt h.oX) h.oX, own_bel b (own_lt h.oG) h.oG, to_bel h.TY b h.sz, Nat.le_trans h.sz b.size, h.a0, h.x0, h.a1, h.x1, h.s1, h.ax, h.sx, h.sa, h.g1, h.l0⟩
structure Pv2 (W u : World) (pS gS cS pG gG cG : Nat) (L : List Int) : Prop where
  B : Bel W.heap.size W u
  oS : OwnI u pS gS L.length cS L
  oG : OwnI u pG gG L.length cG L
  gs : gS ≠ gG
  g0 : W.heap.size ≤ gG
theorem Pv2.bel {W u u' : World} {pS gS cS pG gG cG : Nat} {L : List Int} (h : Pv2 W u pS gS cS pG gG cG L) (b : Bel u.heap.size u u') : Pv2 W u' pS gS cS pG gG cG L :=
  ⟨h.B.trans (b.mono h.B.size), own_bel b (own_lt h.oS) h.oS, own_bel b (own_lt h.oG) h.oG, h.gs, h.g0⟩
structure Pv3 (W u : World) (pS gS cS pG gG cG : Nat) (L : List Int) : Prop where
  B : Bel W.heap.size W u
  oS : OwnI u pS gS L.length cS L
  oM : ∃ ys, u.ownsRow pG 2 1 (.slice (some ⟨gG, 0, none⟩) L.length cG) L.length ys ∧ Mkd 1 L.length ys
theorem Pv3.bel {W u u' : World} {pS gS cS pG gG cG : Nat} {L : List Int} (h : Pv3 W u pS gS cS pG gG cG L) (b : Bel u.heap.size u u') : Pv3 W u' pS gS cS pG gG cG L := by
  obtain ⟨ys, h1, h2⟩ := h.oM
  exact ⟨h.B.trans (b.mono h.B.size), own_bel b (own_lt h.oS) h.oS, ys, own_bel b (own_lt h1) h1, h2⟩
theorem Pv1.marked {W u u0 u1 u2 : World} {v : Value} {pS gS cS pA gA pX gX lo hi gY pG gG cG : Nat} {l : List Kl} {ns : List ByteArray} {ts : List (List Int)} {L : List Int} (h : Pv1 W u pS gS cS pA gA pX gX lo hi gY pG gG cG l ns ts L) (m0 : Gro gA u u0) (m1 : Gro gX u0 u1) (m2 : R35 u1 lo hi v u2) : Pv2 W u2 pS gS cS pG gG cG L := by
  have hl := h.TY.ge
  have hh := h.TY.lt
  have x1 := h.x1
  have a1 := h.a1
  have g1 := h.g1
  have s1 := h.s1
  have l0 := h.l0
  refine ⟨bel_rng (bel_gro (bel_gro h.B m0 h.a0) m1 h.x0) m2 h.l0, own_rng m2 (.inl h.s1) (own_gro m1 h.sx (own_gro m0 h.sa h.oS)), own_rng m2 (.inr h.g1) (own_gro m1 (by omega) (own_gro m0 (by omega) h.oG)), by omega, by omega⟩
theorem bt_end7 [Br.Thr] {w W : World} {a : Act} {todo : List Item} (hd : a.defers = []) (h : a.tmps.getD 6 undef = .bool true) (hw : Bel W.heap.size W w) : BT Try.prog (AtEnd0 Try.prog (PostL W)) (G { (base 7).at a todo with mode := .returning } []) w := by
  refine Br.BT.done ⟨rfl, fun X => ⟨.bool true, ?_, rfl, hw⟩⟩
  have h2 : a.tmps[6]?.getD undef = .bool true := by rw [← h, Array.getD_eq_getD_getElem?]
  simp [G, stepG, unwind, doReturn, results, Frame.at, base, Try.func7, Try.f7, seen, GStep.after, hd, h2]
end Go.Proofs.Ytpdnceeniokemaa

set_option linter.unusedVariables false
set_option linter.unusedSimpArgs false
namespace Go.Proofs.Ytpdnceeniokemaa
open Go Go.Conc Go.RowKit
open Go.Proofs.Ytpdnceeniokemaa.Bb (Tks)
open Go.Proofs.Ytpdnceeniokemaa.Wk (El BodiesV Bel dig_B valsE)
open Go.Proofs.Ytpdnceeniokemaa.Br (BT BTS Hd Pz Pst CallsB bt_ctl bt_cons bt_skip bt_callB bt_call rt)
theorem own_from {w : World} {B B' e m g n c : Nat} {xs : List Value} (ho : w.ownsRow B e m (.slice (some ⟨g, 0, none⟩) n c) n xs) (hB : B' ≤ B) : w.ownsRow B' e m (.slice (some ⟨g, 0, none⟩) n c) n xs := by
  refine ⟨ho.1, ?_⟩
  rcases ho.2 with ⟨hv, _⟩ | ⟨g', cp, cur, e', hg', r⟩
  · cases hv
  · exact .inr ⟨g', cp, cur, e', Nat.le_trans hB hg', r⟩
theorem ownI_made {w : World} {n : Nat} (hn : n ≤ 1048576) : OwnI (w.alloc (.cells (madeCells #[.int .i64 0] n) 2)) w.heap.size w.heap.size n n (List.replicate n 0) := by
  refine ⟨by simp, .inr ⟨w.heap.size, n, _, rfl, Nat.le_refl _, heap_alloc_new w _, Nat.le_refl _, by unfold maxLen; omega, by simp [size_madeCells], ?_⟩⟩
  rw [made_I]
  simp
theorem ownE_made {w : World} {B n : Nat} (hB : B ≤ w.heap.size) (hn : n ≤ 1048576) : OwnE (w.alloc (.cells (madeCells #[.slice none 0 0] n) 22)) B w.heap.size n (List.replicate n nilE) := by
  refine ⟨by simp, .inr ⟨w.heap.size, n, _, rfl, hB, heap_alloc_new w _, Nat.le_refl _, by unfold maxLen; omega, by simp [size_madeCells], ?_⟩⟩
  rw [toList_madeCells_one]
  simp [nilE, El.v]
set_option maxRecDepth 100000 in
set_option maxHeartbeats 4000000 in
theorem iver_B [Br.Thr] (a b d : Option Addr) (ca cb cd : Nat) (l : List Kl) (ns : List ByteArray) (zs : List El) (w : World) (hl : l.length ≤ 1048576) (hnm : ns.length ≤ 1048576) (hzl : SzOk l) (hkl : Kls w a l) (hs : Sts w b ns) (hB : BodiesV w zs d) (hg : Br.GC Try.prog w) (hTh : Br.Thr.N ≤ w.heap.size) :
    CallsB Try.prog 39 #[.slice a l.length ca, .slice b ns.length cb, .slice d zs.length cd] w (RVf w (vfy l ns (zs.map (·.l)))) := by
  intro c cs Q hk
  have e39 : Frame.enter Try.prog 39 #[.slice a l.length ca, .slice b ns.length cb, .slice d zs.length cd] .normal = (base 39).at ⟨#[.slice a l.length ca, .slice b ns.length cb, .slice d zs.length cd] ++ Array.replicate 92 undef, []⟩ [.code (Try.f39.body.getD .skip)] := by
    simp [Frame.enter, Frame.at, Try.func39, base, Try.f39]
  rw [e39]
  clear e39
  simp only [Try.f39, Option.getD_some, List.size_toArray, List.length_cons, List.length_nil, Nat.reduceAdd, Nat.reduceSub, Array.replicate_succ, Array.replicate_zero, List.push_toArray, List.append_toArray, List.nil_append, List.cons_append]
  (repeat (first | (first | refine bt_ctl rfl (fun _ => stepG_seq) ?_ | refine bt_ctl rfl (fun _ => stepG_skip) ?_ | refine bt_ctl rfl (fun _ => stepG_region_end) ?_ | refine bt_ctl rfl (fun _ => stepG_ret') ?_ | (refine bt_ctl rfl (fun _ => stepG_region) ?_; simp only [List.size_toArray, List.length_cons, List.length_nil, Nat.reduceAdd, Nat.zero_add, List.range, List.range.loop])) | (refine bt_cons zgOk.bodied rfl (by rfl) (by decide) (by decide) (fun dzz Kzz hKzz => ?_); go_simp; refine hKzz _ _ (fun b hb => hb) (bt_at ?_); clear hKzz Kzz; try walk_nrm) | (refine bt_skip rfl (by rfl) ?_; try walk_nrm)))
  refine bt_call zgOk (ipk_R w a ca l (by unfold maxLen; omega) hzl hkl) hg RPo.i RPo.e rfl (fun s hs => by cases hs) Try.func24 (by kernel_rfl) (by kernel_rfl) rfl (by rfl) rfl (by decide) (by simp [Act.eval]) ?_
  rintro v w1 ⟨rfl, B1⟩
  obtain ⟨v, hv⟩ : ∃ v, pOk l = v := ⟨_, rfl⟩
  rw [hv]
  have HV := hide hv
  have HB1 := hide B1
  clear hv B1
  try walk_nrm
  cases v with
  | false =>
    have hq := vfy_bad (ns := ns) (ts := zs.map (·.l)) (unhide HV)
    (repeat (first | (first | refine bt_ctl rfl (fun _ => stepG_seq) ?_ | refine bt_ctl rfl (fun _ => stepG_skip) ?_ | refine bt_ctl rfl (fun _ => stepG_region_end) ?_ | refine bt_ctl rfl (fun _ => stepG_ret') ?_ | (refine bt_ctl rfl (fun _ => stepG_region) ?_; simp only [List.size_toArray, List.length_cons, List.length_nil, Nat.reduceAdd, Nat.zero_add, List.range, List.range.loop])) | (refine bt_cons zgOk.bodied rfl (by rfl) (by decide) (by decide) (fun dzz Kzz hKzz => ?_); go_simp; refine hKzz _ _ (fun b hb => hb) (bt_at ?_); clear hKzz Kzz; try walk_nrm) | (refine bt_skip rfl (by rfl) ?_; try walk_nrm)))
    (refine bt_ctl rfl (fun _ => stepG_cond (t := true) rfl) ?_; simp only [if_true, if_false, Bool.false_eq_true, ↓reduceIte])
    (repeat (first | (first | refine bt_ctl rfl (fun _ => stepG_seq) ?_ | refine bt_ctl rfl (fun _ => stepG_skip) ?_ | refine bt_ctl rfl (fun _ => stepG_region_end) ?_ | refine bt_ctl rfl (fun _ => stepG_ret') ?_ | (refine bt_ctl rfl (fun _ => stepG_region) ?_; simp only [List.size_toArray, List.length_cons, List.length_nil, Nat.reduceAdd, Nat.zero_add, List.range, List.range.loop])) | (refine bt_cons zgOk.bodied rfl (by rfl) (by decide) (by decide) (fun dzz Kzz hKzz => ?_); go_simp; refine hKzz _ _ (fun b hb => hb) (bt_at ?_); clear hKzz Kzz; try walk_nrm) | (refine bt_skip rfl (by rfl) ?_; try walk_nrm)))
    refine bt_cons zgOk.bodied rfl (by rfl) (by decide) (by decide) (fun dzz Kzz hKzz => ?_)
    go_simp
    refine hKzz _ ((w1.alloc (.cells #[] 2)).at dzz) (fun b hb => Wk.pz_alloc _ hb) (bt_at ?_)
    clear hKzz Kzz
    try walk_nrm
    (repeat (first | (first | refine bt_ctl rfl (fun _ => stepG_seq) ?_ | refine bt_ctl rfl (fun _ => stepG_skip) ?_ | refine bt_ctl rfl (fun _ => stepG_region_end) ?_ | refine bt_ctl rfl (fun _ => stepG_ret') ?_ | (refine bt_ctl rfl (fun _ => stepG_region) ?_; simp only [List.size_toArray, List.length_cons, List.length_nil, Nat.reduceAdd, Nat.zero_add, List.range, List.range.loop])) | (refine bt_cons zgOk.bodied rfl (by rfl) (by decide) (by decide) (fun dzz Kzz hKzz => ?_); go_simp; refine hKzz _ _ (fun b hb => hb) (bt_at ?_); clear hKzz Kzz; try walk_nrm) | (refine bt_skip rfl (by rfl) ?_; try walk_nrm)))
    refine Br.BT.leave (v := .slice (some ⟨w1.heap.size, 0, none⟩) 0 0) ⟨rfl, rfl, rfl, Try.f39, Try.func39, results_tmp (t := 6) rfl _ _ _⟩ (hk _ _ ?_)
    rw [hq]
    exact ⟨w1.heap.size, 0, rfl, ownI_lit0 w1 (unhide HB1).size, (unhide HB1).trans ⟨rfl, rfl, by simp, fun k hk' => Below.heap_alloc _ _ _ (Nat.lt_of_lt_of_le hk' (unhide HB1).size)⟩⟩
  | true =>
  by_cases hne : ns.length = zs.length
  rotate_left
  · have hq := vfy_len (l := l) (ns := ns) (ts := zs.map (·.l)) (by simpa using hne)
    have g0 : ((ns.length : Int) != zs.length) = true := by simp; omega
    (repeat (first | (first | refine bt_ctl rfl (fun _ => stepG_seq) ?_ | refine bt_ctl rfl (fun _ => stepG_skip) ?_ | refine bt_ctl rfl (fun _ => stepG_region_end) ?_ | refine bt_ctl rfl (fun _ => stepG_ret') ?_ | (refine bt_ctl rfl (fun _ => stepG_region) ?_; simp only [List.size_toArray, List.length_cons, List.length_nil, Nat.reduceAdd, Nat.zero_add, List.range, List.range.loop])) | (refine bt_cons zgOk.bodied rfl (by rfl) (by decide) (by decide) (fun dzz Kzz hKzz => ?_); go_simp; refine hKzz _ _ (fun b hb => hb) (bt_at ?_); clear hKzz Kzz; try walk_nrm) | (refine bt_skip rfl (by rfl) ?_; try walk_nrm)))
    (refine bt_ctl rfl (fun _ => stepG_cond (t := true) rfl) ?_; simp only [if_true, if_false, Bool.false_eq_true, ↓reduceIte])
    (repeat (first | (first | refine bt_ctl rfl (fun _ => stepG_seq) ?_ | refine bt_ctl rfl (fun _ => stepG_skip) ?_ | refine bt_ctl rfl (fun _ => stepG_region_end) ?_ | refine bt_ctl rfl (fun _ => stepG_ret') ?_ | (refine bt_ctl rfl (fun _ => stepG_region) ?_; simp only [List.size_toArray, List.length_cons, List.length_nil, Nat.reduceAdd, Nat.zero_add, List.range, List.range.loop])) | (refine bt_cons zgOk.bodied rfl (by rfl) (by decide) (by decide) (fun dzz Kzz hKzz => ?_); go_simp; refine hKzz _ _ (fun b hb => hb) (bt_at ?_); clear hKzz Kzz; try walk_nrm) | (refine bt_skip rfl (by rfl) ?_; try walk_nrm)))
    refine bt_cons zgOk.bodied rfl (by rfl) (by decide) (by decide) (fun dzz Kzz hKzz => ?_)
    go_simp
    refine hKzz _ ((w1.alloc (.cells #[] 2)).at dzz) (fun b hb => Wk.pz_alloc _ hb) (bt_at ?_)
    clear hKzz Kzz
    try walk_nrm
    (repeat (first | (first | refine bt_ctl rfl (fun _ => stepG_seq) ?_ | refine bt_ctl rfl (fun _ => stepG_skip) ?_ | refine bt_ctl rfl (fun _ => stepG_region_end) ?_ | refine bt_ctl rfl (fun _ => stepG_ret') ?_ | (refine bt_ctl rfl (fun _ => stepG_region) ?_; simp only [List.size_toArray, List.length_cons, List.length_nil, Nat.reduceAdd, Nat.zero_add, List.range, List.range.loop])) | (refine bt_cons zgOk.bodied rfl (by rfl) (by decide) (by decide) (fun dzz Kzz hKzz => ?_); go_simp; refine hKzz _ _ (fun b hb => hb) (bt_at ?_); clear hKzz Kzz; try walk_nrm) | (refine bt_skip rfl (by rfl) ?_; try walk_nrm)))
    refine Br.BT.leave (v := .slice (some ⟨w1.heap.size, 0, none⟩) 0 0) ⟨rfl, rfl, rfl, Try.f39, Try.func39, results_tmp (t := 6) rfl _ _ _⟩ (hk _ _ ?_)
    rw [hq]
    exact ⟨w1.heap.size, 0, rfl, ownI_lit0 w1 (unhide HB1).size, (unhide HB1).trans ⟨rfl, rfl, by simp, fun k hk' => Below.heap_alloc _ _ _ (Nat.lt_of_lt_of_le hk' (unhide HB1).size)⟩⟩
  have g0 : ((ns.length : Int) != zs.length) = false := by simp; omega
  have h100 : l.length ≤ 100 := (pOk_parts (unhide HV)).1
  have hneH := hide hne
  clear hne
  (repeat (first | (first | refine bt_ctl rfl (fun _ => stepG_seq) ?_ | refine bt_ctl rfl (fun _ => stepG_skip) ?_ | refine bt_ctl rfl (fun _ => stepG_region_end) ?_ | refine bt_ctl rfl (fun _ => stepG_ret') ?_ | (refine bt_ctl rfl (fun _ => stepG_region) ?_; simp only [List.size_toArray, List.length_cons, List.length_nil, Nat.reduceAdd, Nat.zero_add, List.range, List.range.loop])) | (refine bt_cons zgOk.bodied rfl (by rfl) (by decide) (by decide) (fun dzz Kzz hKzz => ?_); go_simp; refine hKzz _ _ (fun b hb => hb) (bt_at ?_); clear hKzz Kzz; try walk_nrm) | (refine bt_skip rfl (by rfl) ?_; try walk_nrm)))
  (refine bt_ctl rfl (fun _ => stepG_cond (t := false) rfl) ?_; simp only [if_true, if_false, Bool.false_eq_true, ↓reduceIte])
  (repeat (first | (first | refine bt_ctl rfl (fun _ => stepG_seq) ?_ | refine bt_ctl rfl (fun _ => stepG_skip) ?_ | refine bt_ctl rfl (fun _ => stepG_region_end) ?_ | refine bt_ctl rfl (fun _ => stepG_ret') ?_ | (refine bt_ctl rfl (fun _ => stepG_region) ?_; simp only [List.size_toArray, List.length_cons, List.length_nil, Nat.reduceAdd, Nat.zero_add, List.range, List.range.loop])) | (refine bt_cons zgOk.bodied rfl (by rfl) (by decide) (by decide) (fun dzz Kzz hKzz => ?_); go_simp; refine hKzz _ _ (fun b hb => hb) (bt_at ?_); clear hKzz Kzz; try walk_nrm) | (refine bt_skip rfl (by rfl) ?_; try walk_nrm)))
  obtain ⟨i0, hi, hz0, hz1, hz2⟩ := info_parts infoI
  have hmk := fun w => run_make (P := Try.prog) w 53 2 i0 (.int .i64 0) Try.underlying53 hi hz0 .i64 .i64 l.length l.length (by omega) (by omega) (by rw [hz2]; omega) (by omega)
  refine bt_cons zgOk.bodied rfl (by rfl) (by decide) (by decide) (fun dzz Kzz hKzz => ?_)
  go_simp
  refine hKzz _ ((w1.alloc (.cells (madeCells #[.int .i64 0] l.length) 2)).at dzz) (fun b hb => Wk.pz_alloc _ hb) (bt_at ?_)
  clear hKzz Kzz hmk hi hz0 hz1 hz2
  have hsz : ∀ d, (w1.at d).heap.size = w1.heap.size := fun _ => rfl
  simp only [hsz]
  clear hsz
  have om := hide (ownI_made (w := w1) (n := l.length) hl)
  have Bm := hide (show Bel w1.heap.size w1 (w1.alloc (.cells (madeCells #[.int .i64 0] l.length) 2)) from ⟨rfl, rfl, by simp, fun k hk' => Below.heap_alloc _ _ _ hk'⟩)
  have sm := hide (show (w1.alloc (.cells (madeCells #[.int .i64 0] l.length) 2)).heap.size = w1.heap.size + 1 by simp)
  generalize w1.alloc (.cells (madeCells #[.int .i64 0] l.length) 2) = wm at *
  try walk_nrm
  (repeat (first | (first | refine bt_ctl rfl (fun _ => stepG_seq) ?_ | refine bt_ctl rfl (fun _ => stepG_skip) ?_ | refine bt_ctl rfl (fun _ => stepG_region_end) ?_ | refine bt_ctl rfl (fun _ => stepG_ret') ?_ | (refine bt_ctl rfl (fun _ => stepG_region) ?_; simp only [List.size_toArray, List.length_cons, List.length_nil, Nat.reduceAdd, Nat.zero_add, List.range, List.range.loop])) | (refine bt_cons zgOk.bodied rfl (by rfl) (by decide) (by decide) (fun dzz Kzz hKzz => ?_); go_simp; refine hKzz _ _ (fun b hb => hb) (bt_at ?_); clear hKzz Kzz; try walk_nrm) | (refine bt_skip rfl (by rfl) ?_; try walk_nrm)))
  obtain ⟨j0, hi, hz0, hz1, hz2⟩ := info_parts Bb.info22
  have hmk := fun w => run_make (P := Try.prog) w 42 22 j0 (.slice none 0 0) Try.underlying42 hi hz0 .i64 .i64 l.length l.length (by omega) (by omega) (by rw [hz2]; omega) (by omega)
  refine bt_cons zgOk.bodied rfl (by rfl) (by decide) (by decide) (fun dzz Kzz hKzz => ?_)
  go_simp
  refine hKzz _ ((wm.alloc (.cells (madeCells #[.slice none 0 0] l.length) 22)).at dzz) (fun b hb => Wk.pz_alloc _ hb) (bt_at ?_)
  clear hKzz Kzz hmk hi hz0 hz1 hz2
  have hsz : ∀ d, (wm.at d).heap.size = wm.heap.size := fun _ => rfl
  simp only [hsz]
  clear hsz
  have Bn := hide (show Bel wm.heap.size wm (wm.alloc (.cells (madeCells #[.slice none 0 0] l.length) 22)) from ⟨rfl, rfl, by simp, fun k hk' => Below.heap_alloc _ _ _ hk'⟩)
  have H1 := hide (show OwnI (wm.alloc (.cells (madeCells #[.slice none 0 0] l.length) 22)) w.heap.size w1.heap.size l.length l.length (List.replicate l.length 0) from own_bel (unhide Bn) (by have := unhide sm; omega) (own_from (unhide om) (unhide HB1).size))
  have H2 := hide (ownE_made (w := wm) (B := w.heap.size) (n := l.length) (Nat.le_trans (unhide HB1).size (unhide Bm).size) hl)
  have H3 := hide (show Bel w.heap.size w (wm.alloc (.cells (madeCells #[.slice none 0 0] l.length) 22)) from ((unhide HB1).trans ((unhide Bm).mono (unhide HB1).size)).trans ((unhide Bn).mono (Nat.le_trans (unhide HB1).size (unhide Bm).size)))
  generalize wm.alloc (.cells (madeCells #[.slice none 0 0] l.length) 22) = wn at *
  have H5 := hide (show w1.heap.size ≠ wm.heap.size by have := unhide sm; omega)
  clear om Bm sm Bn
  try walk_nrm
  (repeat (first | (first | refine bt_ctl rfl (fun _ => stepG_seq) ?_ | refine bt_ctl rfl (fun _ => stepG_skip) ?_ | refine bt_ctl rfl (fun _ => stepG_region_end) ?_ | refine bt_ctl rfl (fun _ => stepG_ret') ?_ | (refine bt_ctl rfl (fun _ => stepG_region) ?_; simp only [List.size_toArray, List.length_cons, List.length_nil, Nat.reduceAdd, Nat.zero_add, List.range, List.range.loop])) | (refine bt_cons zgOk.bodied rfl (by rfl) (by decide) (by decide) (fun dzz Kzz hKzz => ?_); go_simp; refine hKzz _ _ (fun b hb => hb) (bt_at ?_); clear hKzz Kzz; try walk_nrm) | (refine bt_skip rfl (by rfl) ?_; try walk_nrm)))
  have key := ver_mid (Q := Q) (c := c) (cs := cs) a b d ca cb cd l ns zs w wn w1.heap.size wm.heap.size (unhide hneH) hnm (unhide HV) h100 hkl hs hB hg hTh (unhide H3) (unhide H1) (unhide H2) (unhide H5) hk
  exact key _ _ _ _ _ _ _ _ _ _ _ _ _ _ _ _ _ _ _ _ _ _ _ _ _ _ _ _ _ _ _ _ _ _ _ _ _ _ _ _ _ _ _ _ _ _ _ _ _ _ _ _ _ _ _ _ _ _ _ _ _ _ _ _ _ _ _ _ _ _ _ _ _ _ _ _ _ _ _ _ _ _ _ _ _ _ _
end Go.Proofs.Ytpdnceeniokemaa
