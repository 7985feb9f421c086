/-
  FnExactReused: the law, its middle.
-/
import Derived.Test.YtpmmimcafkillaaZRx
set_option linter.unusedVariables false
set_option linter.unusedSimpArgs false
namespace Go.Proofs.Ytpmmimcafkillaa.Tr
open Go Go.Conc Go.RowKit
open Go.Proofs.Ytpmmimcafkillaa.Br (BT BTS Hd Hid Pz Pst Shn Thr EvN bt_ctl bt_cons bt_skip bt_call bt_callB bt_enter CallsB rt AtEnd0)
open Go.Proofs.Ytpmmimcafkillaa.Rs (Rule outOf out_at out_len resR crR dtR hst gmx)
open Go.Proofs.Ytpmmimcafkillaa (Tv Tks Ins jobOk job_tok TOk job_short tot tot_mem TO TX OwnI Mkd row_ownX iv reuOf sreu_any ruk_len)
set_option maxRecDepth 100000 in
set_option maxHeartbeats 16000000 in
theorem lawRu2 [Thr] {W : World} (a : Option Addr) (cap : Nat) (l : List Tv) (p : Option Addr) (c : Nat) (m : List Tv) (hl : l.length ≤ maxLen) (hT : Tks W a l) (hml : m.length ≤ maxLen) (hM : Tks W p m) (hg : Br.GC Try.prog W) (hTh : Thr.N ≤ W.heap.size) (ptot : l.length + tot l ≤ 1048576) (qtot : m.length + tot m ≤ 1048576) (pm : ∀ t ∈ l, t.2.2.1.length ≤ 1048576) (qm : ∀ t ∈ m, t.2.2.1.length ≤ 1048576) (hx : ∀ t ∈ l, t.2.2.1.length ≤ maxLen) (hy : ∀ t ∈ m, t.2.2.1.length ≤ maxLen) {R : List Int} (hR : reuOf l m = R) (hRl : R.length ≤ 200)
    {wc wx wy w9 : World} {b3 c3 b4 b5 b6 c6 : Nat} (N3 : W.heap.size ≤ wc.heap.size) (I3 : Ins wc (some ⟨b3, 0, none⟩) R) (N4 : wc.heap.size ≤ wx.heap.size) (N5 : wx.heap.size ≤ wy.heap.size) (hb6 : wy.heap.size ≤ b6) (B9 : BelL W.heap.size W w9) (C9 : BelL wc.heap.size wc w9) (X9 : TO wc.heap.size wx.heap.size w9 b4 l l.length) (Y9 : TO wx.heap.size wy.heap.size w9 b5 m m.length) (G9 : OwnI w9 wy.heap.size b6 R.length c6 R) (y2 y3 y4 y5 y10 y11 y12 y13 y14 y15 y16 y17 y18 y19 y20 y21 y22 y23 y24 y25 y26 y27 y28 y29 y30 y31 y32 y33 y34 y35 y36 y37 y38 y39 y40 y41 y42 y43 y44 y45 y46 y47 y48 y49 y50 y51 y52 y53 y54 y55 y56 y57 y58 y59 y60 y61 y62 y63 y64 y65 y66 y67 y68 y69 y70 y71 y72 y73 y74 y75 y76 y77 y78 y79 y80 y81 y82 y83 y84 y85 y86 y87 y88 y89 y90 y91 : Value) :
    BT Try.prog (AtEnd0 Try.prog (PostL W)) (G ((base 6).at ⟨#[.slice a l.length cap, .slice p m.length c, y2, y3, y4, y5, .slice (some ⟨b3, 0, none⟩) R.length c3, .slice (some ⟨b4, 0, none⟩) l.length l.length, .slice (some ⟨b5, 0, none⟩) m.length m.length, .slice (some ⟨b6, 0, none⟩) R.length c6, y10, y11, y12, y13, y14, y15, y16, y17, y18, y19, y20, y21, y22, y23, y24, y25, y26, y27, y28, y29, y30, y31, y32, y33, y34, y35, y36, y37, y38, y39, y40, y41, y42, y43, y44, y45, y46, y47, y48, y49, y50, y51, y52, y53, y54, y55, y56, y57, y58, y59, y60, y61, y62, y63, y64, y65, y66, y67, y68, y69, y70, y71, y72, y73, y74, y75, y76, y77, y78, y79, y80, y81, y82, y83, y84, y85, y86, y87, y88, y89, y90, y91], []⟩ [.code (sdc 11 (Try.f6.body.getD .skip))]) []) w9 := by
  simp only [sdc, Try.f6, Option.getD_some]
  have p1 : l.length ≤ 1048576 := by omega
  have q1 : m.length ≤ 1048576 := by omega
  (repeat (first | refine kA ?_ | refine kB ?_ | refine kC ?_ | refine kF ?_ | (refine kG ?_; simp only [List.size_toArray, List.length_cons, List.length_nil, Nat.reduceAdd, Nat.zero_add, List.range, List.range.loop]) | (refine kO rfl (by rfl) (by decide) (by decide) (fun dzz Kzz hKzz => ?_); go_simp; refine hKzz _ _ (fun b hb => hb) (bt_at ?_); clear hKzz Kzz; try walk_nrm) | (refine bt_skip rfl (by rfl) ?_; try walk_nrm)))
  refine bt_call (R := RTo w9 l) zgOk (tots_B (cap := cap) (by omega) pm hx (tks_low B9 hT)) (gc_belL B9 hg) (fun v w T d h => h.rt) (fun v w' h => belL_pz h.choose_spec.2.2) zF24 (by simp [zK]) Try.func24 rfl rfl rfl rfl rfl (by k_ne) (by simp [Act.eval]) (fun v w10 h10 => ?_)
  obtain ⟨b7, rfl, O10, k10⟩ := h10
  have B10 := B9.trans k10 B9.size
  have C10 := C9.trans k10 C9.size
  have X10 := to_belL X9 k10
  have Y10 := to_belL Y9 k10
  have G10 := own_belL G9 k10
  clear B9 C9 X9 Y9 G9
  walk_nrm
  refine bt_call (R := RTr w10) zgOk (eqts_B (cap := l.length) (cb := l.length) p1 pm (X10.tks hx) O10) (gc_belL B10 hg) (fun v w T d h => h.rt) (fun v w' h => belL_pz h.2) zF26 (by simp [zK]) Try.func26 rfl rfl rfl rfl rfl (by k_ne) (by simp [Act.eval]) (fun v w11 h11 => ?_)
  obtain ⟨rfl, k11⟩ := h11
  have B11 := B10.trans k11 B10.size
  have C11 := C10.trans k11 C10.size
  have X11 := to_belL X10 k11
  have Y11 := to_belL Y10 k11
  have G11 := own_belL G10 k11
  have O11 := tks_low k11 O10
  clear B10 C10 X10 Y10 G10 O10
  walk_nrm
  clear O11
  (repeat (first | refine kA ?_ | refine kB ?_ | refine kC ?_ | refine kF ?_ | (refine kG ?_; simp only [List.size_toArray, List.length_cons, List.length_nil, Nat.reduceAdd, Nat.zero_add, List.range, List.range.loop]) | (refine kO rfl (by rfl) (by decide) (by decide) (fun dzz Kzz hKzz => ?_); go_simp; refine hKzz _ _ (fun b hb => hb) (bt_at ?_); clear hKzz Kzz; try walk_nrm) | (refine bt_skip rfl (by rfl) ?_; try walk_nrm)))
  (refine kI rfl ?_)
  (repeat (first | refine kA ?_ | refine kB ?_ | refine kC ?_ | refine kF ?_ | (refine kG ?_; simp only [List.size_toArray, List.length_cons, List.length_nil, Nat.reduceAdd, Nat.zero_add, List.range, List.range.loop]) | (refine kO rfl (by rfl) (by decide) (by decide) (fun dzz Kzz hKzz => ?_); go_simp; refine hKzz _ _ (fun b hb => hb) (bt_at ?_); clear hKzz Kzz; try walk_nrm) | (refine bt_skip rfl (by rfl) ?_; try walk_nrm)))
  refine bt_call (R := RTo w11 m) zgOk (tots_B (cap := c) (by omega) qm hy (tks_low B11 hM)) (gc_belL B11 hg) (fun v w T d h => h.rt) (fun v w' h => belL_pz h.choose_spec.2.2) zF24 (by simp [zK]) Try.func24 rfl rfl rfl rfl rfl (by k_ne) (by simp [Act.eval]) (fun v w12 h12 => ?_)
  obtain ⟨b8, rfl, Q12, k12⟩ := h12
  have B12 := B11.trans k12 B11.size
  have C12 := C11.trans k12 C11.size
  have X12 := to_belL X11 k12
  have Y12 := to_belL Y11 k12
  have G12 := own_belL G11 k12
  clear B11 C11 X11 Y11 G11
  walk_nrm
  refine bt_call (R := RTr w12) zgOk (eqts_B (cap := m.length) (cb := m.length) q1 qm (Y12.tks hy) Q12) (gc_belL B12 hg) (fun v w T d h => h.rt) (fun v w' h => belL_pz h.2) zF26 (by simp [zK]) Try.func26 rfl rfl rfl rfl rfl (by k_ne) (by simp [Act.eval]) (fun v w13 h13 => ?_)
  obtain ⟨rfl, k13⟩ := h13
  have B13 := B12.trans k13 B12.size
  have C13 := C12.trans k13 C12.size
  have X13 := to_belL X12 k13
  have Y13 := to_belL Y12 k13
  have G13 := own_belL G12 k13
  have Q13 := tks_low k13 Q12
  clear B12 C12 X12 Y12 G12 Q12
  walk_nrm
  clear Q13
  (repeat (first | refine kA ?_ | refine kB ?_ | refine kC ?_ | refine kF ?_ | (refine kG ?_; simp only [List.size_toArray, List.length_cons, List.length_nil, Nat.reduceAdd, Nat.zero_add, List.range, List.range.loop]) | (refine kO rfl (by rfl) (by decide) (by decide) (fun dzz Kzz hKzz => ?_); go_simp; refine hKzz _ _ (fun b hb => hb) (bt_at ?_); clear hKzz Kzz; try walk_nrm) | (refine bt_skip rfl (by rfl) ?_; try walk_nrm)))
  (refine kI rfl ?_)
  (repeat (first | refine kA ?_ | refine kB ?_ | refine kC ?_ | refine kF ?_ | (refine kG ?_; simp only [List.size_toArray, List.length_cons, List.length_nil, Nat.reduceAdd, Nat.zero_add, List.range, List.range.loop]) | (refine kO rfl (by rfl) (by decide) (by decide) (fun dzz Kzz hKzz => ?_); go_simp; refine hKzz _ _ (fun b hb => hb) (bt_at ?_); clear hKzz Kzz; try walk_nrm) | (refine bt_skip rfl (by rfl) ?_; try walk_nrm)))
  refine bt_call (R := RMt (fun k => wc.heap.size ≤ k ∧ (k < wx.heap.size ∧ ¬ Pz w13 k)) 1 w13) zgOk (fun T d => markts_B (cap := l.length) (by omega) (by omega) ptot X13) (gc_belL B13 hg) (fun v w T d h => h.rt) (fun v w' h => h.choose_spec.2.2.pz) zF27 (by simp [zK]) Try.func27 rfl rfl rfl rfl rfl (by k_ne) (by simp [Act.eval]) (fun v w14 h14 => ?_)
  obtain ⟨r9, rfl, r90, k14⟩ := h14
  have B14 := B13.trans (k14.belL (N := W.heap.size) (fun k hk => by have := hk.1; omega) B13.size) (Nat.le_refl _)
  have C14 := C13.trans (k14.belL (N := wc.heap.size) (fun k hk => hk.1) C13.size) (Nat.le_refl _)
  have Y14 := to_rng Y13 k14 (fun k hk hx => by have := hx.2.1; omega)
  have G14 := own_rng G13 k14 (fun hk => by have := hk.2.1; omega)
  clear B13 C13 X13 Y13 G13
  walk_nrm
  obtain ⟨r9a, r9b⟩ := r90
  (repeat (first | refine kA ?_ | refine kB ?_ | refine kC ?_ | refine kF ?_ | (refine kG ?_; simp only [List.size_toArray, List.length_cons, List.length_nil, Nat.reduceAdd, Nat.zero_add, List.range, List.range.loop]) | (refine kO rfl (by rfl) (by decide) (by decide) (fun dzz Kzz hKzz => ?_); go_simp; refine hKzz _ _ (fun b hb => hb) (bt_at ?_); clear hKzz Kzz; try walk_nrm) | (refine bt_skip rfl (by rfl) ?_; try walk_nrm)))
  refine bt_call (R := RMt (fun k => wx.heap.size ≤ k ∧ (k < wy.heap.size ∧ ¬ Pz w14 k)) r9 w14) zgOk (fun T d => markts_B (cap := m.length) (by omega) (by omega) qtot Y14) (gc_belL B14 hg) (fun v w T d h => h.rt) (fun v w' h => h.choose_spec.2.2.pz) zF27 (by simp [zK]) Try.func27 rfl rfl rfl rfl rfl (by k_ne) (by simp [Act.eval]) (fun v w15 h15 => ?_)
  obtain ⟨r10, rfl, r100, k15⟩ := h15
  have B15 := B14.trans (k15.belL (N := W.heap.size) (fun k hk => by have := hk.1; omega) B14.size) (Nat.le_refl _)
  have C15 := C14.trans (k15.belL (N := wc.heap.size) (fun k hk => by have := hk.1; omega) C14.size) (Nat.le_refl _)
  have G15 := own_rng G14 k15 (fun hk => by have := hk.2.1; omega)
  clear B14 C14 Y14 G14
  walk_nrm
  obtain ⟨r10a, r10b⟩ := r100
  have hgr9 : decide (r10 < 0) = false := decide_eq_false (by omega)
  (repeat (first | refine kA ?_ | refine kB ?_ | refine kC ?_ | refine kF ?_ | (refine kG ?_; simp only [List.size_toArray, List.length_cons, List.length_nil, Nat.reduceAdd, Nat.zero_add, List.range, List.range.loop]) | (refine kO rfl (by rfl) (by decide) (by decide) (fun dzz Kzz hKzz => ?_); go_simp; refine hKzz _ _ (fun b hb => hb) (bt_at ?_); clear hKzz Kzz; try walk_nrm) | (refine bt_skip rfl (by rfl) ?_; try walk_nrm)))
  refine bt_call (R := RTr w15) zgOk (fun T d => eqi_B (l := R) (cap := c6) (cb := c3) (by omega) (Go.Proofs.Ytpmmimcafkillaa.ins_own G15) (ins_low C15 I3)) (gc_belL B15 hg) (fun v w T d h => h.rt) (fun v w' h => belL_pz h.2) zF25 (by simp [zK]) Try.func25 rfl rfl rfl rfl rfl (by k_ne) (by simp [Act.eval]) (fun v w16 h16 => ?_)
  obtain ⟨rfl, k16⟩ := h16
  have B16 := B15.trans k16 B15.size
  have C16 := C15.trans k16 C15.size
  have G16 := own_belL G15 k16
  clear B15 C15 G15
  walk_nrm
  (repeat (first | refine kA ?_ | refine kB ?_ | refine kC ?_ | refine kF ?_ | (refine kG ?_; simp only [List.size_toArray, List.length_cons, List.length_nil, Nat.reduceAdd, Nat.zero_add, List.range, List.range.loop]) | (refine kO rfl (by rfl) (by decide) (by decide) (fun dzz Kzz hKzz => ?_); go_simp; refine hKzz _ _ (fun b hb => hb) (bt_at ?_); clear hKzz Kzz; try walk_nrm) | (refine bt_skip rfl (by rfl) ?_; try walk_nrm)))
  (refine kI rfl ?_)
  refine kB ?_
  have h2 := fun y2 y3 y4 y5 y7 y8 y10 y11 y12 y13 y14 y15 y16 y17 y18 y19 y20 y21 y22 y23 y24 y25 y26 y27 y28 y29 y30 y31 y32 y33 y34 y35 y36 y37 y38 y39 y40 y41 y42 y43 y44 y45 y46 y47 y48 y49 y50 y51 y52 y53 y54 y55 y56 y57 y58 y59 y60 y61 y62 y63 y64 y65 y66 y67 y68 y69 y70 y71 y72 y73 y74 y75 y76 y77 y78 y79 y80 y81 y82 y83 y84 y85 y86 y87 y88 y89 y90 y91 => lawRu3 (c3 := c3) a cap l p c m hl hT hml hM hg hTh ptot qtot pm qm hx hy hR hRl N3 I3 (by omega) B16 C16 G16 y2 y3 y4 y5 y7 y8 y10 y11 y12 y13 y14 y15 y16 y17 y18 y19 y20 y21 y22 y23 y24 y25 y26 y27 y28 y29 y30 y31 y32 y33 y34 y35 y36 y37 y38 y39 y40 y41 y42 y43 y44 y45 y46 y47 y48 y49 y50 y51 y52 y53 y54 y55 y56 y57 y58 y59 y60 y61 y62 y63 y64 y65 y66 y67 y68 y69 y70 y71 y72 y73 y74 y75 y76 y77 y78 y79 y80 y81 y82 y83 y84 y85 y86 y87 y88 y89 y90 y91
  simp only [sdc, Try.f6, Option.getD_some] at h2
  exact h2 _ _ _ _ _ _ _ _ _ _ _ _ _ _ _ _ _ _ _ _ _ _ _ _ _ _ _ _ _ _ _ _ _ _ _ _ _ _ _ _ _ _ _ _ _ _ _ _ _ _ _ _ _ _ _ _ _ _ _ _ _ _ _ _ _ _ _ _ _ _ _ _ _ _ _ _ _ _ _ _ _ _ _ _ _ _ _ _
end Go.Proofs.Ytpmmimcafkillaa.Tr
