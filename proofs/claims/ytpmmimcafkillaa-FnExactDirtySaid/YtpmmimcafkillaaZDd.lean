/-
  FnExactDirty: the law, its middle.
-/
import Derived.Test.YtpmmimcafkillaaZDc
set_option linter.unusedVariables false
set_option linter.unusedSimpArgs false
namespace Go.Proofs.Ytpmmimcafkillaa.Tr
open Go Go.Conc Go.RowKit
open Go.Proofs.Ytpmmimcafkillaa.Br (BT BTS Hd Hid Pz Pst Shn Thr EvN bt_ctl bt_cons bt_skip bt_call bt_callB bt_enter CallsB rt AtEnd0)
open Go.Proofs.Ytpmmimcafkillaa.Rs (Rule outOf out_at out_len resR crR dtR hst gmx)
open Go.Proofs.Ytpmmimcafkillaa (Tv Tks Ins jobOk job_tok TOk job_short tot tot_mem TO TX OwnI Mkd row_ownX iv chOk dlk dtyOf sdty_any)
set_option maxRecDepth 100000 in
set_option maxHeartbeats 16000000 in
theorem lawDt2 [Thr] {W : World} (a : Option Addr) (cap : Nat) (l : List Tv) (p : Option Addr) (c : Nat) (ch : List Int) (hl : l.length ≤ maxLen) (hT : Tks W a l) (hcl : ch.length ≤ maxLen) (hI : Ins W p ch) (hg : Br.GC Try.prog W) (hTh : Thr.N ≤ W.heap.size) (ptot : l.length + tot l ≤ 1048576) (pch : ch.length ≤ 1048576) (pm : ∀ t ∈ l, t.2.2.1.length ≤ 1048576) (hx : ∀ t ∈ l, t.2.2.1.length ≤ maxLen) {R : List Int} (hR : dty l ch = R) (hRl : R.length ≤ 200)
    {wc wx wp w8 : World} {b3 c3 b4 b5 b6 c6 : Nat} (N3 : W.heap.size ≤ wc.heap.size) (I3 : Ins wc (some ⟨b3, 0, none⟩) R) (N4 : wc.heap.size ≤ wx.heap.size) (hb5 : wx.heap.size ≤ b5) (N5 : b5 < wp.heap.size) (hb6 : wp.heap.size ≤ b6) (B8 : BelL W.heap.size W w8) (C8 : BelL wc.heap.size wc w8) (X8 : TO wc.heap.size wx.heap.size w8 b4 l l.length) (P8 : OwnI w8 wx.heap.size b5 ch.length ch.length ch) (G8 : OwnI w8 wp.heap.size b6 R.length c6 R) (y2 y3 y4 y5 y10 y11 y12 y13 y14 y15 y16 y17 y18 y19 y20 y21 y22 y23 y24 y25 y26 y27 y28 y29 y30 y31 y32 y33 y34 y35 y36 y37 y38 y39 y40 y41 y42 y43 y44 y45 y46 y47 y48 y49 y50 y51 y52 y53 y54 y55 y56 y57 y58 y59 y60 y61 y62 y63 y64 y65 y66 y67 y68 y69 y70 y71 y72 y73 y74 y75 y76 y77 y78 y79 y80 y81 y82 y83 y84 y85 y86 y87 y88 y89 : Value) :
    BT Try.prog (AtEnd0 Try.prog (PostL W)) (G ((base 8).at ⟨#[.slice a l.length cap, .slice p ch.length c, y2, y3, y4, y5, .slice (some ⟨b3, 0, none⟩) R.length c3, .slice (some ⟨b4, 0, none⟩) l.length l.length, .slice (some ⟨b5, 0, none⟩) ch.length ch.length, .slice (some ⟨b6, 0, none⟩) R.length c6, y10, y11, y12, y13, y14, y15, y16, y17, y18, y19, y20, y21, y22, y23, y24, y25, y26, y27, y28, y29, y30, y31, y32, y33, y34, y35, y36, y37, y38, y39, y40, y41, y42, y43, y44, y45, y46, y47, y48, y49, y50, y51, y52, y53, y54, y55, y56, y57, y58, y59, y60, y61, y62, y63, y64, y65, y66, y67, y68, y69, y70, y71, y72, y73, y74, y75, y76, y77, y78, y79, y80, y81, y82, y83, y84, y85, y86, y87, y88, y89], []⟩ [.code (sdc 10 (Try.f8.body.getD .skip))]) []) w8 := by
  simp only [sdc, Try.f8, Option.getD_some]
  have p1 : l.length ≤ 1048576 := by omega
  (repeat (first | refine kA ?_ | refine kB ?_ | refine kC ?_ | refine kF ?_ | (refine kG ?_; simp only [List.size_toArray, List.length_cons, List.length_nil, Nat.reduceAdd, Nat.zero_add, List.range, List.range.loop]) | (refine kO rfl (by rfl) (by decide) (by decide) (fun dzz Kzz hKzz => ?_); go_simp; refine hKzz _ _ (fun b hb => hb) (bt_at ?_); clear hKzz Kzz; try walk_nrm) | (refine bt_skip rfl (by rfl) ?_; try walk_nrm)))
  refine bt_call (R := RTo w8 l) zgOk (tots_B (cap := cap) (by omega) pm hx (tks_low B8 hT)) (gc_belL B8 hg) (fun v w T d h => h.rt) (fun v w' h => belL_pz h.choose_spec.2.2) zF24 (by simp [zK]) Try.func24 rfl rfl rfl rfl rfl (by k_ne) (by simp [Act.eval]) (fun v w9 h9 => ?_)
  obtain ⟨b7, rfl, O9, k9⟩ := h9
  have B9 := B8.trans k9 B8.size
  have C9 := C8.trans k9 C8.size
  have X9 := to_belL X8 k9
  have P9 := own_belL P8 k9
  have G9 := own_belL G8 k9
  clear B8 C8 X8 P8 G8
  walk_nrm
  refine bt_call (R := RTr w9) zgOk (eqts_B (cap := l.length) (cb := l.length) p1 pm (X9.tks hx) O9) (gc_belL B9 hg) (fun v w T d h => h.rt) (fun v w' h => belL_pz h.2) zF26 (by simp [zK]) Try.func26 rfl rfl rfl rfl rfl (by k_ne) (by simp [Act.eval]) (fun v w10 h10 => ?_)
  obtain ⟨rfl, k10⟩ := h10
  have B10 := B9.trans k10 B9.size
  have C10 := C9.trans k10 C9.size
  have X10 := to_belL X9 k10
  have P10 := own_belL P9 k10
  have G10 := own_belL G9 k10
  have O10 := tks_low k10 O9
  clear B9 C9 X9 P9 G9 O9
  walk_nrm
  clear O10
  (repeat (first | refine kA ?_ | refine kB ?_ | refine kC ?_ | refine kF ?_ | (refine kG ?_; simp only [List.size_toArray, List.length_cons, List.length_nil, Nat.reduceAdd, Nat.zero_add, List.range, List.range.loop]) | (refine kO rfl (by rfl) (by decide) (by decide) (fun dzz Kzz hKzz => ?_); go_simp; refine hKzz _ _ (fun b hb => hb) (bt_at ?_); clear hKzz Kzz; try walk_nrm) | (refine bt_skip rfl (by rfl) ?_; try walk_nrm)))
  (refine kI rfl ?_)
  (repeat (first | refine kA ?_ | refine kB ?_ | refine kC ?_ | refine kF ?_ | (refine kG ?_; simp only [List.size_toArray, List.length_cons, List.length_nil, Nat.reduceAdd, Nat.zero_add, List.range, List.range.loop]) | (refine kO rfl (by rfl) (by decide) (by decide) (fun dzz Kzz hKzz => ?_); go_simp; refine hKzz _ _ (fun b hb => hb) (bt_at ?_); clear hKzz Kzz; try walk_nrm) | (refine bt_skip rfl (by rfl) ?_; try walk_nrm)))
  refine bt_call (R := RToI w10 ch) zgOk (fun T d => toi_B (cap := c) pch (ins_low B10 hI)) (gc_belL B10 hg) (fun v w T d h => h.rt) (fun v w' h => belL_pz h.choose_spec.2.2.2) zF32 (by simp [zK]) Try.func32 rfl rfl rfl rfl rfl (by k_ne) (by simp [Act.eval]) (fun v w11 h11 => ?_)
  obtain ⟨b8, rfl, _, Q11, k11⟩ := h11
  have B11 := B10.trans k11 B10.size
  have C11 := C10.trans k11 C10.size
  have X11 := to_belL X10 k11
  have P11 := own_belL P10 k11
  have G11 := own_belL G10 k11
  clear B10 C10 X10 P10 G10
  walk_nrm
  refine bt_call (R := RTr w11) zgOk (fun T d => eqi_B (l := ch) (cap := ch.length) (cb := ch.length) pch (Go.Proofs.Ytpmmimcafkillaa.ins_own P11) (Go.Proofs.Ytpmmimcafkillaa.ins_own Q11)) (gc_belL B11 hg) (fun v w T d h => h.rt) (fun v w' h => belL_pz h.2) zF25 (by simp [zK]) Try.func25 rfl rfl rfl rfl rfl (by k_ne) (by simp [Act.eval]) (fun v w12 h12 => ?_)
  obtain ⟨rfl, k12⟩ := h12
  have B12 := B11.trans k12 B11.size
  have C12 := C11.trans k12 C11.size
  have X12 := to_belL X11 k12
  have P12 := own_belL P11 k12
  have G12 := own_belL G11 k12
  have Q12 := own_belL Q11 k12
  clear B11 C11 X11 P11 G11 Q11
  walk_nrm
  clear Q12
  (repeat (first | refine kA ?_ | refine kB ?_ | refine kC ?_ | refine kF ?_ | (refine kG ?_; simp only [List.size_toArray, List.length_cons, List.length_nil, Nat.reduceAdd, Nat.zero_add, List.range, List.range.loop]) | (refine kO rfl (by rfl) (by decide) (by decide) (fun dzz Kzz hKzz => ?_); go_simp; refine hKzz _ _ (fun b hb => hb) (bt_at ?_); clear hKzz Kzz; try walk_nrm) | (refine bt_skip rfl (by rfl) ?_; try walk_nrm)))
  (refine kI rfl ?_)
  (repeat (first | refine kA ?_ | refine kB ?_ | refine kC ?_ | refine kF ?_ | (refine kG ?_; simp only [List.size_toArray, List.length_cons, List.length_nil, Nat.reduceAdd, Nat.zero_add, List.range, List.range.loop]) | (refine kO rfl (by rfl) (by decide) (by decide) (fun dzz Kzz hKzz => ?_); go_simp; refine hKzz _ _ (fun b hb => hb) (bt_at ?_); clear hKzz Kzz; try walk_nrm) | (refine bt_skip rfl (by rfl) ?_; try walk_nrm)))
  refine bt_call (R := RMt (fun k => wc.heap.size ≤ k ∧ (k < wx.heap.size ∧ ¬ Pz w12 k)) 1 w12) zgOk (fun T d => markts_B (cap := l.length) (by omega) (by omega) ptot X12) (gc_belL B12 hg) (fun v w T d h => h.rt) (fun v w' h => h.choose_spec.2.2.pz) zF27 (by simp [zK]) Try.func27 rfl rfl rfl rfl rfl (by k_ne) (by simp [Act.eval]) (fun v w13 h13 => ?_)
  obtain ⟨r9, rfl, r90, k13⟩ := h13
  have B13 := B12.trans (k13.belL (N := W.heap.size) (fun k hk => by have := hk.1; omega) B12.size) (Nat.le_refl _)
  have C13 := C12.trans (k13.belL (N := wc.heap.size) (fun k hk => hk.1) C12.size) (Nat.le_refl _)
  have P13 := own_rng P12 k13 (fun hk => by have := hk.2.1; omega)
  have G13 := own_rng G12 k13 (fun hk => by have := hk.2.1; omega)
  clear B12 C12 X12 P12 G12
  walk_nrm
  (repeat (first | refine kA ?_ | refine kB ?_ | refine kC ?_ | refine kF ?_ | (refine kG ?_; simp only [List.size_toArray, List.length_cons, List.length_nil, Nat.reduceAdd, Nat.zero_add, List.range, List.range.loop]) | (refine kO rfl (by rfl) (by decide) (by decide) (fun dzz Kzz hKzz => ?_); go_simp; refine hKzz _ _ (fun b hb => hb) (bt_at ?_); clear hKzz Kzz; try walk_nrm) | (refine bt_skip rfl (by rfl) ?_; try walk_nrm)))
  obtain ⟨r9a, r9b⟩ := r90
  obtain ⟨rq, hrq⟩ : ∃ rq : Int, r9 + (ch.length : Int) = rq := ⟨_, rfl⟩
  have hgr9 : decide (rq < 0) = false := decide_eq_false (by omega)
  refine bt_call (R := RMi wx.heap.size b5 ch.length ch.length r9 w13) zgOk (fun T d => marki_B (by omega) (by omega) (by omega) P13) (gc_belL B13 hg) (fun v w T d h => h.rt) (fun v w' h => h.2.2.pz) zF28 (by simp [zK]) Try.func28 rfl rfl rfl rfl rfl (by k_ne) (by simp [Act.eval]) (fun v w14 h14 => ?_)
  obtain ⟨rfl, _, k14⟩ := h14
  rw [hrq]
  have B14 := B13.trans (k14.belL (N := W.heap.size) (fun k hk => by have := hk.1; omega) B13.size) (Nat.le_refl _)
  have C14 := C13.trans (k14.belL (N := wc.heap.size) (fun k hk => by have := hk.1; omega) C13.size) (Nat.le_refl _)
  have G14 := own_rng G13 k14 (fun hk => by have := hk.1; omega)
  clear B13 C13 P13 G13
  walk_nrm
  (repeat (first | refine kA ?_ | refine kB ?_ | refine kC ?_ | refine kF ?_ | (refine kG ?_; simp only [List.size_toArray, List.length_cons, List.length_nil, Nat.reduceAdd, Nat.zero_add, List.range, List.range.loop]) | (refine kO rfl (by rfl) (by decide) (by decide) (fun dzz Kzz hKzz => ?_); go_simp; refine hKzz _ _ (fun b hb => hb) (bt_at ?_); clear hKzz Kzz; try walk_nrm) | (refine bt_skip rfl (by rfl) ?_; try walk_nrm)))
  refine bt_call (R := RTr w14) zgOk (fun T d => eqi_B (l := R) (cap := c6) (cb := c3) (by omega) (Go.Proofs.Ytpmmimcafkillaa.ins_own G14) (ins_low C14 I3)) (gc_belL B14 hg) (fun v w T d h => h.rt) (fun v w' h => belL_pz h.2) zF25 (by simp [zK]) Try.func25 rfl rfl rfl rfl rfl (by k_ne) (by simp [Act.eval]) (fun v w15 h15 => ?_)
  obtain ⟨rfl, k15⟩ := h15
  have B15 := B14.trans k15 B14.size
  have C15 := C14.trans k15 C14.size
  have G15 := own_belL G14 k15
  clear B14 C14 G14
  walk_nrm
  (repeat (first | refine kA ?_ | refine kB ?_ | refine kC ?_ | refine kF ?_ | (refine kG ?_; simp only [List.size_toArray, List.length_cons, List.length_nil, Nat.reduceAdd, Nat.zero_add, List.range, List.range.loop]) | (refine kO rfl (by rfl) (by decide) (by decide) (fun dzz Kzz hKzz => ?_); go_simp; refine hKzz _ _ (fun b hb => hb) (bt_at ?_); clear hKzz Kzz; try walk_nrm) | (refine bt_skip rfl (by rfl) ?_; try walk_nrm)))
  (refine kI rfl ?_)
  refine kB ?_
  have h2 := fun y2 y3 y4 y5 y7 y8 y10 y11 y12 y13 y14 y15 y16 y17 y18 y19 y20 y21 y22 y23 y24 y25 y26 y27 y28 y29 y30 y31 y32 y33 y34 y35 y36 y37 y38 y39 y40 y41 y42 y43 y44 y45 y46 y47 y48 y49 y50 y51 y52 y53 y54 y55 y56 y57 y58 y59 y60 y61 y62 y63 y64 y65 y66 y67 y68 y69 y70 y71 y72 y73 y74 y75 y76 y77 y78 y79 y80 y81 y82 y83 y84 y85 y86 y87 y88 y89 => lawDt3 (c3 := c3) a cap l p c ch hl hT hcl hI hg hTh ptot pch pm hx hR hRl N3 I3 (by omega) B15 C15 G15 y2 y3 y4 y5 y7 y8 y10 y11 y12 y13 y14 y15 y16 y17 y18 y19 y20 y21 y22 y23 y24 y25 y26 y27 y28 y29 y30 y31 y32 y33 y34 y35 y36 y37 y38 y39 y40 y41 y42 y43 y44 y45 y46 y47 y48 y49 y50 y51 y52 y53 y54 y55 y56 y57 y58 y59 y60 y61 y62 y63 y64 y65 y66 y67 y68 y69 y70 y71 y72 y73 y74 y75 y76 y77 y78 y79 y80 y81 y82 y83 y84 y85 y86 y87 y88 y89
  simp only [sdc, Try.f8, Option.getD_some] at h2
  exact h2 _ _ _ _ _ _ _ _ _ _ _ _ _ _ _ _ _ _ _ _ _ _ _ _ _ _ _ _ _ _ _ _ _ _ _ _ _ _ _ _ _ _ _ _ _ _ _ _ _ _ _ _ _ _ _ _ _ _ _ _ _ _ _ _ _ _ _ _ _ _ _ _ _ _ _ _ _ _ _ _ _ _ _ _ _ _
end Go.Proofs.Ytpmmimcafkillaa.Tr
