/-
  FnExactDirty: the law, from its entry.
-/
import Derived.Test.YtpmmimcafkillaaZDd
import Derived.Test.YtpmmimcafkillaaZUc
set_option linter.unusedVariables false
set_option linter.unusedSimpArgs false
namespace Go.Proofs.Ytpmmimcafkillaa.Tr
open Go Go.Conc Go.RowKit
open Go.Proofs.Ytpmmimcafkillaa.Br (BT BTS Hd Hid Pz Pst Shn Thr EvN bt_ctl bt_cons bt_skip bt_call bt_callB bt_enter CallsB rt AtEnd0)
open Go.Proofs.Ytpmmimcafkillaa.Rs (Rule outOf out_at out_len resR crR dtR hst gmx)
open Go.Proofs.Ytpmmimcafkillaa (Tv Tks Ins jobOk job_tok TOk job_short tot tot_mem TO TX OwnI Mkd row_ownX iv chOk dlk dtyOf sdty_any)
theorem dlk_len (o : List Int) : ∀ k, (dlk o k).length ≤ k
  | 0 => Nat.le_refl _
  | k + 1 => by
    have := dlk_len o k
    unfold dlk
    split <;> simp <;> omega
theorem dty_len {ts : List Tv} {ch : List Int} : (dty ts ch).length ≤ 200 := by
  unfold dty
  split
  · next h => have := dlk_len (outOf (dtR ch) ts) ts.length; have := job_short (Bool.and_eq_true_iff.1 h).1; omega
  · simp
set_option maxRecDepth 100000 in
set_option maxHeartbeats 16000000 in
theorem lawDt [Thr] {W : World} (a : Option Addr) (cap : Nat) (l : List Tv) (p : Option Addr) (c : Nat) (ch : List Int) (hl : l.length ≤ maxLen) (hT : Tks W a l) (hcl : ch.length ≤ maxLen) (hI : Ins W p ch) (hg : Br.GC Try.prog W) (hTh : Thr.N ≤ W.heap.size) :
    BT Try.prog (AtEnd0 Try.prog (PostL W)) (G (Frame.enter Try.prog 8 #[.slice a l.length cap, .slice p ch.length c] .normal) []) W := by
  have e8 : Frame.enter Try.prog 8 #[.slice a l.length cap, .slice p ch.length c] .normal = (base 8).at ⟨#[.slice a l.length cap, .slice p ch.length c, undef, undef, undef, undef, undef, undef, undef, undef, undef, undef, undef, undef, undef, undef, undef, undef, undef, undef, undef, undef, undef, undef, undef, undef, undef, undef, undef, undef, undef, undef, undef, undef, undef, undef, undef, undef, undef, undef, undef, undef, undef, undef, undef, undef, undef, undef, undef, undef, undef, undef, undef, undef, undef, undef, undef, undef, undef, undef, undef, undef, undef, undef, undef, undef, undef, undef, undef, undef, undef, undef, undef, undef, undef, undef, undef, undef, undef, undef, undef, undef, undef, undef, undef, undef, undef, undef, undef, undef], []⟩ [.code (Try.f8.body.getD .skip)] := by
    simp [Frame.enter, Frame.at, Try.func8, base, Try.f8]
  rw [e8]
  clear e8
  have hx := tks_maxL hT
  obtain ⟨R, hR⟩ : ∃ R, dty l ch = R := ⟨_, rfl⟩
  have hR0 : dtyOf l ch = R := hR
  have hRl : R.length ≤ 200 := by rw [← hR]; exact dty_len
  simp only [Try.f8, Option.getD_some]
  by_cases pch : ch.length ≤ 1048576
  rotate_left
  · have gc : decide ((1048576 : Int) < ch.length) = true := by simp; omega
    (repeat (first | refine kA ?_ | refine kB ?_ | refine kC ?_ | refine kF ?_ | (refine kG ?_; simp only [List.size_toArray, List.length_cons, List.length_nil, Nat.reduceAdd, Nat.zero_add, List.range, List.range.loop]) | (refine kO rfl (by rfl) (by decide) (by decide) (fun dzz Kzz hKzz => ?_); go_simp; refine hKzz _ _ (fun b hb => hb) (bt_at ?_); clear hKzz Kzz; try walk_nrm) | (refine bt_skip rfl (by rfl) ?_; try walk_nrm)))
    (refine kJ rfl ?_)
    (repeat (first | refine kA ?_ | refine kB ?_ | refine kC ?_ | refine kF ?_ | (refine kG ?_; simp only [List.size_toArray, List.length_cons, List.length_nil, Nat.reduceAdd, Nat.zero_add, List.range, List.range.loop]) | (refine kO rfl (by rfl) (by decide) (by decide) (fun dzz Kzz hKzz => ?_); go_simp; refine hKzz _ _ (fun b hb => hb) (bt_at ?_); clear hKzz Kzz; try walk_nrm) | (refine bt_skip rfl (by rfl) ?_; try walk_nrm)))
    exact bt_endK rfl rfl ⟨.refl _, rfl, Nat.le_refl _, fun _ _ => rfl⟩
  have gc : decide ((1048576 : Int) < ch.length) = false := by simp; omega
  (repeat (first | refine kA ?_ | refine kB ?_ | refine kC ?_ | refine kF ?_ | (refine kG ?_; simp only [List.size_toArray, List.length_cons, List.length_nil, Nat.reduceAdd, Nat.zero_add, List.range, List.range.loop]) | (refine kO rfl (by rfl) (by decide) (by decide) (fun dzz Kzz hKzz => ?_); go_simp; refine hKzz _ _ (fun b hb => hb) (bt_at ?_); clear hKzz Kzz; try walk_nrm) | (refine bt_skip rfl (by rfl) ?_; try walk_nrm)))
  (refine kI rfl ?_)
  (repeat (first | refine kA ?_ | refine kB ?_ | refine kC ?_ | refine kF ?_ | (refine kG ?_; simp only [List.size_toArray, List.length_cons, List.length_nil, Nat.reduceAdd, Nat.zero_add, List.range, List.range.loop]) | (refine kO rfl (by rfl) (by decide) (by decide) (fun dzz Kzz hKzz => ?_); go_simp; refine hKzz _ _ (fun b hb => hb) (bt_at ?_); clear hKzz Kzz; try walk_nrm) | (refine bt_skip rfl (by rfl) ?_; try walk_nrm)))
  refine bt_call (R := RSz W l) zgOk (szts_B (cap := cap) hl hT) hg (fun v w T d h => h.rt) (fun v w' h => belL_pz h.choose_spec.2.2) zF23 (by simp [zK]) Try.func23 rfl rfl rfl rfl rfl (by k_ne) (by simp [Act.eval]) (fun v w1 h1 => ?_)
  obtain ⟨r, rfl, hr, k1⟩ := h1
  have B1 := k1
  walk_nrm
  rcases hr with rfl | ⟨r0, hr⟩
  · (repeat (first | refine kA ?_ | refine kB ?_ | refine kC ?_ | refine kF ?_ | (refine kG ?_; simp only [List.size_toArray, List.length_cons, List.length_nil, Nat.reduceAdd, Nat.zero_add, List.range, List.range.loop]) | (refine kO rfl (by rfl) (by decide) (by decide) (fun dzz Kzz hKzz => ?_); go_simp; refine hKzz _ _ (fun b hb => hb) (bt_at ?_); clear hKzz Kzz; try walk_nrm) | (refine bt_skip rfl (by rfl) ?_; try walk_nrm)))
    (refine kJ rfl ?_)
    (repeat (first | refine kA ?_ | refine kB ?_ | refine kC ?_ | refine kF ?_ | (refine kG ?_; simp only [List.size_toArray, List.length_cons, List.length_nil, Nat.reduceAdd, Nat.zero_add, List.range, List.range.loop]) | (refine kO rfl (by rfl) (by decide) (by decide) (fun dzz Kzz hKzz => ?_); go_simp; refine hKzz _ _ (fun b hb => hb) (bt_at ?_); clear hKzz Kzz; try walk_nrm) | (refine bt_skip rfl (by rfl) ?_; try walk_nrm)))
    exact bt_endK rfl rfl B1
  have gr : decide (r < 0) = false := decide_eq_false (by omega)
  have p1 : l.length ≤ 1048576 := by omega
  have ptot : l.length + tot l ≤ 1048576 := by omega
  have pm : ∀ t ∈ l, t.2.2.1.length ≤ 1048576 := fun t ht => by have := tot_mem ht; omega
  clear hr
  (repeat (first | refine kA ?_ | refine kB ?_ | refine kC ?_ | refine kF ?_ | (refine kG ?_; simp only [List.size_toArray, List.length_cons, List.length_nil, Nat.reduceAdd, Nat.zero_add, List.range, List.range.loop]) | (refine kO rfl (by rfl) (by decide) (by decide) (fun dzz Kzz hKzz => ?_); go_simp; refine hKzz _ _ (fun b hb => hb) (bt_at ?_); clear hKzz Kzz; try walk_nrm) | (refine bt_skip rfl (by rfl) ?_; try walk_nrm)))
  (refine kI rfl ?_)
  (repeat (first | refine kA ?_ | refine kB ?_ | refine kC ?_ | refine kF ?_ | (refine kG ?_; simp only [List.size_toArray, List.length_cons, List.length_nil, Nat.reduceAdd, Nat.zero_add, List.range, List.range.loop]) | (refine kO rfl (by rfl) (by decide) (by decide) (fun dzz Kzz hKzz => ?_); go_simp; refine hKzz _ _ (fun b hb => hb) (bt_at ?_); clear hKzz Kzz; try walk_nrm) | (refine bt_skip rfl (by rfl) ?_; try walk_nrm)))
  refine bt_call (R := RTo w1 l) zgOk (tots_B (cap := cap) (by omega) pm hx (tks_low B1 hT)) (gc_belL B1 hg) (fun v w T d h => h.rt) (fun v w' h => belL_pz h.choose_spec.2.2) zF24 (by simp [zK]) Try.func24 rfl rfl rfl rfl rfl (by k_ne) (by simp [Act.eval]) (fun v w2 h2 => ?_)
  obtain ⟨b2, rfl, O2, k2⟩ := h2
  have B2 := B1.trans k2 B1.size
  clear B1
  walk_nrm
  (repeat (first | refine kA ?_ | refine kB ?_ | refine kC ?_ | refine kF ?_ | (refine kG ?_; simp only [List.size_toArray, List.length_cons, List.length_nil, Nat.reduceAdd, Nat.zero_add, List.range, List.range.loop]) | (refine kO rfl (by rfl) (by decide) (by decide) (fun dzz Kzz hKzz => ?_); go_simp; refine hKzz _ _ (fun b hb => hb) (bt_at ?_); clear hKzz Kzz; try walk_nrm) | (refine bt_skip rfl (by rfl) ?_; try walk_nrm)))
  refine bt_call (R := RToI w2 ch) zgOk (fun T d => toi_B (cap := c) pch (ins_low B2 hI)) (gc_belL B2 hg) (fun v w T d h => h.rt) (fun v w' h => belL_pz h.choose_spec.2.2.2) zF32 (by simp [zK]) Try.func32 rfl rfl rfl rfl rfl (by k_ne) (by simp [Act.eval]) (fun v w3 h3 => ?_)
  obtain ⟨b3q, rfl, _, Q3, k3⟩ := h3
  have B3 := B2.trans k3 B2.size
  have O3 := tks_low k3 O2
  clear B2 O2
  walk_nrm
  (repeat (first | refine kA ?_ | refine kB ?_ | refine kC ?_ | refine kF ?_ | (refine kG ?_; simp only [List.size_toArray, List.length_cons, List.length_nil, Nat.reduceAdd, Nat.zero_add, List.range, List.range.loop]) | (refine kO rfl (by rfl) (by decide) (by decide) (fun dzz Kzz hKzz => ?_); go_simp; refine hKzz _ _ (fun b hb => hb) (bt_at ?_); clear hKzz Kzz; try walk_nrm) | (refine bt_skip rfl (by rfl) ?_; try walk_nrm)))
  refine bt_call (R := RRow w3 R) zgOk (fun T d => hR0 ▸ rsd_B (sdty_any (some ⟨b2, 0, none⟩) (some ⟨b3q, 0, none⟩) l.length ch.length l ch (Br.rt T d w3) hl hcl (tks_rt O3) (ins_rt (Go.Proofs.Ytpmmimcafkillaa.ins_own Q3)))) (gc_belL B3 hg) (fun v w T d h => h.rt) (fun v w' h => belL_pz h.choose_spec.choose_spec.2.2) zF18 (by simp [zK]) Try.func18 rfl rfl rfl rfl rfl (by k_ne) (by simp [Act.eval]) (fun v w4 h4 => ?_)
  obtain ⟨b3, c3, rfl, I3, k4⟩ := h4
  have B4 := B3.trans k4 B3.size
  have O4 := tks_low k4 O3
  have Q4 := own_belL Q3 k4
  clear B3 O3 Q3
  walk_nrm
  clear O4
  clear Q4
  have N3 : W.heap.size ≤ w4.heap.size := B4.size
  have C4 : BelL w4.heap.size w4 w4 := ⟨.refl _, rfl, Nat.le_refl _, fun _ _ => rfl⟩
  (repeat (first | refine kA ?_ | refine kB ?_ | refine kC ?_ | refine kF ?_ | (refine kG ?_; simp only [List.size_toArray, List.length_cons, List.length_nil, Nat.reduceAdd, Nat.zero_add, List.range, List.range.loop]) | (refine kO rfl (by rfl) (by decide) (by decide) (fun dzz Kzz hKzz => ?_); go_simp; refine hKzz _ _ (fun b hb => hb) (bt_at ?_); clear hKzz Kzz; try walk_nrm) | (refine bt_skip rfl (by rfl) ?_; try walk_nrm)))
  refine bt_call (R := RToX w4 l) zgOk (fun T d => totsX_B (cap := cap) p1 pm (tks_low B4 hT)) (gc_belL B4 hg) (fun v w T d h => h.rt) (fun v w' h => belL_pz h.choose_spec.2.2) zF24 (by simp [zK]) Try.func24 rfl rfl rfl rfl rfl (by k_ne) (by simp [Act.eval]) (fun v w5 h5 => ?_)
  obtain ⟨b4, rfl, X5, k5⟩ := h5
  have B5 := B4.trans k5 B4.size
  have C5 := C4.trans k5 C4.size
  clear B4 C4
  walk_nrm
  have N4 : w4.heap.size ≤ w5.heap.size := k5.size
  (repeat (first | refine kA ?_ | refine kB ?_ | refine kC ?_ | refine kF ?_ | (refine kG ?_; simp only [List.size_toArray, List.length_cons, List.length_nil, Nat.reduceAdd, Nat.zero_add, List.range, List.range.loop]) | (refine kO rfl (by rfl) (by decide) (by decide) (fun dzz Kzz hKzz => ?_); go_simp; refine hKzz _ _ (fun b hb => hb) (bt_at ?_); clear hKzz Kzz; try walk_nrm) | (refine bt_skip rfl (by rfl) ?_; try walk_nrm)))
  refine bt_call (R := RToI w5 ch) zgOk (fun T d => toi_B (cap := c) pch (ins_low B5 hI)) (gc_belL B5 hg) (fun v w T d h => h.rt) (fun v w' h => belL_pz h.choose_spec.2.2.2) zF32 (by simp [zK]) Try.func32 rfl rfl rfl rfl rfl (by k_ne) (by simp [Act.eval]) (fun v w6 h6 => ?_)
  obtain ⟨b5, rfl, hb5, P6, k6⟩ := h6
  have B6 := B5.trans k6 B5.size
  have C6 := C5.trans k6 C5.size
  have X6 := to_belL X5 k6
  clear B5 C5 X5
  walk_nrm
  have N5 : b5 < w6.heap.size := Go.Proofs.Ytpmmimcafkillaa.own_lt P6
  (repeat (first | refine kA ?_ | refine kB ?_ | refine kC ?_ | refine kF ?_ | (refine kG ?_; simp only [List.size_toArray, List.length_cons, List.length_nil, Nat.reduceAdd, Nat.zero_add, List.range, List.range.loop]) | (refine kO rfl (by rfl) (by decide) (by decide) (fun dzz Kzz hKzz => ?_); go_simp; refine hKzz _ _ (fun b hb => hb) (bt_at ?_); clear hKzz Kzz; try walk_nrm) | (refine bt_skip rfl (by rfl) ?_; try walk_nrm)))
  refine bt_callB (dirty_B (cap := l.length) (c := ch.length) hl (X6.tks hx) hcl (Go.Proofs.Ytpmmimcafkillaa.ins_own P6) (gc_belL B6 hg) (Nat.le_trans hTh B6.size)) Try.func16 nm16 b16 rfl rfl rfl (by k_ne) (by simp [Act.eval]) (fun v w7 h7 => ?_)
  obtain ⟨b6, c6, rfl, G7, k7⟩ := h7
  rw [hR] at G7
  rw [hR]
  have B7 := B6.trans k7 B6.size
  have C7 := C6.trans k7 C6.size
  have X7 := to_belL X6 k7
  have P7 := own_belL P6 k7
  clear B6 C6 X6 P6
  walk_nrm
  have hb6 : w6.heap.size ≤ b6 := Go.Proofs.Ytpmmimcafkillaa.own_ge G7
  (repeat (first | refine kA ?_ | refine kB ?_ | refine kC ?_ | refine kF ?_ | (refine kG ?_; simp only [List.size_toArray, List.length_cons, List.length_nil, Nat.reduceAdd, Nat.zero_add, List.range, List.range.loop]) | (refine kO rfl (by rfl) (by decide) (by decide) (fun dzz Kzz hKzz => ?_); go_simp; refine hKzz _ _ (fun b hb => hb) (bt_at ?_); clear hKzz Kzz; try walk_nrm) | (refine bt_skip rfl (by rfl) ?_; try walk_nrm)))
  refine bt_call (R := RTr w7) zgOk (fun T d => eqi_B (l := R) (cap := c6) (cb := c3) (by omega) (Go.Proofs.Ytpmmimcafkillaa.ins_own G7) (ins_low C7 I3)) (gc_belL B7 hg) (fun v w T d h => h.rt) (fun v w' h => belL_pz h.2) zF25 (by simp [zK]) Try.func25 rfl rfl rfl rfl rfl (by k_ne) (by simp [Act.eval]) (fun v w8 h8 => ?_)
  obtain ⟨rfl, k8⟩ := h8
  have B8 := B7.trans k8 B7.size
  have C8 := C7.trans k8 C7.size
  have X8 := to_belL X7 k8
  have P8 := own_belL P7 k8
  have G8 := own_belL G7 k8
  clear B7 C7 X7 P7 G7
  walk_nrm
  (repeat (first | refine kA ?_ | refine kB ?_ | refine kC ?_ | refine kF ?_ | (refine kG ?_; simp only [List.size_toArray, List.length_cons, List.length_nil, Nat.reduceAdd, Nat.zero_add, List.range, List.range.loop]) | (refine kO rfl (by rfl) (by decide) (by decide) (fun dzz Kzz hKzz => ?_); go_simp; refine hKzz _ _ (fun b hb => hb) (bt_at ?_); clear hKzz Kzz; try walk_nrm) | (refine bt_skip rfl (by rfl) ?_; try walk_nrm)))
  (refine kI rfl ?_)
  refine kB ?_
  have h2 := fun y2 y3 y4 y5 y10 y11 y12 y13 y14 y15 y16 y17 y18 y19 y20 y21 y22 y23 y24 y25 y26 y27 y28 y29 y30 y31 y32 y33 y34 y35 y36 y37 y38 y39 y40 y41 y42 y43 y44 y45 y46 y47 y48 y49 y50 y51 y52 y53 y54 y55 y56 y57 y58 y59 y60 y61 y62 y63 y64 y65 y66 y67 y68 y69 y70 y71 y72 y73 y74 y75 y76 y77 y78 y79 y80 y81 y82 y83 y84 y85 y86 y87 y88 y89 => lawDt2 (c3 := c3) a cap l p c ch hl hT hcl hI hg hTh ptot pch pm hx hR hRl N3 I3 N4 hb5 N5 hb6 B8 C8 X8 P8 G8 y2 y3 y4 y5 y10 y11 y12 y13 y14 y15 y16 y17 y18 y19 y20 y21 y22 y23 y24 y25 y26 y27 y28 y29 y30 y31 y32 y33 y34 y35 y36 y37 y38 y39 y40 y41 y42 y43 y44 y45 y46 y47 y48 y49 y50 y51 y52 y53 y54 y55 y56 y57 y58 y59 y60 y61 y62 y63 y64 y65 y66 y67 y68 y69 y70 y71 y72 y73 y74 y75 y76 y77 y78 y79 y80 y81 y82 y83 y84 y85 y86 y87 y88 y89
  simp only [sdc, Try.f8, Option.getD_some] at h2
  exact h2 _ _ _ _ _ _ _ _ _ _ _ _ _ _ _ _ _ _ _ _ _ _ _ _ _ _ _ _ _ _ _ _ _ _ _ _ _ _ _ _ _ _ _ _ _ _ _ _ _ _ _ _ _ _ _ _ _ _ _ _ _ _ _ _ _ _ _ _ _ _ _ _ _ _ _ _ _ _ _ _ _ _ _ _
end Go.Proofs.Ytpmmimcafkillaa.Tr
