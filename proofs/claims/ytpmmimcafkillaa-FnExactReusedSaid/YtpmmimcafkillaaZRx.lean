/-
  FnExactReused: the law, its last part.
-/
import Derived.Test.YtpmmimcafkillaaZRw
set_option linter.unusedVariables false
set_option linter.unusedSimpArgs false
namespace Go.Proofs.Ytpmmimcafkillaa.Tr
open Go Go.Conc Go.RowKit
open Go.Proofs.Ytpmmimcafkillaa.Br (BT BTS Hd Hid Pz Pst Shn Thr EvN bt_ctl bt_cons bt_skip bt_call bt_callB bt_enter CallsB rt AtEnd0)
open Go.Proofs.Ytpmmimcafkillaa.Rs (Rule outOf out_at out_len resR crR dtR hst gmx)
open Go.Proofs.Ytpmmimcafkillaa (Tv Tks Ins jobOk job_tok TOk job_short tot tot_mem TO TX OwnI Mkd row_ownX iv reuOf sreu_any ruk_len)
theorem bt_endK [Thr] {w W : World} {a : Act} {todo : List Item} (hd : a.defers = []) (h : a.tmps.getD 4 undef = .bool true) (hw : BelL W.heap.size W w) : BT Try.prog (AtEnd0 Try.prog (PostL W)) (G { (base 6).at a todo with mode := .returning } []) w := by
  refine Br.BT.done ⟨rfl, fun X => ⟨.bool true, ?_, rfl, hw⟩⟩
  have h2 : a.tmps[4]?.getD undef = .bool true := by rw [← h, Array.getD_eq_getD_getElem?]
  simp [G, stepG, unwind, doReturn, results, Frame.at, base, Try.func6, Try.f6, seen, GStep.after, hd, h2]
theorem tks_rt {w : World} {a : Option Addr} {ts : List Tv} {T : Nat → Question → Nat} {d : Nat} (h : Tks w a ts) : Tks (Br.rt T d w) a ts := h
theorem nm20 : (Try.f20.name == "runtime.NumGoroutine") = false := by kernel_rfl
theorem b20 : Try.f20.body.isNone = false := by kernel_rfl
theorem zF30 : Zg.F 30 = true := by kernel_rfl
theorem to_rng {X : Nat → Prop} {lo hi k B : Nat} {ts : List Tv} {w w1 : World} (h : TO lo hi w B ts k) (hb : RngL X w w1) (hX : ∀ j, lo ≤ j → ¬ X j) : TO lo hi w1 B ts k := by
  obtain ⟨cur, h1, h2, h3⟩ := h.blk
  refine ⟨h.ge, h.lt, cur, (hb.block B (Array.getElem?_eq_some_iff.1 h1).1 (hX B h.ge)).trans h1, h2, fun j t ht hj => ?_⟩
  obtain ⟨g, g1, c0, c1, c2, c3, g3⟩ := h3 j t ht hj
  exact ⟨g, g1, c0, c1, c2, c3, own_rng g3 hb (hX g (Go.Proofs.Ytpmmimcafkillaa.own_ge g3))⟩
theorem reu_len {ps bs : List Tv} : (reuOf ps bs).length ≤ 200 := by
  unfold reuOf
  split
  · next h => rw [ruk_len]; exact job_short (Bool.and_eq_true_iff.1 h).2
  · simp
set_option maxRecDepth 100000 in
set_option maxHeartbeats 16000000 in
theorem lawRu3 [Thr] {W : World} (a : Option Addr) (cap : Nat) (l : List Tv) (p : Option Addr) (c : Nat) (m : List Tv) (hl : l.length ≤ maxLen) (hT : Tks W a l) (hml : m.length ≤ maxLen) (hM : Tks W p m) (hg : Br.GC Try.prog W) (hTh : Thr.N ≤ W.heap.size) (ptot : l.length + tot l ≤ 1048576) (qtot : m.length + tot m ≤ 1048576) (pm : ∀ t ∈ l, t.2.2.1.length ≤ 1048576) (qm : ∀ t ∈ m, t.2.2.1.length ≤ 1048576) (hx : ∀ t ∈ l, t.2.2.1.length ≤ maxLen) (hy : ∀ t ∈ m, t.2.2.1.length ≤ maxLen) {R : List Int} (hR : reuOf l m = R) (hRl : R.length ≤ 200)
    {wc wp w16 : World} {b3 c3 b6 c6 : Nat} (N3 : W.heap.size ≤ wc.heap.size) (I3 : Ins wc (some ⟨b3, 0, none⟩) R) (hc6 : wc.heap.size ≤ b6) (B16 : BelL W.heap.size W w16) (C16 : BelL wc.heap.size wc w16) (G16 : OwnI w16 wp.heap.size b6 R.length c6 R) (y2 y3 y4 y5 y7 y8 y10 y11 y12 y13 y14 y15 y16 y17 y18 y19 y20 y21 y22 y23 y24 y25 y26 y27 y28 y29 y30 y31 y32 y33 y34 y35 y36 y37 y38 y39 y40 y41 y42 y43 y44 y45 y46 y47 y48 y49 y50 y51 y52 y53 y54 y55 y56 y57 y58 y59 y60 y61 y62 y63 y64 y65 y66 y67 y68 y69 y70 y71 y72 y73 y74 y75 y76 y77 y78 y79 y80 y81 y82 y83 y84 y85 y86 y87 y88 y89 y90 y91 : Value) :
    BT Try.prog (AtEnd0 Try.prog (PostL W)) (G ((base 6).at ⟨#[.slice a l.length cap, .slice p m.length c, y2, y3, y4, y5, .slice (some ⟨b3, 0, none⟩) R.length c3, y7, y8, .slice (some ⟨b6, 0, none⟩) R.length c6, y10, y11, y12, y13, y14, y15, y16, y17, y18, y19, y20, y21, y22, y23, y24, y25, y26, y27, y28, y29, y30, y31, y32, y33, y34, y35, y36, y37, y38, y39, y40, y41, y42, y43, y44, y45, y46, y47, y48, y49, y50, y51, y52, y53, y54, y55, y56, y57, y58, y59, y60, y61, y62, y63, y64, y65, y66, y67, y68, y69, y70, y71, y72, y73, y74, y75, y76, y77, y78, y79, y80, y81, y82, y83, y84, y85, y86, y87, y88, y89, y90, y91], []⟩ [.code (sdc 17 (Try.f6.body.getD .skip))]) []) w16 := by
  simp only [sdc, Try.f6, Option.getD_some]
  obtain ⟨S, hS⟩ : ∃ S : Int, (1 : Int) + (R.length : Int) = S := ⟨_, rfl⟩
  have hS0 : decide (S < 0) = false := decide_eq_false (by omega)
  have hSS : (S != S) = false := by simp
  (repeat (first | refine kA ?_ | refine kB ?_ | refine kC ?_ | refine kF ?_ | (refine kG ?_; simp only [List.size_toArray, List.length_cons, List.length_nil, Nat.reduceAdd, Nat.zero_add, List.range, List.range.loop]) | (refine kO rfl (by rfl) (by decide) (by decide) (fun dzz Kzz hKzz => ?_); go_simp; refine hKzz _ _ (fun b hb => hb) (bt_at ?_); clear hKzz Kzz; try walk_nrm) | (refine bt_skip rfl (by rfl) ?_; try walk_nrm)))
  refine bt_call (R := RMi wp.heap.size b6 R.length c6 1 w16) zgOk (fun T d => marki_B (by omega) (by omega) (by omega) G16) (gc_belL B16 hg) (fun v w T d h => h.rt) (fun v w' h => h.2.2.pz) zF28 (by simp [zK]) Try.func28 rfl rfl rfl rfl rfl (by k_ne) (by simp [Act.eval]) (fun v w17 h17 => ?_)
  obtain ⟨rfl, ⟨ys, G17, mk⟩, k17⟩ := h17
  rw [hS]
  have B17 := B16.trans (k17.belL (N := W.heap.size) (fun k hk => by have := hk.1; omega) B16.size) (Nat.le_refl _)
  have C17 := C16.trans (k17.belL (N := wc.heap.size) (fun k hk => by have := hk.1; omega) C16.size) (Nat.le_refl _)
  clear B16 C16 G16
  walk_nrm
  (repeat (first | refine kA ?_ | refine kB ?_ | refine kC ?_ | refine kF ?_ | (refine kG ?_; simp only [List.size_toArray, List.length_cons, List.length_nil, Nat.reduceAdd, Nat.zero_add, List.range, List.range.loop]) | (refine kO rfl (by rfl) (by decide) (by decide) (fun dzz Kzz hKzz => ?_); go_simp; refine hKzz _ _ (fun b hb => hb) (bt_at ?_); clear hKzz Kzz; try walk_nrm) | (refine bt_skip rfl (by rfl) ?_; try walk_nrm)))
  refine bt_call (R := PInt w17 (1 + (R.length : Int))) zgOk (fun T d => heldi_B (by omega) (by omega) (by omega) G17 mk) (gc_belL B17 hg) (fun v w T d h => h.rt) (fun v w' h => belL_pz h.2) zF29 (by simp [zK]) Try.func29 rfl rfl rfl rfl rfl (by k_ne) (by simp [Act.eval]) (fun v w18 h18 => ?_)
  obtain ⟨rfl, k18⟩ := h18
  rw [hS]
  have B18 := B17.trans k18 B17.size
  have C18 := C17.trans k18 C17.size
  have G18 := own_belL G17 k18
  clear B17 C17 G17
  walk_nrm
  (repeat (first | refine kA ?_ | refine kB ?_ | refine kC ?_ | refine kF ?_ | (refine kG ?_; simp only [List.size_toArray, List.length_cons, List.length_nil, Nat.reduceAdd, Nat.zero_add, List.range, List.range.loop]) | (refine kO rfl (by rfl) (by decide) (by decide) (fun dzz Kzz hKzz => ?_); go_simp; refine hKzz _ _ (fun b hb => hb) (bt_at ?_); clear hKzz Kzz; try walk_nrm) | (refine bt_skip rfl (by rfl) ?_; try walk_nrm)))
  (refine kI rfl ?_)
  (repeat (first | refine kA ?_ | refine kB ?_ | refine kC ?_ | refine kF ?_ | (refine kG ?_; simp only [List.size_toArray, List.length_cons, List.length_nil, Nat.reduceAdd, Nat.zero_add, List.range, List.range.loop]) | (refine kO rfl (by rfl) (by decide) (by decide) (fun dzz Kzz hKzz => ?_); go_simp; refine hKzz _ _ (fun b hb => hb) (bt_at ?_); clear hKzz Kzz; try walk_nrm) | (refine bt_skip rfl (by rfl) ?_; try walk_nrm)))
  (refine kI rfl ?_)
  (repeat (first | refine kA ?_ | refine kB ?_ | refine kC ?_ | refine kF ?_ | (refine kG ?_; simp only [List.size_toArray, List.length_cons, List.length_nil, Nat.reduceAdd, Nat.zero_add, List.range, List.range.loop]) | (refine kO rfl (by rfl) (by decide) (by decide) (fun dzz Kzz hKzz => ?_); go_simp; refine hKzz _ _ (fun b hb => hb) (bt_at ?_); clear hKzz Kzz; try walk_nrm) | (refine bt_skip rfl (by rfl) ?_; try walk_nrm)))
  refine bt_call (R := RTo w18 l) zgOk (tots_B (cap := cap) (by omega) pm hx (tks_low B18 hT)) (gc_belL B18 hg) (fun v w T d h => h.rt) (fun v w' h => belL_pz h.choose_spec.2.2) zF24 (by simp [zK]) Try.func24 rfl rfl rfl rfl rfl (by k_ne) (by simp [Act.eval]) (fun v w19 h19 => ?_)
  obtain ⟨b18, rfl, O19, k19⟩ := h19
  have B19 := B18.trans k19 B18.size
  have C19 := C18.trans k19 C18.size
  have G19 := own_belL G18 k19
  clear B18 C18 G18
  walk_nrm
  (repeat (first | refine kA ?_ | refine kB ?_ | refine kC ?_ | refine kF ?_ | (refine kG ?_; simp only [List.size_toArray, List.length_cons, List.length_nil, Nat.reduceAdd, Nat.zero_add, List.range, List.range.loop]) | (refine kO rfl (by rfl) (by decide) (by decide) (fun dzz Kzz hKzz => ?_); go_simp; refine hKzz _ _ (fun b hb => hb) (bt_at ?_); clear hKzz Kzz; try walk_nrm) | (refine bt_skip rfl (by rfl) ?_; try walk_nrm)))
  refine bt_call (R := RTo w19 m) zgOk (tots_B (cap := c) (by omega) qm hy (tks_low B19 hM)) (gc_belL B19 hg) (fun v w T d h => h.rt) (fun v w' h => belL_pz h.choose_spec.2.2) zF24 (by simp [zK]) Try.func24 rfl rfl rfl rfl rfl (by k_ne) (by simp [Act.eval]) (fun v w20 h20 => ?_)
  obtain ⟨b19, rfl, Q20, k20⟩ := h20
  have B20 := B19.trans k20 B19.size
  have C20 := C19.trans k20 C19.size
  have G20 := own_belL G19 k20
  have O20 := tks_low k20 O19
  clear B19 C19 G19 O19
  walk_nrm
  (repeat (first | refine kA ?_ | refine kB ?_ | refine kC ?_ | refine kF ?_ | (refine kG ?_; simp only [List.size_toArray, List.length_cons, List.length_nil, Nat.reduceAdd, Nat.zero_add, List.range, List.range.loop]) | (refine kO rfl (by rfl) (by decide) (by decide) (fun dzz Kzz hKzz => ?_); go_simp; refine hKzz _ _ (fun b hb => hb) (bt_at ?_); clear hKzz Kzz; try walk_nrm) | (refine bt_skip rfl (by rfl) ?_; try walk_nrm)))
  refine bt_callB (reu_B (cap := l.length) (cb := m.length) hl hml O20 Q20 (gc_belL B20 hg) (Nat.le_trans hTh B20.size)) Try.func20 nm20 b20 rfl rfl rfl (by k_ne) (by simp [Act.eval]) (fun v w21 h21 => ?_)
  obtain ⟨b20, c20, rfl, H21, k21⟩ := h21
  rw [hR] at H21
  rw [hR]
  have B21 := B20.trans k21 B20.size
  have C21 := C20.trans k21 C20.size
  have G21 := own_belL G20 k21
  have O21 := tks_low k21 O20
  have Q21 := tks_low k21 Q20
  clear B20 C20 G20 O20 Q20
  walk_nrm
  clear O21
  clear Q21
  (repeat (first | refine kA ?_ | refine kB ?_ | refine kC ?_ | refine kF ?_ | (refine kG ?_; simp only [List.size_toArray, List.length_cons, List.length_nil, Nat.reduceAdd, Nat.zero_add, List.range, List.range.loop]) | (refine kO rfl (by rfl) (by decide) (by decide) (fun dzz Kzz hKzz => ?_); go_simp; refine hKzz _ _ (fun b hb => hb) (bt_at ?_); clear hKzz Kzz; try walk_nrm) | (refine bt_skip rfl (by rfl) ?_; try walk_nrm)))
  refine bt_call (R := RTr w21) zgOk (fun T d => eqi_B (l := R) (cap := c20) (cb := c3) (by omega) (Go.Proofs.Ytpmmimcafkillaa.ins_own H21) (ins_low C21 I3)) (gc_belL B21 hg) (fun v w T d h => h.rt) (fun v w' h => belL_pz h.2) zF25 (by simp [zK]) Try.func25 rfl rfl rfl rfl rfl (by k_ne) (by simp [Act.eval]) (fun v w22 h22 => ?_)
  obtain ⟨rfl, k22⟩ := h22
  have B22 := B21.trans k22 B21.size
  have C22 := C21.trans k22 C21.size
  have G22 := own_belL G21 k22
  have H22 := own_belL H21 k22
  clear B21 C21 G21 H21
  walk_nrm
  (repeat (first | refine kA ?_ | refine kB ?_ | refine kC ?_ | refine kF ?_ | (refine kG ?_; simp only [List.size_toArray, List.length_cons, List.length_nil, Nat.reduceAdd, Nat.zero_add, List.range, List.range.loop]) | (refine kO rfl (by rfl) (by decide) (by decide) (fun dzz Kzz hKzz => ?_); go_simp; refine hKzz _ _ (fun b hb => hb) (bt_at ?_); clear hKzz Kzz; try walk_nrm) | (refine bt_skip rfl (by rfl) ?_; try walk_nrm)))
  (refine kI rfl ?_)
  (repeat (first | refine kA ?_ | refine kB ?_ | refine kC ?_ | refine kF ?_ | (refine kG ?_; simp only [List.size_toArray, List.length_cons, List.length_nil, Nat.reduceAdd, Nat.zero_add, List.range, List.range.loop]) | (refine kO rfl (by rfl) (by decide) (by decide) (fun dzz Kzz hKzz => ?_); go_simp; refine hKzz _ _ (fun b hb => hb) (bt_at ?_); clear hKzz Kzz; try walk_nrm) | (refine bt_skip rfl (by rfl) ?_; try walk_nrm)))
  refine bt_call (R := PInt w22 (1 + (R.length : Int))) zgOk (fun T d => heldi_B (by omega) (by omega) (by omega) G22 mk) (gc_belL B22 hg) (fun v w T d h => h.rt) (fun v w' h => belL_pz h.2) zF29 (by simp [zK]) Try.func29 rfl rfl rfl rfl rfl (by k_ne) (by simp [Act.eval]) (fun v w23 h23 => ?_)
  obtain ⟨rfl, k23⟩ := h23
  rw [hS]
  have B23 := B22.trans k23 B22.size
  have C23 := C22.trans k23 C22.size
  have G23 := own_belL G22 k23
  have H23 := own_belL H22 k23
  clear B22 C22 G22 H22
  walk_nrm
  (repeat (first | refine kA ?_ | refine kB ?_ | refine kC ?_ | refine kF ?_ | (refine kG ?_; simp only [List.size_toArray, List.length_cons, List.length_nil, Nat.reduceAdd, Nat.zero_add, List.range, List.range.loop]) | (refine kO rfl (by rfl) (by decide) (by decide) (fun dzz Kzz hKzz => ?_); go_simp; refine hKzz _ _ (fun b hb => hb) (bt_at ?_); clear hKzz Kzz; try walk_nrm) | (refine bt_skip rfl (by rfl) ?_; try walk_nrm)))
  (refine kI rfl ?_)
  (repeat (first | refine kA ?_ | refine kB ?_ | refine kC ?_ | refine kF ?_ | (refine kG ?_; simp only [List.size_toArray, List.length_cons, List.length_nil, Nat.reduceAdd, Nat.zero_add, List.range, List.range.loop]) | (refine kO rfl (by rfl) (by decide) (by decide) (fun dzz Kzz hKzz => ?_); go_simp; refine hKzz _ _ (fun b hb => hb) (bt_at ?_); clear hKzz Kzz; try walk_nrm) | (refine bt_skip rfl (by rfl) ?_; try walk_nrm)))
  (refine kI rfl ?_)
  (repeat (first | refine kA ?_ | refine kB ?_ | refine kC ?_ | refine kF ?_ | (refine kG ?_; simp only [List.size_toArray, List.length_cons, List.length_nil, Nat.reduceAdd, Nat.zero_add, List.range, List.range.loop]) | (refine kO rfl (by rfl) (by decide) (by decide) (fun dzz Kzz hKzz => ?_); go_simp; refine hKzz _ _ (fun b hb => hb) (bt_at ?_); clear hKzz Kzz; try walk_nrm) | (refine bt_skip rfl (by rfl) ?_; try walk_nrm)))
  exact bt_endK rfl rfl B23
end Go.Proofs.Ytpmmimcafkillaa.Tr
