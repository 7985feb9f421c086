/-
  FnFarmed: what its functions answer; the law, its last region.
-/
import Derived.Test.YtpmmimcafkillaaZUe
import Derived.Test.YtpmmimcafkillaaZUj
import Derived.Test.YtpmmimcafkillaaZUh
import Derived.Test.YtpmmimcafkillaaZUi
import Derived.Test.YtpmmimcafkillaaZFmS
set_option linter.unusedVariables false
set_option linter.unusedSimpArgs false
namespace Go.Proofs.Ytpmmimcafkillaa
open Go.RowKit
theorem flK_len (l : List Kl) : (flK l).length = l.length * 4 := by
  induction l with
  | nil => rfl
  | cons x l ih => simp [flK, ih]; omega
theorem flK_get {l : List Kl} {j : Nat} {x : Kl} (h : l[j]? = some x) : (flK l)[j * 4]? = some (iv x.1) ∧ (flK l)[j * 4 + 1]? = some (iv x.2.1) ∧ (flK l)[j * 4 + 2]? = some (iv x.2.2.1) ∧ (flK l)[j * 4 + 3]? = some (iv x.2.2.2) := by
  induction l generalizing j with
  | nil => simp at h
  | cons y l ih =>
    cases j with
    | zero => simp at h; subst h; exact ⟨rfl, rfl, rfl, rfl⟩
    | succ j =>
      have h' : l[j]? = some x := by simpa using h
      have := ih h'
      have e0 : (j + 1) * 4 = j * 4 + 1 + 1 + 1 + 1 := by omega
      have e1 : (j + 1) * 4 + 1 = j * 4 + 1 + 1 + 1 + 1 + 1 := by omega
      have e2 : (j + 1) * 4 + 2 = j * 4 + 2 + 1 + 1 + 1 + 1 := by omega
      have e3 : (j + 1) * 4 + 3 = j * 4 + 3 + 1 + 1 + 1 + 1 := by omega
      rw [e3, e2, e1, e0]
      simpa [flK] using this
theorem own_len {w : World} {B g n cap : Nat} {l : List Kl} (h : Own w B g n cap l) : l.length = n := by
  have hl : (flK l).length = n * 4 := h.1
  rw [flK_len] at hl; omega
theorem own_cells {w : World} {B g n cap k : Nat} {l : List Kl} {x : Kl} (hk : l[k]? = some x) (h : Own w B g n cap l) :
    w.cell? ⟨g, k * 4, none⟩ = some (.int .i64 x.1) ∧ w.cell? ⟨g, k * 4 + 1, none⟩ = some (.int .i64 x.2.1) ∧ w.cell? ⟨g, k * 4 + 2, none⟩ = some (.int .i64 x.2.2.1) ∧ w.cell? ⟨g, k * 4 + 3, none⟩ = some (.int .i64 x.2.2.2) := by
  have hl := own_len h
  have hj : k < l.length := (List.getElem?_eq_some_iff.1 hk).1
  obtain ⟨a0, a1, a2, a3⟩ := flK_get hk
  exact ⟨(h.cellAt (k * 4) (by omega)).trans a0, (h.cellAt (k * 4 + 1) (by omega)).trans a1, (h.cellAt (k * 4 + 2) (by omega)).trans a2, (h.cellAt (k * 4 + 3) (by omega)).trans a3⟩
theorem kls_own {w : World} {B g n cap : Nat} {l : List Kl} (h : Own w B g n cap l) : Kls w (some ⟨g, 0, none⟩) l := by
  intro j z hj
  obtain ⟨c0, c1, c2, c3⟩ := own_cells hj h
  exact ⟨g, 0, rfl, own_lt h, by rw [Nat.zero_add]; exact c0, by rw [Nat.zero_add]; exact c1, by rw [Nat.zero_add]; exact c2, by rw [Nat.zero_add]; exact c3⟩
end Go.Proofs.Ytpmmimcafkillaa
namespace Go.Proofs.Ytpmmimcafkillaa.Tr
open Go Go.Conc Go.RowKit
open Go.Proofs.Ytpmmimcafkillaa.Br (BT BTS Hd Hid Pz Pst Shn Thr EvN bt_ctl bt_cons bt_skip bt_call bt_callB bt_enter CallsB rt AtEnd0)
open Go.Proofs.Ytpmmimcafkillaa.Rs (Rule outOf out_at out_len resR crR dtR hst gmx)
open Go.Proofs.Ytpmmimcafkillaa (Tv Tks Ins jobOk job_tok TOk job_short tot tot_mem OwnI iv zall spanOf farmOf FarmOk LE farm_ok farm_one farm_many Kl Kls RdB FmD dfm_any AnR ifarm_any sfarm_any ispan_any ins_own own_lt own_ge)
theorem bt_endK [Thr] {w W : World} {a : Act} {todo : List Item} (hd : a.defers = []) (h : a.tmps.getD 2 undef = .bool true) (hw : BelL W.heap.size W w) : BT Try.prog (AtEnd0 Try.prog (PostL W)) (G { (base 3).at a todo with mode := .returning } []) w := by
  refine Br.BT.done ⟨rfl, fun X => ⟨.bool true, ?_, rfl, hw⟩⟩
  have h2 : a.tmps[2]?.getD undef = .bool true := by rw [← h, Array.getD_eq_getD_getElem?]
  simp [G, stepG, unwind, doReturn, results, Frame.at, base, Try.func3, Try.f3, seen, GStep.after, hd, h2]
/-! what the law's lone functions answer, whatever the draws -/
def RBo (w : World) (b : Bool) (v : Value) (w' : World) : Prop := v = .bool b ∧ BelL w.heap.size w w'
theorem RBo.rt {w w' : World} {b : Bool} {v : Value} {T : Nat → Question → Nat} {d : Nat} (h : RBo w b v w') : RBo w b v (Br.rt T d w') := ⟨h.1, h.2.rtt⟩
def RFd (w : World) (v : Value) (w' : World) : Prop := ∃ G n c x, v = .tuple #[.slice (some ⟨G, 0, none⟩) n c, .int .i64 x] ∧ n ≤ 210 ∧ -1 ≤ x ∧ x ≤ 51 ∧ (∃ ts : List Tv, ts.length = n ∧ Tks w' (some ⟨G, 0, none⟩) ts) ∧ BelL w.heap.size w w'
theorem RFd.rt {w w' : World} {v : Value} {T : Nat → Question → Nat} {d : Nat} (h : RFd w v w') : RFd w v (Br.rt T d w') := let ⟨G, n, c, x, h1, h2, h3, h4, h5, h6⟩ := h; ⟨G, n, c, x, h1, h2, h3, h4, h5, h6.rtt⟩
def RFm (w : World) (L : List Kl) (v : Value) (w' : World) : Prop := ∃ G c, v = .slice (some ⟨G, 0, none⟩) L.length c ∧ Kls w' (some ⟨G, 0, none⟩) L ∧ BelL w.heap.size w w'
theorem RFm.rt {w w' : World} {L : List Kl} {v : Value} {T : Nat → Question → Nat} {d : Nat} (h : RFm w L v w') : RFm w L v (Br.rt T d w') := let ⟨G, c, h1, h2, h3⟩ := h; ⟨G, c, h1, h2, h3.rtt⟩
theorem kls_low {w w' : World} {a : Option Addr} {l : List Kl} (hB : BelL w.heap.size w w') (h : Kls w a l) : Kls w' a l := by
  intro j x hx
  obtain ⟨b, o, e, h1, c0, c1, c2, c3⟩ := h j x hx
  have C : ∀ {ad : Addr} {v : Value}, w.cell? ad = some v → w'.cell? ad = some v := fun hc => cell_blk (hB.block _ (World.block_lt_of_cell? _ _ hc)) hc
  exact ⟨b, o, e, Nat.lt_of_lt_of_le h1 hB.size, C c0, C c1, C c2, C c3⟩
set_option maxHeartbeats 400000 in
theorem big_any (a : Option Addr) (len cap : Nat) (w : World) : Calls Try.prog 9 #[.slice a len cap] w fun e w' => e = .returned (.bool (decide ((4096 : Int) < len))) ∧ w' = w := by
  go_enter Try.func9, Try.ntmps9
  go_wp2
  go_ret
  exact ⟨rfl, rfl⟩
section
variable {ts : List Tv} {w : World} {a : Option Addr} {cap : Nat} {T : Nat → Question → Nat} {d : Nat}
theorem big_B {len : Nat} {b : Bool} (hb : decide ((4096 : Int) < len) = b) : Calls Try.prog 9 #[.slice a len cap] (Br.rt T d w) fun e w' => ∃ v, e = .returned v ∧ RBo w b v w' :=
  calls_imp (big_any a len cap (Br.rt T d w)) fun e w' h => ⟨_, h.1, by rw [hb], by rw [h.2]; exact belL_any (w := w) (Below.refl _ _)⟩
theorem dfm_B {len : Nat} (hl : len ≤ 4096) (hr : RdB w w.heap.size a len) : Calls Try.prog 10 #[.slice a len cap] (Br.rt T d w) fun e w' => ∃ v, e = .returned v ∧ RFd w v w' :=
  calls_imp (dfm_any a len cap (Br.rt T d w) hl hr) fun e w' ⟨G, n, c, x, h1, h2, h3, h4, h5, h6⟩ => ⟨_, h1, G, n, c, x, rfl, h2, h3, h4, h5, belL_any (w := w) h6⟩
theorem ifm_B {W : Int} (hl : ts.length ≤ maxLen) (hT : Tks w a ts) : Calls Try.prog 11 #[.slice a ts.length cap, .int .i64 W] (Br.rt T d w) fun e w' => ∃ v, e = .returned v ∧ RFm w (farmOf ts W) v w' :=
  calls_imp (ifarm_any a cap ts W (Br.rt T d w) hl hT) fun e w' ⟨G, c, h1, _, h3, h4⟩ => ⟨_, h1, G, c, rfl, Go.Proofs.Ytpmmimcafkillaa.kls_own h3, belL_any (w := w) h4⟩
theorem sfm_B {W : Int} (hl : ts.length ≤ maxLen) (hT : Tks w a ts) : Calls Try.prog 12 #[.slice a ts.length cap, .int .i64 W] (Br.rt T d w) fun e w' => ∃ v, e = .returned v ∧ RFm w (farmOf ts W) v w' :=
  calls_imp (sfarm_any a cap ts W (Br.rt T d w) hl hT) fun e w' ⟨G, c, h1, _, h3, h4⟩ => ⟨_, h1, G, c, rfl, Go.Proofs.Ytpmmimcafkillaa.kls_own h3, belL_any (w := w) h4⟩
theorem isp_B {l : List Kl} {z : Int} (hl : l.length ≤ 1048576) (hK : Kls w a l) (hz : spanOf l = z) : Calls Try.prog 13 #[.slice a l.length cap] (Br.rt T d w) fun e w' => ∃ v, e = .returned v ∧ PInt w z v w' :=
  calls_imp (ispan_any a cap l (Br.rt T d w) hl hK) fun e w' h => ⟨_, h.1, by rw [hz], belL_any (w := w) h.2⟩
end
theorem zF9 : Zg.F 9 = true := by kernel_rfl
theorem zF10 : Zg.F 10 = true := by kernel_rfl
theorem zF11 : Zg.F 11 = true := by kernel_rfl
theorem zF12 : Zg.F 12 = true := by kernel_rfl
theorem zF13 : Zg.F 13 = true := by kernel_rfl
set_option maxRecDepth 100000 in
set_option maxHeartbeats 16000000 in
theorem lawFa3 [Thr] {W w2 : World} {ts : List Tv} {L : List Kl} {J cJ g5 c5 : Nat} {Z S C : Int} (hl : ts.length ≤ maxLen) (h60 : L.length ≤ 60) (hf1 : (farmOf ts 1).length ≤ 1048576) (hf50 : (farmOf ts 50).length ≤ 1048576) (hz : zall ts = Z) (hZ : spanOf (farmOf ts 1) = Z) (hS : spanOf L = S) (hC : critOf ts = C) (hm : ts.length ≤ 50 → spanOf (farmOf ts 50) = C) (q2 : decide (C ≤ S) = true) (q3 : decide (S ≤ Z) = true) (hg : Br.GC Try.prog W) (hTh : Thr.N ≤ W.heap.size) (B2 : BelL W.heap.size W w2) (T2 : Tks w2 (some ⟨J, 0, none⟩) ts) (K2 : Kls w2 (some ⟨g5, 0, none⟩) L) (y0 y1 y2 y4 y6 y7 y8 y10 y11 y12 y13 y14 y15 y16 y17 y18 y19 y20 y21 y22 y23 y24 y25 y26 y27 y28 y29 y30 y31 y32 y33 y34 y35 y36 y37 y38 y39 y40 y41 y42 y43 y44 y45 y46 y47 y48 y49 y50 y51 y52 y53 y54 y55 y56 y57 y58 y59 y60 y61 y62 y63 y64 y65 y66 y67 y68 y69 y70 y71 y72 y73 y74 y75 y76 y77 y78 y79 y80 y81 y82 y83 y84 y85 y86 y87 y88 y89 y90 y91 y92 y93 y94 y95 y96 y97 y98 y99 y100 y101 y102 y103 y104 y105 y106 y107 y108 y109 y110 y111 y112 y113 y114 y115 y116 y117 y118 y119 y120 y121 y122 y123 y124 y125 y126 y127 y128 y129 y130 y131 y132 y133 y134 y135 y136 y137 y138 y139 y140 y141 y142 y143 y144 y145 y146 y147 y148 y149 y150 y151 y152 y153 y154 y155 y156 y157 y158 y159 y160 y161 y162 y163 y164 y165 y166 y167 y168 y169 y170 y171 y172 y173 y174 y175 y176 y177 y178 y179 y180 y181 y182 y183 y184 y185 y186 y187 y188 y189 y190 y191 y192 y193 y194 y195 y196 y197 y198 y199 y200 y201 y202 y203 y204 y205 y206 : Value) :
    BT Try.prog (AtEnd0 Try.prog (PostL W)) (G ((base 3).at ⟨#[y0, y1, y2, .slice (some ⟨J, 0, none⟩) ts.length cJ, y4, .slice (some ⟨g5, 0, none⟩) L.length c5, y6, y7, y8, .int .i64 Z, y10, y11, y12, y13, y14, y15, y16, y17, y18, y19, y20, y21, y22, y23, y24, y25, y26, y27, y28, y29, y30, y31, y32, y33, y34, y35, y36, y37, y38, y39, y40, y41, y42, y43, y44, y45, y46, y47, y48, y49, y50, y51, y52, y53, y54, y55, y56, y57, y58, y59, y60, y61, y62, y63, y64, y65, y66, y67, y68, y69, y70, y71, y72, y73, y74, y75, y76, y77, y78, y79, y80, y81, y82, y83, y84, y85, y86, y87, y88, y89, y90, y91, y92, y93, y94, y95, y96, y97, y98, y99, y100, y101, y102, y103, y104, y105, y106, y107, y108, y109, y110, y111, y112, y113, y114, y115, y116, y117, y118, y119, y120, y121, y122, y123, y124, y125, y126, y127, y128, y129, y130, y131, y132, y133, y134, y135, y136, y137, y138, y139, y140, y141, y142, y143, y144, y145, y146, y147, y148, y149, y150, y151, y152, y153, y154, y155, y156, y157, y158, y159, y160, y161, y162, y163, y164, y165, y166, y167, y168, y169, y170, y171, y172, y173, y174, y175, y176, y177, y178, y179, y180, y181, y182, y183, y184, y185, y186, y187, y188, y189, y190, y191, y192, y193, y194, y195, y196, y197, y198, y199, y200, y201, y202, y203, y204, y205, y206], []⟩ [.code (sdc 10 (Try.f3.body.getD .skip))]) []) w2 := by
  have q1 : (Z == Z) = true := by simp
  have q6 : (C == C) = true := by simp
  simp only [sdc, Try.f3, Option.getD_some]
  (repeat (first | refine kA ?_ | refine kB ?_ | refine kC ?_ | refine kF ?_ | (refine kG ?_; simp only [List.size_toArray, List.length_cons, List.length_nil, Nat.reduceAdd, Nat.zero_add, List.range, List.range.loop]) | (refine kO rfl (by rfl) (by decide) (by decide) (fun dzz Kzz hKzz => ?_); go_simp; refine hKzz _ _ (fun b hb => hb) (bt_at ?_); clear hKzz Kzz; try walk_nrm) | (refine bt_skip rfl (by rfl) ?_; try walk_nrm)))
  refine bt_call (R := RFm w2 (farmOf ts 1)) zgOk (fun T d => ifm_B (cap := cJ) hl T2) (gc_belL B2 hg) (fun v w T d h => h.rt) (fun v w' h => belL_pz h.choose_spec.choose_spec.2.2) zF11 (by simp [zK]) Try.func11 rfl rfl rfl rfl rfl (by k_ne) (by simp [Act.eval]) (fun v w3 h3 => ?_)
  obtain ⟨g1, c1, rfl, Q3, k3⟩ := h3
  have K3 := kls_low k3 K2
  have B3 := B2.trans k3 B2.size
  have T3 := tks_low k3 T2
  clear B2 T2
  clear K2
  walk_nrm
  refine bt_call (R := PInt w3 Z) zgOk (fun T d => isp_B (l := farmOf ts 1) (cap := c1) (by omega) Q3 hZ) (gc_belL B3 hg) (fun v w T d h => h.rt) (fun v w' h => belL_pz h.2) zF13 (by simp [zK]) Try.func13 rfl rfl rfl rfl rfl (by k_ne) (by simp [Act.eval]) (fun v w4 h4 => ?_)
  obtain ⟨rfl, k4⟩ := h4
  have K4 := kls_low k4 K3
  have Q4 := kls_low k4 Q3
  have B4 := B3.trans k4 B3.size
  have T4 := tks_low k4 T3
  clear B3 T3
  clear K3 Q3
  walk_nrm
  (repeat (first | refine kA ?_ | refine kB ?_ | refine kC ?_ | refine kF ?_ | (refine kG ?_; simp only [List.size_toArray, List.length_cons, List.length_nil, Nat.reduceAdd, Nat.zero_add, List.range, List.range.loop]) | (refine kO rfl (by rfl) (by decide) (by decide) (fun dzz Kzz hKzz => ?_); go_simp; refine hKzz _ _ (fun b hb => hb) (bt_at ?_); clear hKzz Kzz; try walk_nrm) | (refine bt_skip rfl (by rfl) ?_; try walk_nrm)))
  refine bt_call (R := PInt w4 S) zgOk (fun T d => isp_B (l := L) (cap := c5) (by omega) K4 hS) (gc_belL B4 hg) (fun v w T d h => h.rt) (fun v w' h => belL_pz h.2) zF13 (by simp [zK]) Try.func13 rfl rfl rfl rfl rfl (by k_ne) (by simp [Act.eval]) (fun v w5 h5 => ?_)
  obtain ⟨rfl, k5⟩ := h5
  have K5 := kls_low k5 K4
  have Q5 := kls_low k5 Q4
  have B5 := B4.trans k5 B4.size
  have T5 := tks_low k5 T4
  clear B4 T4
  clear K4 Q4
  walk_nrm
  (repeat (first | refine kA ?_ | refine kB ?_ | refine kC ?_ | refine kF ?_ | (refine kG ?_; simp only [List.size_toArray, List.length_cons, List.length_nil, Nat.reduceAdd, Nat.zero_add, List.range, List.range.loop]) | (refine kO rfl (by rfl) (by decide) (by decide) (fun dzz Kzz hKzz => ?_); go_simp; refine hKzz _ _ (fun b hb => hb) (bt_at ?_); clear hKzz Kzz; try walk_nrm) | (refine bt_skip rfl (by rfl) ?_; try walk_nrm)))
  have hc6 := crit_B (cap := cJ) hl T5 (gc_belL B5 hg) (Nat.le_trans hTh B5.size)
  rw [hC] at hc6
  refine bt_callB hc6 Try.func14 nm14 b14 rfl rfl rfl (by k_ne) (by simp [Act.eval]) (fun v w6 h6 => ?_)
  obtain ⟨rfl, k6⟩ := h6
  have K6 := kls_low k6 K5
  have Q6 := kls_low k6 Q5
  have B6 := B5.trans k6 B5.size
  have T6 := tks_low k6 T5
  clear B5 T5
  clear K5 Q5
  walk_nrm
  (repeat (first | refine kA ?_ | refine kB ?_ | refine kC ?_ | refine kF ?_ | (refine kG ?_; simp only [List.size_toArray, List.length_cons, List.length_nil, Nat.reduceAdd, Nat.zero_add, List.range, List.range.loop]) | (refine kO rfl (by rfl) (by decide) (by decide) (fun dzz Kzz hKzz => ?_); go_simp; refine hKzz _ _ (fun b hb => hb) (bt_at ?_); clear hKzz Kzz; try walk_nrm) | (refine bt_skip rfl (by rfl) ?_; try walk_nrm)))
  refine bt_call (R := PInt w6 S) zgOk (fun T d => isp_B (l := L) (cap := c5) (by omega) K6 hS) (gc_belL B6 hg) (fun v w T d h => h.rt) (fun v w' h => belL_pz h.2) zF13 (by simp [zK]) Try.func13 rfl rfl rfl rfl rfl (by k_ne) (by simp [Act.eval]) (fun v w7 h7 => ?_)
  obtain ⟨rfl, k7⟩ := h7
  have K7 := kls_low k7 K6
  have Q7 := kls_low k7 Q6
  have B7 := B6.trans k7 B6.size
  have T7 := tks_low k7 T6
  clear B6 T6
  clear K6 Q6
  walk_nrm
  by_cases h50 : ts.length ≤ 50
  rotate_left
  · have q5 : decide ((50 : Int) < ts.length) = true := by simp; omega
    (repeat (first | refine kA ?_ | refine kB ?_ | refine kC ?_ | refine kF ?_ | (refine kG ?_; simp only [List.size_toArray, List.length_cons, List.length_nil, Nat.reduceAdd, Nat.zero_add, List.range, List.range.loop]) | (refine kO rfl (by rfl) (by decide) (by decide) (fun dzz Kzz hKzz => ?_); go_simp; refine hKzz _ _ (fun b hb => hb) (bt_at ?_); clear hKzz Kzz; try walk_nrm) | (refine bt_skip rfl (by rfl) ?_; try walk_nrm)))
    exact bt_endK rfl rfl B7
  have q5 : decide ((50 : Int) < ts.length) = false := by simp; omega
  (repeat (first | refine kA ?_ | refine kB ?_ | refine kC ?_ | refine kF ?_ | (refine kG ?_; simp only [List.size_toArray, List.length_cons, List.length_nil, Nat.reduceAdd, Nat.zero_add, List.range, List.range.loop]) | (refine kO rfl (by rfl) (by decide) (by decide) (fun dzz Kzz hKzz => ?_); go_simp; refine hKzz _ _ (fun b hb => hb) (bt_at ?_); clear hKzz Kzz; try walk_nrm) | (refine bt_skip rfl (by rfl) ?_; try walk_nrm)))
  refine bt_call (R := RFm w7 (farmOf ts 50)) zgOk (fun T d => ifm_B (cap := cJ) hl T7) (gc_belL B7 hg) (fun v w T d h => h.rt) (fun v w' h => belL_pz h.choose_spec.choose_spec.2.2) zF11 (by simp [zK]) Try.func11 rfl rfl rfl rfl rfl (by k_ne) (by simp [Act.eval]) (fun v w8 h8 => ?_)
  obtain ⟨g6, c6, rfl, P8, k8⟩ := h8
  have K8 := kls_low k8 K7
  have Q8 := kls_low k8 Q7
  have B8 := B7.trans k8 B7.size
  have T8 := tks_low k8 T7
  clear B7 T7
  clear K7 Q7
  walk_nrm
  refine bt_call (R := PInt w8 C) zgOk (fun T d => isp_B (l := farmOf ts 50) (cap := c6) (by omega) P8 (hm h50)) (gc_belL B8 hg) (fun v w T d h => h.rt) (fun v w' h => belL_pz h.2) zF13 (by simp [zK]) Try.func13 rfl rfl rfl rfl rfl (by k_ne) (by simp [Act.eval]) (fun v w9 h9 => ?_)
  obtain ⟨rfl, k9⟩ := h9
  have K9 := kls_low k9 K8
  have Q9 := kls_low k9 Q8
  have P9 := kls_low k9 P8
  have B9 := B8.trans k9 B8.size
  have T9 := tks_low k9 T8
  clear B8 T8
  clear K8 Q8 P8
  walk_nrm
  (repeat (first | refine kA ?_ | refine kB ?_ | refine kC ?_ | refine kF ?_ | (refine kG ?_; simp only [List.size_toArray, List.length_cons, List.length_nil, Nat.reduceAdd, Nat.zero_add, List.range, List.range.loop]) | (refine kO rfl (by rfl) (by decide) (by decide) (fun dzz Kzz hKzz => ?_); go_simp; refine hKzz _ _ (fun b hb => hb) (bt_at ?_); clear hKzz Kzz; try walk_nrm) | (refine bt_skip rfl (by rfl) ?_; try walk_nrm)))
  have hc10 := crit_B (cap := cJ) hl T9 (gc_belL B9 hg) (Nat.le_trans hTh B9.size)
  rw [hC] at hc10
  refine bt_callB hc10 Try.func14 nm14 b14 rfl rfl rfl (by k_ne) (by simp [Act.eval]) (fun v w10 h10 => ?_)
  obtain ⟨rfl, k10⟩ := h10
  have K10 := kls_low k10 K9
  have Q10 := kls_low k10 Q9
  have P10 := kls_low k10 P9
  have B10 := B9.trans k10 B9.size
  have T10 := tks_low k10 T9
  clear B9 T9
  clear K9 Q9 P9
  walk_nrm
  (repeat (first | refine kA ?_ | refine kB ?_ | refine kC ?_ | refine kF ?_ | (refine kG ?_; simp only [List.size_toArray, List.length_cons, List.length_nil, Nat.reduceAdd, Nat.zero_add, List.range, List.range.loop]) | (refine kO rfl (by rfl) (by decide) (by decide) (fun dzz Kzz hKzz => ?_); go_simp; refine hKzz _ _ (fun b hb => hb) (bt_at ?_); clear hKzz Kzz; try walk_nrm) | (refine bt_skip rfl (by rfl) ?_; try walk_nrm)))
  exact bt_endK rfl rfl B10
end Go.Proofs.Ytpmmimcafkillaa.Tr
