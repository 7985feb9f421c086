/-
  Reused, beside leavers.
-/
import Derived.Test.YtpmmimcafkillaaZUb
import Derived.Test.YtpmmimcafkillaaZUd
set_option linter.unusedVariables false
set_option linter.unusedSimpArgs false
namespace Go.Proofs.Ytpmmimcafkillaa.Tr
open Go Go.Conc Go.RowKit
open Go.Proofs.Ytpmmimcafkillaa.Br (BT BTS Hd Hid Pz Pst Shn Thr EvN bt_ctl bt_cons bt_skip bt_call bt_callB bt_enter CallsB rt AtEnd0)
open Go.Proofs.Ytpmmimcafkillaa.Rs (Rule outOf out_at out_len resR crR dtR hst gmx)
open Go.Proofs.Ytpmmimcafkillaa (Tv Tks Ins jobOk job_tok TOk job_short tot tot_mem TO TX OwnI Mkd row_ownX iv ruv ruk reuOf infoI grown_none)
theorem array45 (T : Array Value) (h : T.size = 45) : ∃ v0 v1 v2 v3 v4 v5 v6 v7 v8 v9 v10 v11 v12 v13 v14 v15 v16 v17 v18 v19 v20 v21 v22 v23 v24 v25 v26 v27 v28 v29 v30 v31 v32 v33 v34 v35 v36 v37 v38 v39 v40 v41 v42 v43 v44 : Value, T = #[v0, v1, v2, v3, v4, v5, v6, v7, v8, v9, v10, v11, v12, v13, v14, v15, v16, v17, v18, v19, v20, v21, v22, v23, v24, v25, v26, v27, v28, v29, v30, v31, v32, v33, v34, v35, v36, v37, v38, v39, v40, v41, v42, v43, v44] :=
  ⟨T[0], T[1], T[2], T[3], T[4], T[5], T[6], T[7], T[8], T[9], T[10], T[11], T[12], T[13], T[14], T[15], T[16], T[17], T[18], T[19], T[20], T[21], T[22], T[23], T[24], T[25], T[26], T[27], T[28], T[29], T[30], T[31], T[32], T[33], T[34], T[35], T[36], T[37], T[38], T[39], T[40], T[41], T[42], T[43], T[44], by
    apply Array.ext
    · simpa using h
    · intro i h1 h2
      have hi : i < 45 := by simpa using h2
      rcases i with _ | _ | _ | _ | _ | _ | _ | _ | _ | _ | _ | _ | _ | _ | _ | _ | _ | _ | _ | _ | _ | _ | _ | _ | _ | _ | _ | _ | _ | _ | _ | _ | _ | _ | _ | _ | _ | _ | _ | _ | _ | _ | _ | _ | _ | i
      all_goals first | rfl | (exfalso; omega)⟩
def rfs : Code → Code
  | .seq a _ => a
  | c => c
set_option maxRecDepth 100000 in
set_option maxHeartbeats 4000000 in
theorem mk20 {w : World} {b : Option Addr} {n cb : Nat} (hn : n ≤ 200) (y0 y2 y3 y4 y5 y6 y7 y8 y9 y10 y11 y12 y13 y14 y15 y16 y17 y18 y19 y20 y21 y22 y23 y24 y25 y26 y27 y28 y29 y30 y31 y32 y33 y34 y35 y36 y37 y38 y39 y40 y41 y42 y43 y44 : Value) :
    (rfs (sdc 3 (Try.f20.body.getD .skip))).wp Try.prog (fun e a' w' => e = .normal ∧ (a' = ⟨#[y0, .slice b n cb, y2, y3, y4, y5, .slice (some ⟨w.heap.size, 0, none⟩) n n, y7, y8, y9, y10, y11, y12, y13, y14, y15, y16, y17, y18, y19, .slice b n cb, .int .i64 (n : Int), .slice (some ⟨w.heap.size, 0, none⟩) n n, y23, y24, y25, y26, y27, y28, y29, y30, y31, y32, y33, y34, y35, y36, y37, y38, y39, y40, y41, y42, y43, y44], []⟩ ∧ OwnI w' w.heap.size w.heap.size n n (List.replicate n 0) ∧ Below w.heap.size w w')) ⟨#[y0, .slice b n cb, y2, y3, y4, y5, y6, y7, y8, y9, y10, y11, y12, y13, y14, y15, y16, y17, y18, y19, y20, y21, y22, y23, y24, y25, y26, y27, y28, y29, y30, y31, y32, y33, y34, y35, y36, y37, y38, y39, y40, y41, y42, y43, y44], []⟩ w := by
  simp only [sdc, rfs, Try.f20, Option.getD_some]
  obtain ⟨i0, hi, hz0, hz1, hz2⟩ := info_parts infoI
  go_wp2_with (refine wpList_make_full _ rfl _ _ 29 rfl w.heap.size 2 i0 (.int .i64 0) 1 Try.underlying29 hi hz0 hz1 .i64 .i64 _ _ n rfl rfl rfl rfl ?b2 ?b3 (Nat.le_refl _) ?_)
  case b2 => rw [hz2]; omega
  case b3 => unfold maxLen; omega
  intro w1 o1 g1
  have hO : OwnI w1 w.heap.size w.heap.size n n (List.replicate n 0) := by
    rw [toList_madeCells_one] at o1
    show World.ownsRow _ _ _ _ _ _ _
    rw [List.map_replicate]
    exact o1
  have hB := grown_none g1
  clear o1 g1 hi hz0 hz1 hz2
  go_wp2
theorem ok20a : Br.okC (Br.okOp Zg Try.prog []) (rfs (sdc 3 (Try.f20.body.getD .skip))) = true := by kernel_rfl
theorem ok20b : Br.okC (Br.okOp Zg Try.prog []) (rbl (sdc 4 (Try.f20.body.getD .skip))) = true := by kernel_rfl
theorem loud20 : (Try.prog.funcs[(base 20).fn]?).any (·.norace) = false := by kernel_rfl
theorem nm48 : (Try.f48.name == "runtime.NumGoroutine") = false := by kernel_rfl
theorem b48 : Try.f48.body.isNone = false := by kernel_rfl
/-- what is held behind the loop, whatever tape and clock -/
def RUB (W w : World) (lo g n : Nat) (r : List Int) (a' : Act) (w' : World) : Prop := ∃ T, a' = ⟨T, []⟩ ∧ T.size = 45 ∧ T[6]? = some (.slice (some ⟨g, 0, none⟩) n n) ∧ OwnI w' lo g n n r ∧ BelL W.heap.size W w' ∧ ∀ k, Pz w k → Pz w' k
theorem RUB.rt {W w : World} {lo g n : Nat} {r : List Int} {a' : Act} {w' : World} {T : Nat → Question → Nat} {d : Nat} (h : RUB W w lo g n r a' w') : RUB W w lo g n r a' (Br.rt T d w') := let ⟨T', h1, h2, h3, h4, h5, h6⟩ := h; ⟨T', h1, h2, h3, h4, h5.rtt, h6⟩
theorem pz_own {w w' : World} {lo lo' g n : Nat} {r r' : List Int} (h : OwnI w lo g n n r) (h' : OwnI w' lo' g n n r') (hp : Pz w g) : Pz w' g := by
  obtain ⟨c1, hc1, s1⟩ := own_curX h
  obtain ⟨c2, hc2, s2⟩ := own_curX h'
  obtain ⟨e, he⟩ := hp
  rw [hc1] at he
  simp at he
  rw [he.1] at s1
  simp at s1
  have e2 : c2 = #[] := Array.size_eq_zero_iff.1 (by omega)
  exact ⟨2, by rw [hc2, e2]⟩
theorem RU.belB {W0 w w6 W5 W : World} {g gB cB n : Nat} {B r : List Int} (h : RU W0 w w6 g gB cB n B r) (hB : BelL W.heap.size W W5) (ho : W5.os = w.os ∧ W5.output = w.output ∧ W5.heap = w.heap) (hg : W.heap.size ≤ g) (hb : W0.os = w6.os) (hoo : w.output = w6.output) (hh : W0.os = w.os) : BelL W.heap.size W w6 :=
  ⟨by rw [← hb, hh, ← ho.1]; exact hB.os, by rw [← hoo, ← ho.2.1]; exact hB.output, by rw [h.sz, ← ho.2.2]; exact hB.size, fun k hk => by rw [h.st k (by omega), ← ho.2.2]; exact hB.block k hk⟩
section
variable {ps bs : List Tv} {w : World} {a b : Option Addr} {cap cb : Nat}
set_option maxRecDepth 100000 in
set_option maxHeartbeats 16000000 in
set_option maxRecDepth 100000 in
theorem reu_2 [Thr] {Q : Goroutine → World → Prop} {cc : Frame} {cs : List Frame} {w3 : World} {gA cA : Nat} {A B : List Int} (hJ2 : jobOk bs = true) (hbl : bs.length ≤ maxLen) (hB : outOf (resR bs) bs = B) (IA : Ins w3 (some ⟨gA, 0, none⟩) A) (hA2 : A.length ≤ 200) (S3 : Tks w3 b bs) (B3 : BelL w.heap.size w w3) (hg : Br.GC Try.prog w) (hTh : Thr.N ≤ w.heap.size)
    (hk : ∀ v w', RDtB w (ruk A B bs bs.length) v w' → BT Try.prog Q (G (cc.finish v) cs) w') (y0 y2 y3 y4 y6 y7 y8 y9 y10 y11 y12 y13 y14 y15 y16 y17 y18 y19 y20 y21 y22 y23 y24 y25 y26 y27 y28 y29 y30 y31 y32 y33 y34 y35 y36 y37 y38 y39 y40 y41 y42 y43 y44 : Value) :
    BT Try.prog Q (G ((base 20).at ⟨#[y0, .slice b bs.length cb, y2, y3, y4, .slice (some ⟨gA, 0, none⟩) A.length cA, y6, y7, y8, y9, y10, y11, y12, y13, y14, y15, y16, y17, y18, y19, y20, y21, y22, y23, y24, y25, y26, y27, y28, y29, y30, y31, y32, y33, y34, y35, y36, y37, y38, y39, y40, y41, y42, y43, y44], []⟩ [.code (sdc 3 (Try.f20.body.getD .skip))]) (cc :: cs)) w3 := by
  have hb200 : bs.length ≤ 200 := job_short hJ2
  have hBl : B.length = bs.length := by rw [← hB, out_len]
  have g3 := gc_belL B3 hg
  show BT Try.prog Q (G ((base 20).at ⟨#[y0, .slice b bs.length cb, y2, y3, y4, .slice (some ⟨gA, 0, none⟩) A.length cA, y6, y7, y8, y9, y10, y11, y12, y13, y14, y15, y16, y17, y18, y19, y20, y21, y22, y23, y24, y25, y26, y27, y28, y29, y30, y31, y32, y33, y34, y35, y36, y37, y38, y39, y40, y41, y42, y43, y44], []⟩ [.code (.seq (rfs (sdc 3 (Try.f20.body.getD .skip))) (sdc 4 (Try.f20.body.getD .skip)))]) (cc :: cs)) w3
  refine kA ?_
  refine Br.BT.code (R := fun a' w' => a' = ⟨#[y0, .slice b bs.length cb, y2, y3, y4, .slice (some ⟨gA, 0, none⟩) A.length cA, .slice (some ⟨w3.heap.size, 0, none⟩) bs.length bs.length, y7, y8, y9, y10, y11, y12, y13, y14, y15, y16, y17, y18, y19, .slice b bs.length cb, .int .i64 (bs.length : Int), .slice (some ⟨w3.heap.size, 0, none⟩) bs.length bs.length, y23, y24, y25, y26, y27, y28, y29, y30, y31, y32, y33, y34, y35, y36, y37, y38, y39, y40, y41, y42, y43, y44], []⟩ ∧ OwnI w' w3.heap.size w3.heap.size bs.length bs.length (List.replicate bs.length 0) ∧ BelL w3.heap.size w3 w') zgOk Try.func20 rfl ok20a rfl g3 (fun a w T d ⟨h1, h2, h3⟩ => ⟨h1, h2, h3.rtt⟩) (fun T d => ?_) (fun a' w' h => belL_pz h.2.2) (fun a' w4 h4 => ?_)
  · refine wp_mono (mk20 (w := rt T d w3) (b := b) (n := bs.length) (cb := cb) hb200 y0 y2 y3 y4 (.slice (some ⟨gA, 0, none⟩) A.length cA) y6 y7 y8 y9 y10 y11 y12 y13 y14 y15 y16 y17 y18 y19 y20 y21 y22 y23 y24 y25 y26 y27 y28 y29 y30 y31 y32 y33 y34 y35 y36 y37 y38 y39 y40 y41 y42 y43 y44) ?_
    rintro e a' w' ⟨he, h1, h2, h3⟩
    exact ⟨he, h1, h2, belL_any h3⟩
  obtain ⟨rfl, o4, k4⟩ := h4
  have S4 := tks_low k4 S3
  have B4 := B3.trans k4 B3.size
  have g4 := gc_belL B4 hg
  have s4 := Go.Proofs.Ytpmmimcafkillaa.own_lt o4
  simp only [sdc, Try.f20, Option.getD_some]
  (repeat (first | refine kA ?_ | refine kB ?_ | refine kC ?_ | refine kF ?_ | (refine kG ?_; simp only [List.size_toArray, List.length_cons, List.length_nil, Nat.reduceAdd, Nat.zero_add, List.range, List.range.loop]) | (refine kO rfl (by rfl) (by decide) (by decide) (fun dzz Kzz hKzz => ?_); go_simp; refine hKzz _ _ (fun b hb => hb) (bt_at ?_); clear hKzz Kzz; try walk_nrm) | (refine bt_skip rfl (by rfl) ?_; try walk_nrm)))
  refine bt_callB (resOf_B (cap := cb) hJ2 hbl S4 g4 (Nat.le_trans hTh B4.size)) Try.func48 nm48 b48 rfl rfl rfl (by k_ne) (by simp [Act.eval]) (fun v w5 h5 => ?_)
  rw [hB] at h5
  obtain ⟨gB, rfl, geB, hhB, k5⟩ := h5
  have S5 := tks_low k5 S4
  have B5 := B4.trans k5 B4.size
  have o5 := own_belL o4 k5
  have oB : OwnI w5 w3.heap.size gB bs.length bs.length B := by
    have h := row_ownX (lo := w3.heap.size) (n := bs.length) hhB (by simp [hBl]) (by unfold maxLen; omega) (Nat.le_trans k4.size geB)
    exact h
  have k35 := k4.trans k5 k4.size
  have g5 := gc_belL B5 hg
  have hrw : rwk A B bs 0 = List.replicate bs.length 0 := rwk_zero A B bs
  rw [hBl]
  walk_nrm
  (repeat (first | refine kA ?_ | refine kB ?_ | refine kC ?_ | refine kF ?_ | (refine kG ?_; simp only [List.size_toArray, List.length_cons, List.length_nil, Nat.reduceAdd, Nat.zero_add, List.range, List.range.loop]) | (refine kO rfl (by rfl) (by decide) (by decide) (fun dzz Kzz hKzz => ?_); go_simp; refine hKzz _ _ (fun b hb => hb) (bt_at ?_); clear hKzz Kzz; try walk_nrm) | (refine bt_skip rfl (by rfl) ?_; try walk_nrm)))
  refine Br.BT.code (c := rbl (sdc 4 (Try.f20.body.getD .skip))) (R := RUB w w5 w.heap.size w3.heap.size bs.length (ruk A B bs bs.length)) zgOk Try.func20 rfl ok20b rfl g5 (fun a w T d h => h.rt) (fun T d => ?_) (fun a' w' ⟨_, _, _, _, _, _, h⟩ => h) (fun a' w6 h6 => ?_)
  · refine wp_mono (reu_loop (W0 := { w3 with tape := (rt T d w5).tape, os := (rt T d w5).os }) (w := rt T d w5) (A := A) (B := B) (bs := bs) (b := b) (cb := cb) (gA := gA) (cA := cA) (gB := gB) (cB := bs.length) (g := w3.heap.size) IA S3 ⟨rfl, rfl, k35.output, k35.size, k35.block⟩ (by rw [hrw]; exact o5) oB (by omega) hA2 hb200 _ _ _ _ _ _ _ _ _ _ _ _ _ _ _ _ _ _ _ _ _ _ _ _ _ _ _ _ _ _ _ _ _ _ _ _ _ _ _) ?_
    rintro e a' w6 ⟨he, T', h1, h2, h3, hU⟩
    refine ⟨he, T', h1, h2, h3, Go.Proofs.Ytpmmimcafkillaa.own_mono hU.R B3.size, hU.belB B5 ⟨rfl, rfl, rfl⟩ B3.size hU.bel.os.symm (k35.output.trans hU.bel.output.symm) rfl, fun k hp => ?_⟩
    by_cases e : k = w3.heap.size
    · subst e
      exact pz_own o5 hU.R hp
    · obtain ⟨x, hx⟩ := hp
      exact ⟨x, (hU.st k e).trans hx⟩
  · obtain ⟨T, rfl, hT, t6, o6, B6, _⟩ := h6
    obtain ⟨u0, u1, u2, u3, u4, u5, u6, u7, u8, u9, u10, u11, u12, u13, u14, u15, u16, u17, u18, u19, u20, u21, u22, u23, u24, u25, u26, u27, u28, u29, u30, u31, u32, u33, u34, u35, u36, u37, u38, u39, u40, u41, u42, u43, u44, rfl⟩ := array45 T hT
    simp only [List.getElem?_toArray, List.getElem?_cons_succ, List.getElem?_cons_zero, Option.some.injEq] at t6
    subst t6
    (repeat (first | refine kA ?_ | refine kB ?_ | refine kC ?_ | refine kF ?_ | (refine kG ?_; simp only [List.size_toArray, List.length_cons, List.length_nil, Nat.reduceAdd, Nat.zero_add, List.range, List.range.loop]) | (refine kO rfl (by rfl) (by decide) (by decide) (fun dzz Kzz hKzz => ?_); go_simp; refine hKzz _ _ (fun b hb => hb) (bt_at ?_); clear hKzz Kzz; try walk_nrm) | (refine bt_skip rfl (by rfl) ?_; try walk_nrm)))
    exact Br.BT.leave (v := .slice (some ⟨w3.heap.size, 0, none⟩) bs.length bs.length) ⟨rfl, rfl, rfl, Try.f20, Try.func20, by simp [results, Try.f20, Frame.at]⟩ (hk _ _ ⟨w3.heap.size, bs.length, by rw [ruk_len], by rw [ruk_len]; exact o6, B6.rtt⟩)
set_option maxRecDepth 100000 in
set_option maxHeartbeats 16000000 in
/-- ████ Reused ████ -/
theorem reu_B [Thr] (hl : ps.length ≤ maxLen) (hbl : bs.length ≤ maxLen) (hT : Tks w a ps) (hS : Tks w b bs) (hg : Br.GC Try.prog w) (hTh : Thr.N ≤ w.heap.size) :
    CallsB Try.prog 20 #[.slice a ps.length cap, .slice b bs.length cb] w (RDtB w (reuOf ps bs)) := by
  intro cc cs Q hk
  have e20 : Frame.enter Try.prog 20 #[.slice a ps.length cap, .slice b bs.length cb] .normal = (base 20).at ⟨#[.slice a ps.length cap, .slice b bs.length cb, undef, undef, undef, undef, undef, undef, undef, undef, undef, undef, undef, undef, undef, undef, undef, undef, undef, undef, undef, undef, undef, undef, undef, undef, undef, undef, undef, undef, undef, undef, undef, undef, undef, undef, undef, undef, undef, undef, undef, undef, undef, undef, undef], []⟩ [.code (Try.f20.body.getD .skip)] := by
    simp [Frame.enter, Frame.at, Try.func20, base, Try.f20]
  rw [e20]
  clear e20
  simp only [Try.f20, Option.getD_some]
  (repeat (first | refine kA ?_ | refine kB ?_ | refine kC ?_ | refine kF ?_ | (refine kG ?_; simp only [List.size_toArray, List.length_cons, List.length_nil, Nat.reduceAdd, Nat.zero_add, List.range, List.range.loop]) | (refine kO rfl (by rfl) (by decide) (by decide) (fun dzz Kzz hKzz => ?_); go_simp; refine hKzz _ _ (fun b hb => hb) (bt_at ?_); clear hKzz Kzz; try walk_nrm) | (refine bt_skip rfl (by rfl) ?_; try walk_nrm)))
  refine bt_call (R := RJob w ps) zgOk (job_B (cap := cap) hl hT) hg (fun v w T d h => h.rt) (fun v w' h => belL_pz h.2) zF37 (by simp [zK]) Try.func37 rfl rfl rfl rfl rfl (by k_ne) (by simp [Act.eval]) (fun v w1 h1 => ?_)
  obtain ⟨rfl, k1⟩ := h1
  have T1 := tks_low k1 hT
  have S1 := tks_low k1 hS
  have g1 := gc_belL k1 hg
  walk_nrm
  cases hJ : jobOk ps with
  | false =>
    (repeat (first | refine kA ?_ | refine kB ?_ | refine kC ?_ | refine kF ?_ | (refine kG ?_; simp only [List.size_toArray, List.length_cons, List.length_nil, Nat.reduceAdd, Nat.zero_add, List.range, List.range.loop]) | (refine kO rfl (by rfl) (by decide) (by decide) (fun dzz Kzz hKzz => ?_); go_simp; refine hKzz _ _ (fun b hb => hb) (bt_at ?_); clear hKzz Kzz; try walk_nrm) | (refine bt_skip rfl (by rfl) ?_; try walk_nrm)))
    (refine kJ rfl ?_)
    (repeat (first | refine kA ?_ | refine kB ?_ | refine kC ?_ | refine kF ?_ | (refine kG ?_; simp only [List.size_toArray, List.length_cons, List.length_nil, Nat.reduceAdd, Nat.zero_add, List.range, List.range.loop]) | (refine kO rfl (by rfl) (by decide) (by decide) (fun dzz Kzz hKzz => ?_); go_simp; refine hKzz _ _ (fun b hb => hb) (bt_at ?_); clear hKzz Kzz; try walk_nrm) | (refine bt_skip rfl (by rfl) ?_; try walk_nrm)))
    refine bt_alloc' rfl (fun W hW => by rw [stepG_bs29 rfl rfl (by k_ne) rfl, hW]) ?_
    walk_nrm
    obtain ⟨w5, e5, s5, b5, n5, o5, p5⟩ := alloc_out w1 (.cells #[] 2 (0, 0))
    rw [e5]
    have hB5 : BelL w.heap.size w w5 := k1.trans ⟨by rw [o5]; exact .refl _, p5, by omega, b5⟩ k1.size
    (repeat (first | refine kA ?_ | refine kB ?_ | refine kC ?_ | refine kF ?_ | (refine kG ?_; simp only [List.size_toArray, List.length_cons, List.length_nil, Nat.reduceAdd, Nat.zero_add, List.range, List.range.loop]) | (refine kO rfl (by rfl) (by decide) (by decide) (fun dzz Kzz hKzz => ?_); go_simp; refine hKzz _ _ (fun b hb => hb) (bt_at ?_); clear hKzz Kzz; try walk_nrm) | (refine bt_skip rfl (by rfl) ?_; try walk_nrm)))
    exact Br.BT.leave (v := .slice (some ⟨w1.heap.size, 0, none⟩) 0 0) ⟨rfl, rfl, rfl, Try.f20, Try.func20, by simp [results, Try.f20, Frame.at]⟩ (hk _ _ ⟨w1.heap.size, 0, by simp [reuOf, hJ], by simp only [reuOf, hJ, Bool.false_and, Bool.false_eq_true, if_false]; exact row_ownX (c := #[]) (by simp [World.at, n5]) (by simp) (by unfold maxLen; simp) k1.size, ⟨hB5.os, hB5.output, hB5.size, hB5.block⟩⟩)
  | true =>
    (repeat (first | refine kA ?_ | refine kB ?_ | refine kC ?_ | refine kF ?_ | (refine kG ?_; simp only [List.size_toArray, List.length_cons, List.length_nil, Nat.reduceAdd, Nat.zero_add, List.range, List.range.loop]) | (refine kO rfl (by rfl) (by decide) (by decide) (fun dzz Kzz hKzz => ?_); go_simp; refine hKzz _ _ (fun b hb => hb) (bt_at ?_); clear hKzz Kzz; try walk_nrm) | (refine bt_skip rfl (by rfl) ?_; try walk_nrm)))
    refine bt_call (R := RJob w1 bs) zgOk (job_B (cap := cb) hbl S1) g1 (fun v w T d h => h.rt) (fun v w' h => belL_pz h.2) zF37 (by simp [zK]) Try.func37 rfl rfl rfl rfl rfl (by k_ne) (by simp [Act.eval]) (fun v w2 h2 => ?_)
    obtain ⟨rfl, k2⟩ := h2
    have B2 := k1.trans k2 k1.size
    have T2 := tks_low k2 T1
    have S2 := tks_low k2 S1
    have g2 := gc_belL k2 g1
    clear T1 S1 g1 k1 k2
    walk_nrm
    cases hJ2 : jobOk bs with
    | false =>
      (repeat (first | refine kA ?_ | refine kB ?_ | refine kC ?_ | refine kF ?_ | (refine kG ?_; simp only [List.size_toArray, List.length_cons, List.length_nil, Nat.reduceAdd, Nat.zero_add, List.range, List.range.loop]) | (refine kO rfl (by rfl) (by decide) (by decide) (fun dzz Kzz hKzz => ?_); go_simp; refine hKzz _ _ (fun b hb => hb) (bt_at ?_); clear hKzz Kzz; try walk_nrm) | (refine bt_skip rfl (by rfl) ?_; try walk_nrm)))
      (refine kJ rfl ?_)
      (repeat (first | refine kA ?_ | refine kB ?_ | refine kC ?_ | refine kF ?_ | (refine kG ?_; simp only [List.size_toArray, List.length_cons, List.length_nil, Nat.reduceAdd, Nat.zero_add, List.range, List.range.loop]) | (refine kO rfl (by rfl) (by decide) (by decide) (fun dzz Kzz hKzz => ?_); go_simp; refine hKzz _ _ (fun b hb => hb) (bt_at ?_); clear hKzz Kzz; try walk_nrm) | (refine bt_skip rfl (by rfl) ?_; try walk_nrm)))
      refine bt_alloc' rfl (fun W hW => by rw [stepG_bs29 rfl rfl (by k_ne) rfl, hW]) ?_
      walk_nrm
      obtain ⟨w5, e5, s5, b5, n5, o5, p5⟩ := alloc_out w2 (.cells #[] 2 (0, 0))
      rw [e5]
      have hB5 : BelL w.heap.size w w5 := B2.trans ⟨by rw [o5]; exact .refl _, p5, by omega, b5⟩ B2.size
      (repeat (first | refine kA ?_ | refine kB ?_ | refine kC ?_ | refine kF ?_ | (refine kG ?_; simp only [List.size_toArray, List.length_cons, List.length_nil, Nat.reduceAdd, Nat.zero_add, List.range, List.range.loop]) | (refine kO rfl (by rfl) (by decide) (by decide) (fun dzz Kzz hKzz => ?_); go_simp; refine hKzz _ _ (fun b hb => hb) (bt_at ?_); clear hKzz Kzz; try walk_nrm) | (refine bt_skip rfl (by rfl) ?_; try walk_nrm)))
      exact Br.BT.leave (v := .slice (some ⟨w2.heap.size, 0, none⟩) 0 0) ⟨rfl, rfl, rfl, Try.f20, Try.func20, by simp [results, Try.f20, Frame.at]⟩ (hk _ _ ⟨w2.heap.size, 0, by simp [reuOf, hJ2], by simp only [reuOf, hJ2, Bool.and_false, Bool.false_eq_true, if_false]; exact row_ownX (c := #[]) (by simp [World.at, n5]) (by simp) (by unfold maxLen; simp) B2.size, ⟨hB5.os, hB5.output, hB5.size, hB5.block⟩⟩)
    | true =>
      have ha200 : ps.length ≤ 200 := job_short hJ
      have hb200 : bs.length ≤ 200 := job_short hJ2
      obtain ⟨A, hA⟩ : ∃ A, outOf (resR ps) ps = A := ⟨_, rfl⟩
      obtain ⟨B, hB⟩ : ∃ A, outOf (resR bs) bs = A := ⟨_, rfl⟩
      have hAl : A.length = ps.length := by rw [← hA, out_len]
      have hBl : B.length = bs.length := by rw [← hB, out_len]
      have hD : reuOf ps bs = ruk A B bs bs.length := by simp [reuOf, hJ, hJ2, hA, hB]
      (repeat (first | refine kA ?_ | refine kB ?_ | refine kC ?_ | refine kF ?_ | (refine kG ?_; simp only [List.size_toArray, List.length_cons, List.length_nil, Nat.reduceAdd, Nat.zero_add, List.range, List.range.loop]) | (refine kO rfl (by rfl) (by decide) (by decide) (fun dzz Kzz hKzz => ?_); go_simp; refine hKzz _ _ (fun b hb => hb) (bt_at ?_); clear hKzz Kzz; try walk_nrm) | (refine bt_skip rfl (by rfl) ?_; try walk_nrm)))
      (refine kI rfl ?_)
      (repeat (first | refine kA ?_ | refine kB ?_ | refine kC ?_ | refine kF ?_ | (refine kG ?_; simp only [List.size_toArray, List.length_cons, List.length_nil, Nat.reduceAdd, Nat.zero_add, List.range, List.range.loop]) | (refine kO rfl (by rfl) (by decide) (by decide) (fun dzz Kzz hKzz => ?_); go_simp; refine hKzz _ _ (fun b hb => hb) (bt_at ?_); clear hKzz Kzz; try walk_nrm) | (refine bt_skip rfl (by rfl) ?_; try walk_nrm)))
      refine bt_callB (resOf_B (cap := cap) hJ hl T2 g2 (Nat.le_trans hTh B2.size)) Try.func48 nm48 b48 rfl rfl rfl (by k_ne) (by simp [Act.eval]) (fun v w3 h3 => ?_)
      rw [hA] at h3
      obtain ⟨gA, rfl, geA, hhA, k3⟩ := h3
      have B3 := B2.trans k3 B2.size
      have S3 := tks_low k3 S2
      have g3 := gc_belL k3 g2
      have IA : Ins w3 (some ⟨gA, 0, none⟩) A := ins_own hhA
      clear T2 S2 g2 k3 geA hhA
      walk_nrm
      refine kO rfl (by rfl) (by decide) (by decide) (fun dzz Kzz hKzz => ?_)
      go_simp
      refine hKzz _ _ (fun b hb => hb) (bt_at ?_)
      clear hKzz Kzz
      try walk_nrm
      refine kC ?_
      have h2 := fun y0 y2 y3 y4 y6 y7 y8 y9 y10 y11 y12 y13 y14 y15 y16 y17 y18 y19 y20 y21 y22 y23 y24 y25 y26 y27 y28 y29 y30 y31 y32 y33 y34 y35 y36 y37 y38 y39 y40 y41 y42 y43 y44 => reu_2 (cA := A.length) (cb := cb) hJ2 hbl hB IA (by omega) S3 B3 hg hTh (fun v w' h => hk v w' (by rw [hD]; exact h)) y0 y2 y3 y4 y6 y7 y8 y9 y10 y11 y12 y13 y14 y15 y16 y17 y18 y19 y20 y21 y22 y23 y24 y25 y26 y27 y28 y29 y30 y31 y32 y33 y34 y35 y36 y37 y38 y39 y40 y41 y42 y43 y44
      simp only [sdc, Try.f20, Option.getD_some, hAl] at h2
      exact h2 _ _ _ _ _ _ _ _ _ _ _ _ _ _ _ _ _ _ _ _ _ _ _ _ _ _ _ _ _ _ _ _ _ _ _ _ _ _ _ _ _ _ _
end
end Go.Proofs.Ytpmmimcafkillaa.Tr
