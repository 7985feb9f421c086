/-
  FnReused: what its functions answer; the law, its last part.
  FnReused: the law, its middle.
  FnReused: the law, from its entry.
-/
import Derived.Test.YtpmmimcafkillaaZVd
import Derived.Test.YtpmmimcafkillaaZVc
import Derived.Test.YtpmmimcafkillaaZVr
set_option linter.unusedVariables false
set_option linter.unusedSimpArgs false
namespace Go.Proofs.Ytpmmimcafkillaa.Tr
open Go Go.Conc Go.RowKit
open Go.Proofs.Ytpmmimcafkillaa.Br (BT BTS Hd Hid Pz Pst Shn Thr EvN bt_ctl bt_cons bt_skip bt_call bt_callB bt_enter CallsB rt AtEnd0)
open Go.Proofs.Ytpmmimcafkillaa.Rs (Rule outOf out_at out_len resR dtR hst)
open Go.Proofs.Ytpmmimcafkillaa (Tv Tks Ins jobOk job_tok TOk job_short tot OwnI iv RdB DyD ddy_any sin_any sjob_any sres_any sdty_any dtyOf chOk dlk RSd reuOf ruk_len KT OwnQ kt_tks kt_bump bump bump_ok bump_len Tq res_stay res_differs reu_same reu_clean reu_len2 mem_dlk)
theorem bt_endK [Thr] {w W : World} {a : Act} {todo : List Item} (hd : a.defers = []) (h : a.tmps.getD 2 undef = .bool true) (hw : BelL W.heap.size W w) : BT Try.prog (AtEnd0 Try.prog (PostL W)) (G { (base 4).at a todo with mode := .returning } []) w := by
  refine Br.BT.done ⟨rfl, fun X => ⟨.bool true, ?_, rfl, hw⟩⟩
  have h2 : a.tmps[2]?.getD undef = .bool true := by rw [← h, Array.getD_eq_getD_getElem?]
  simp [G, stepG, unwind, doReturn, results, Frame.at, base, Try.func4, Try.f4, seen, GStep.after, hd, h2]
/-! what the law's lone functions answer, whatever the draws -/
def RBo (w : World) (b : Bool) (v : Value) (w' : World) : Prop := v = .bool b ∧ BelL w.heap.size w w'
theorem RBo.rt {w w' : World} {b : Bool} {v : Value} {T : Nat → Question → Nat} {d : Nat} (h : RBo w b v w') : RBo w b v (Br.rt T d w') := ⟨h.1, h.2.rtt⟩
def RDy (w : World) (v : Value) (w' : World) : Prop := ∃ G c g6 c6 ts l, v = .tuple #[.slice (some ⟨G, 0, none⟩) (List.length (α := Tv) ts) c, .slice (some ⟨g6, 0, none⟩) (List.length (α := Int) l) c6] ∧ ts.length ≤ 210 ∧ l.length ≤ 10 ∧ Tks w' (some ⟨G, 0, none⟩) ts ∧ Ins w' (some ⟨g6, 0, none⟩) l ∧ l.length ≤ c6 ∧ BelL w.heap.size w w'
theorem RDy.rt {w w' : World} {v : Value} {T : Nat → Question → Nat} {d : Nat} (h : RDy w v w') : RDy w v (Br.rt T d w') := let ⟨G, c, g6, c6, ts, l, h1, h2, h3, h4, h5, h7, h6⟩ := h; ⟨G, c, g6, c6, ts, l, h1, h2, h3, h4, h5, h7, h6.rtt⟩
def RIn (w : World) (l : List Int) (v : Value) (w' : World) : Prop := ∃ B c, v = .slice (some ⟨B, 0, none⟩) l.length c ∧ Ins w' (some ⟨B, 0, none⟩) l ∧ BelL w.heap.size w w'
theorem RIn.rt {w w' : World} {l : List Int} {v : Value} {T : Nat → Question → Nat} {d : Nat} (h : RIn w l v w') : RIn w l v (Br.rt T d w') := let ⟨r, c, h1, h2, h3⟩ := h; ⟨r, c, h1, h2, h3.rtt⟩
set_option maxHeartbeats 400000 in
theorem big_any (a : Option Addr) (len cap : Nat) (w : World) : Calls Try.prog 9 #[.slice a len cap] w fun e w' => e = .returned (.bool (decide ((4096 : Int) < len))) ∧ w' = w := by
  go_enter Try.func9, Try.ntmps9
  go_wp2
  go_ret
  exact ⟨rfl, rfl⟩
section
variable {ts : List Tv} {w : World} {a : Option Addr} {cap : Nat} {T : Nat → Question → Nat} {d : Nat}
theorem big_B {len : Nat} {b : Bool} (hb : decide ((4096 : Int) < len) = b) : Calls Try.prog 9 #[.slice a len cap] (Br.rt T d w) fun e w' => ∃ v, e = .returned v ∧ RBo w b v w' :=
  calls_imp (big_any a len cap (Br.rt T d w)) fun e w' h => ⟨_, h.1, by rw [hb], by rw [h.2]; exact belL_any (w := w) (Below.refl _ _)⟩
theorem ddy_B {len : Nat} (hl : len ≤ 4096) (hr : RdB w w.heap.size a len) : Calls Try.prog 15 #[.slice a len cap] (Br.rt T d w) fun e w' => ∃ v, e = .returned v ∧ RDy w v w' :=
  calls_imp (ddy_any a len cap (Br.rt T d w) hl hr) fun e w' ⟨G, c, g6, c6, ts, l, h1, h2, h3, h4, h5, h7, h6⟩ => ⟨_, h1, G, c, g6, c6, ts, l, rfl, h2, h3, h4, h5, h7, belL_any (w := w) h6⟩
theorem sin_B {l : List Int} {b : Option Addr} {cb : Nat} (hl : l.length ≤ 1048576) (ha : Ins w a l) (hb : Ins w b l) : Calls Try.prog 17 #[.slice a l.length cap, .slice b l.length cb] (Br.rt T d w) fun e w' => ∃ v, e = .returned v ∧ RBo w true v w' :=
  calls_imp (sin_any a b cap cb l (Br.rt T d w) hl ha hb) fun e w' h => ⟨_, h.1, rfl, belL_any (w := w) h.2⟩
theorem sjb_B {b : Bool} (hl : ts.length ≤ maxLen) (hT : Tks w a ts) (hb : jobOk ts = b) : Calls Try.prog 19 #[.slice a ts.length cap] (Br.rt T d w) fun e w' => ∃ v, e = .returned v ∧ RBo w b v w' :=
  calls_imp (sjob_any a cap ts (Br.rt T d w) hl hT) fun e w' h => ⟨_, h.1, by rw [hb], belL_any (w := w) h.2⟩
theorem srs_B (hl : ts.length ≤ maxLen) (hT : Tks w a ts) : Calls Try.prog 22 #[.slice a ts.length cap] (Br.rt T d w) fun e w' => ∃ v, e = .returned v ∧ RIn w (resOf ts) v w' :=
  calls_imp (sres_any a cap ts (Br.rt T d w) hl hT) fun e w' ⟨B, c, h1, h2, h3⟩ => ⟨_, h1, B, c, rfl, h2, belL_any (w := w) h3⟩
theorem sdy_B {ch : List Int} {b : Option Addr} {cb : Nat} (hl : ts.length ≤ maxLen) (hc : ch.length ≤ maxLen) (hT : Tks w a ts) (hI : Ins w b ch) : Calls Try.prog 18 #[.slice a ts.length cap, .slice b ch.length cb] (Br.rt T d w) fun e w' => ∃ v, e = .returned v ∧ RIn w (dty ts ch) v w' :=
  calls_imp (sdty_any a b cap cb ts ch (Br.rt T d w) hl hc hT hI) fun e w' ⟨B, c, h1, h2, h3⟩ => ⟨_, h1, B, c, rfl, h2, belL_any (w := w) h3⟩
end
theorem zF9 : Zg.F 9 = true := by kernel_rfl
theorem zF15 : Zg.F 15 = true := by kernel_rfl
theorem zF17 : Zg.F 17 = true := by kernel_rfl
theorem zF18 : Zg.F 18 = true := by kernel_rfl
theorem zF19 : Zg.F 19 = true := by kernel_rfl
theorem zF22 : Zg.F 22 = true := by kernel_rfl
theorem nm16 : (Try.f16.name == "runtime.NumGoroutine") = false := by kernel_rfl
theorem b16 : Try.f16.body.isNone = false := by kernel_rfl
theorem nm20 : (Try.f20.name == "runtime.NumGoroutine") = false := by kernel_rfl
theorem b20 : Try.f20.body.isNone = false := by kernel_rfl
set_option maxRecDepth 100000 in
theorem rng170 (f : Nat → Value) : (List.range 170).map f = [f 0, f 1, f 2, f 3, f 4, f 5, f 6, f 7, f 8, f 9, f 10, f 11, f 12, f 13, f 14, f 15, f 16, f 17, f 18, f 19, f 20, f 21, f 22, f 23, f 24, f 25, f 26, f 27, f 28, f 29, f 30, f 31, f 32, f 33, f 34, f 35, f 36, f 37, f 38, f 39, f 40, f 41, f 42, f 43, f 44, f 45, f 46, f 47, f 48, f 49, f 50, f 51, f 52, f 53, f 54, f 55, f 56, f 57, f 58, f 59, f 60, f 61, f 62, f 63, f 64, f 65, f 66, f 67, f 68, f 69, f 70, f 71, f 72, f 73, f 74, f 75, f 76, f 77, f 78, f 79, f 80, f 81, f 82, f 83, f 84, f 85, f 86, f 87, f 88, f 89, f 90, f 91, f 92, f 93, f 94, f 95, f 96, f 97, f 98, f 99, f 100, f 101, f 102, f 103, f 104, f 105, f 106, f 107, f 108, f 109, f 110, f 111, f 112, f 113, f 114, f 115, f 116, f 117, f 118, f 119, f 120, f 121, f 122, f 123, f 124, f 125, f 126, f 127, f 128, f 129, f 130, f 131, f 132, f 133, f 134, f 135, f 136, f 137, f 138, f 139, f 140, f 141, f 142, f 143, f 144, f 145, f 146, f 147, f 148, f 149, f 150, f 151, f 152, f 153, f 154, f 155, f 156, f 157, f 158, f 159, f 160, f 161, f 162, f 163, f 164, f 165, f 166, f 167, f 168, f 169] := by kernel_rfl
theorem array170 (T : Array Value) (h : T.size = 170) : ∃ f : Nat → Value, T = #[f 0, f 1, f 2, f 3, f 4, f 5, f 6, f 7, f 8, f 9, f 10, f 11, f 12, f 13, f 14, f 15, f 16, f 17, f 18, f 19, f 20, f 21, f 22, f 23, f 24, f 25, f 26, f 27, f 28, f 29, f 30, f 31, f 32, f 33, f 34, f 35, f 36, f 37, f 38, f 39, f 40, f 41, f 42, f 43, f 44, f 45, f 46, f 47, f 48, f 49, f 50, f 51, f 52, f 53, f 54, f 55, f 56, f 57, f 58, f 59, f 60, f 61, f 62, f 63, f 64, f 65, f 66, f 67, f 68, f 69, f 70, f 71, f 72, f 73, f 74, f 75, f 76, f 77, f 78, f 79, f 80, f 81, f 82, f 83, f 84, f 85, f 86, f 87, f 88, f 89, f 90, f 91, f 92, f 93, f 94, f 95, f 96, f 97, f 98, f 99, f 100, f 101, f 102, f 103, f 104, f 105, f 106, f 107, f 108, f 109, f 110, f 111, f 112, f 113, f 114, f 115, f 116, f 117, f 118, f 119, f 120, f 121, f 122, f 123, f 124, f 125, f 126, f 127, f 128, f 129, f 130, f 131, f 132, f 133, f 134, f 135, f 136, f 137, f 138, f 139, f 140, f 141, f 142, f 143, f 144, f 145, f 146, f 147, f 148, f 149, f 150, f 151, f 152, f 153, f 154, f 155, f 156, f 157, f 158, f 159, f 160, f 161, f 162, f 163, f 164, f 165, f 166, f 167, f 168, f 169] := by
  refine ⟨fun i => T.toList.getD i undef, ?_⟩
  have h1 : T.toList = (List.range 170).map fun i => T.toList.getD i undef := by
    apply List.ext_getElem?
    intro i
    by_cases hi : i < 170
    · have hi' : i < T.toList.length := by simp; omega
      rw [List.getElem?_map, List.getElem?_range hi, List.getElem?_eq_getElem hi']
      have h3 : i < T.size := by omega
      simp [h3]
    · rw [List.getElem?_eq_none (by simp; omega), List.getElem?_eq_none (by simp; omega)]
  rw [rng170] at h1
  exact Array.toList_inj.1 h1
theorem ok4_7 : Br.okC (Br.okOp Zg Try.prog []) (rft (sdc 7 (Try.f4.body.getD .skip))) = true := by kernel_rfl
theorem ok4_9 : Br.okC (Br.okOp Zg Try.prog []) (rft (rft (sdc 9 (Try.f4.body.getD .skip)))) = true := by kernel_rfl
theorem ok4_10 : Br.okC (Br.okOp Zg Try.prog []) (rft (sdc 10 (Try.f4.body.getD .skip))) = true := by kernel_rfl
theorem ok4_11 : Br.okC (Br.okOp Zg Try.prog []) (rft (sdc 11 (Try.f4.body.getD .skip))) = true := by kernel_rfl
theorem ok4_15 : Br.okC (Br.okOp Zg Try.prog []) (rft (sdc 15 (Try.f4.body.getD .skip))) = true := by kernel_rfl
theorem ok4_16 : Br.okC (Br.okOp Zg Try.prog []) (rft (sdc 16 (Try.f4.body.getD .skip))) = true := by kernel_rfl
/-- a list of tasks that is there is no empty block -/
theorem ownQ_npz {w : World} {B g n cp : Nat} {qs : List Tq} (h : OwnQ w B g n cp qs) (hn : 0 < n) : ¬ Pz w g := by
  rintro ⟨e, he⟩
  rcases h.2 with ⟨hv, _⟩ | ⟨g', cap', cur', hv, _, hh, h1, _, hcs, _⟩
  · cases hv
  · injection hv with e1 e2 e3
    injection e1 with e1
    injection e1 with e1
    subst e1 e3
    rw [hh] at he
    simp at he
    rw [he.1] at hcs
    simp at hcs
    omega
section
variable {main : Bool} {b : Frame} {a : Act} {kk : List Item} {cs : List Frame} {w : World} {ops : Array Oper} {i : Nat} {rest : List Nat} {o : Oper}
theorem stepG_sl {x : Operand} {B n c : Nat} (ho : ops[i]? = some o) (hw : Region.wanted o (yielded ops a.tmps) = true) (hk : b.kind ≠ .early) (hop : o.op = .slice 29 x none (some (.const (.int .i64 1))) none) (hx : a.eval x = .slice (some ⟨B, 0, none⟩) n c) (h1 : 1 ≤ c) :
    stepG Try.prog main (G (b.at a (.inRegion ops (i :: rest) :: kk)) cs) w = .go (G (b.at (a.put o.dst (.slice (some ⟨B, 0, none⟩) 1 c)) (.inRegion ops rest :: kk)) cs) w #[] := by
  have hr : (execOp a.eval o).run Try.prog w = .ok (.value (.slice (some ⟨B, 0, none⟩) 1 c)) w := by
    unfold execOp
    simp only [hop, Option.map_some, Option.map_none, hx]
    simp [go_sem]
    intro h
    exfalso
    omega
  have he : (execOp a.eval o).events Try.prog w #[] = #[] := by
    unfold execOp
    simp only [hop, Option.map_some, Option.map_none, hx]
    have h3 : (1 : Int) ≤ (c : Int) := by omega
    have h4 : ¬ ((c : Int) < 1) := by omega
    simp [go_sem, Instr.sliceAt, Instr.slice, Instr.sliceBound, h3, h4]
    try (intro h; exfalso; omega)
  rw [stepG_value ho hw hk hr]
  unfold listed
  rw [he, seen_none]
end
theorem ins_one {w : World} {a : Option Addr} {ch : List Int} {c : Int} (h : Ins w a ch) (hc : ch[0]? = some c) : Ins w a [c] := by
  intro j x hx
  have hj : j = 0 := by have := (List.getElem?_eq_some_iff.1 hx).1; simp at this; exact this
  subst hj
  simp at hx
  subst hx
  exact h 0 c hc
theorem dlk_len2 (o : List Int) : ∀ k, (dlk o k).length ≤ k
  | 0 => Nat.le_refl _
  | k + 1 => by
    have := dlk_len2 o k
    unfold dlk
    split <;> simp <;> omega
theorem dty_len {ts : List Tv} {ch : List Int} : (dty ts ch).length ≤ 200 := by
  unfold dty
  split
  · next h => have := dlk_len2 (outOf (dtR ch) ts) ts.length; have := job_short (Bool.and_eq_true_iff.1 h).1; omega
  · simp
set_option maxRecDepth 100000 in
set_option maxHeartbeats 16000000 in
theorem lawRe3 [Thr] {W w1 : World} {ts : List Tv} {ch : List Int} {t : Tv} {c0 J cJ C cC R cR : Nat} (hJ : jobOk ts = true) (hch : ch.length ≤ 1000) (hcap : ch.length ≤ cC) (hc : ch[0]? = some (c0 : Int)) (ht : ts[c0]? = some t) (hne : t.2.1 ≠ 10000000) (hg : Br.GC Try.prog W) (hTh : Thr.N ≤ W.heap.size) (B1 : BelL W.heap.size W w1) (T1 : Tks w1 (some ⟨J, 0, none⟩) ts) (I1 : Ins w1 (some ⟨C, 0, none⟩) ch) (R1 : Ins w1 (some ⟨R, 0, none⟩) (resOf ts)) (y0 y1 y2 y5 y6 y7 y9 y10 y11 y12 y13 y14 y15 y16 y17 y18 y19 y20 y21 y22 y23 y24 y25 y26 y27 y28 y29 y30 y31 y32 y33 y34 y35 y36 y37 y38 y39 y40 y41 y42 y43 y44 y45 y46 y47 y48 y49 y50 y51 y52 y53 y54 y55 y56 y57 y58 y59 y60 y61 y62 y63 y64 y65 y66 y67 y68 y69 y70 y71 y72 y73 y74 y75 y76 y77 y78 y79 y80 y81 y82 y83 y84 y85 y86 y87 y88 y89 y90 y91 y92 y93 y94 y95 y96 y97 y98 y99 y100 y101 y102 y103 y104 y105 y106 y107 y108 y109 y110 y111 y112 y113 y114 y115 y116 y117 y118 y119 y120 y121 y122 y123 y124 y125 y126 y127 y128 y129 y130 y131 y132 y133 y134 y135 y136 y137 y138 y139 y140 y141 y142 y143 y144 y145 y146 y147 y148 y149 y150 y151 y152 y153 y154 y155 y156 y157 y158 y159 y160 y161 y162 y163 y164 y165 y166 y167 y168 y169 : Value) :
    BT Try.prog (AtEnd0 Try.prog (PostL W)) (G ((base 4).at ⟨#[y0, y1, y2, .slice (some ⟨J, 0, none⟩) ts.length cJ, .slice (some ⟨C, 0, none⟩) ch.length cC, y5, y6, y7, .slice (some ⟨R, 0, none⟩) (resOf ts).length cR, y9, y10, y11, y12, y13, y14, y15, y16, y17, y18, y19, y20, y21, y22, y23, y24, y25, y26, y27, y28, y29, y30, y31, y32, y33, y34, y35, y36, y37, y38, y39, y40, y41, y42, y43, y44, y45, y46, y47, y48, y49, y50, y51, y52, y53, y54, y55, y56, y57, y58, y59, y60, y61, y62, y63, y64, y65, y66, y67, y68, y69, y70, y71, y72, y73, y74, y75, y76, y77, y78, y79, y80, y81, y82, y83, y84, y85, y86, y87, y88, y89, y90, y91, y92, y93, y94, y95, y96, y97, y98, y99, y100, y101, y102, y103, y104, y105, y106, y107, y108, y109, y110, y111, y112, y113, y114, y115, y116, y117, y118, y119, y120, y121, y122, y123, y124, y125, y126, y127, y128, y129, y130, y131, y132, y133, y134, y135, y136, y137, y138, y139, y140, y141, y142, y143, y144, y145, y146, y147, y148, y149, y150, y151, y152, y153, y154, y155, y156, y157, y158, y159, y160, y161, y162, y163, y164, y165, y166, y167, y168, y169], []⟩ [.code (sdc 10 (Try.f4.body.getD .skip))]) []) w1 := by
  have hn0 : 0 < ts.length := by have := (List.getElem?_eq_some_iff.1 ht).1; omega
  have hn200 : ts.length ≤ 200 := job_short hJ
  have tk := job_tok hJ ht
  have hv0 := tk.val0
  have hv1 := tk.val1
  have hvl : t.2.1 < 10000000 := by omega
  have hkJ := bump_ok hJ ht hvl
  have hkl := bump_len ts c0
  have g1 := gc_belL B1 hg
  show BT Try.prog (AtEnd0 Try.prog (PostL W)) (G ((base 4).at _ [.code (.seq (rft (sdc 10 (Try.f4.body.getD .skip))) (sdc 11 (Try.f4.body.getD .skip)))]) []) w1
  refine kA ?_
  refine Br.BT.code (R := fun a' w' => ∃ g cp qs, a' = ⟨#[y0, y1, y2, .slice (some ⟨J, 0, none⟩) ts.length cJ, .slice (some ⟨C, 0, none⟩) ch.length cC, y5, y6, y7, .slice (some ⟨R, 0, none⟩) (resOf ts).length cR, .slice (some ⟨g, 0, none⟩) ts.length cp, y10, y11, y12, y13, y14, y15, y16, y17, y18, y19, y20, y21, y22, y23, y24, y25, y26, y27, y28, y29, y30, y31, y32, y33, y34, y35, y36, y37, y38, y39, y40, y41, y42, y43, y44, y45, y46, y47, y48, y49, y50, y51, y52, y53, y54, y55, y56, y57, y58, y59, y60, y61, y62, y63, y64, y65, y66, y67, y68, y69, y70, y71, y72, y73, y74, y75, y76, y77, y78, y79, y80, y81, y82, .slice (some ⟨w1.heap.size, 0, none⟩) 0 0, .slice (some ⟨J, 0, none⟩) ts.length cJ, .slice (some ⟨g, 0, none⟩) ts.length cp, y86, y87, y88, y89, y90, y91, y92, y93, y94, y95, y96, y97, y98, y99, y100, y101, y102, y103, y104, y105, y106, y107, y108, y109, y110, y111, y112, y113, y114, y115, y116, y117, y118, y119, y120, y121, y122, y123, y124, y125, y126, y127, y128, y129, y130, y131, y132, y133, y134, y135, y136, y137, y138, y139, y140, y141, y142, y143, y144, y145, y146, y147, y148, y149, y150, y151, y152, y153, y154, y155, y156, y157, y158, y159, y160, y161, y162, y163, y164, y165, y166, y167, y168, y169], []⟩ ∧ KT w1 qs ts ∧ OwnQ w' w1.heap.size g ts.length cp qs ∧ BelL w1.heap.size w1 w') zgOk Try.func4 rfl ok4_10 rfl g1 (fun a w T d ⟨g, cp, qs, h1, h2, h3, h4⟩ => ⟨g, cp, qs, h1, h2, h3, h4.rtt⟩) (fun T d => ?_) (fun a' w' ⟨_, _, _, _, _, _, h⟩ => belL_pz h) (fun a' w2 h2 => ?_)
  · refine wp_mono (gl_10 (w := rt T d w1) (ts := ts) (J := J) (cJ := cJ) T1 hn0 (by omega) y0 y1 y2 (.slice (some ⟨C, 0, none⟩) ch.length cC) y5 y6 y7 (.slice (some ⟨R, 0, none⟩) (resOf ts).length cR) y9 y10 y11 y12 y13 y14 y15 y16 y17 y18 y19 y20 y21 y22 y23 y24 y25 y26 y27 y28 y29 y30 y31 y32 y33 y34 y35 y36 y37 y38 y39 y40 y41 y42 y43 y44 y45 y46 y47 y48 y49 y50 y51 y52 y53 y54 y55 y56 y57 y58 y59 y60 y61 y62 y63 y64 y65 y66 y67 y68 y69 y70 y71 y72 y73 y74 y75 y76 y77 y78 y79 y80 y81 y82 y83 y84 y85 y86 y87 y88 y89 y90 y91 y92 y93 y94 y95 y96 y97 y98 y99 y100 y101 y102 y103 y104 y105 y106 y107 y108 y109 y110 y111 y112 y113 y114 y115 y116 y117 y118 y119 y120 y121 y122 y123 y124 y125 y126 y127 y128 y129 y130 y131 y132 y133 y134 y135 y136 y137 y138 y139 y140 y141 y142 y143 y144 y145 y146 y147 y148 y149 y150 y151 y152 y153 y154 y155 y156 y157 y158 y159 y160 y161 y162 y163 y164 y165 y166 y167 y168 y169) ?_
    rintro e a' w' ⟨he, g, cp, qs, h1, h2, h3, h4⟩
    exact ⟨he, g, cp, qs, h1, ⟨h2.len, h2.rel⟩, h3, belL_any h4⟩
  obtain ⟨g, cp, qs, rfl, hK, o2, k2⟩ := h2
  obtain ⟨q, hq, hqv, hKb⟩ := kt_bump hK ht
  have B2 := B1.trans k2 B1.size
  have g2 := gc_belL B2 hg
  have I2 := ins_low k2 I1
  show BT Try.prog (AtEnd0 Try.prog (PostL W)) (G ((base 4).at _ [.code (.seq (rft (sdc 11 (Try.f4.body.getD .skip))) (sdc 12 (Try.f4.body.getD .skip)))]) []) w2
  refine kA ?_
  refine Br.BT.code (R := fun a' w' => ∃ T, a' = ⟨T, []⟩ ∧ T.size = 170 ∧ T[3]? = some (.slice (some ⟨J, 0, none⟩) ts.length cJ) ∧ T[4]? = some (.slice (some ⟨C, 0, none⟩) ch.length cC) ∧ T[8]? = some (.slice (some ⟨R, 0, none⟩) (resOf ts).length cR) ∧ T[9]? = some (.slice (some ⟨g, 0, none⟩) ts.length cp) ∧ OwnQ w' w1.heap.size g ts.length cp (qs.set c0 (q.1, t.2.1 + 1, q.2.2)) ∧ BelL w1.heap.size w1 w' ∧ ∀ k, Pz w2 k → Pz w' k) zgOk Try.func4 rfl ok4_11 rfl g2 (fun a w T d ⟨T', h1, h2, h3, h4, h5, h6, h7, h8, h9⟩ => ⟨T', h1, h2, h3, h4, h5, h6, h7, h8.rtt, h9⟩) (fun T d => ?_) (fun a' w' ⟨_, _, _, _, _, _, _, _, _, h⟩ => h) (fun a' w3 h3 => ?_)
  · refine wp_mono (gl_11 (W0 := { w1 with tape := (rt T d w2).tape, os := (rt T d w2).os }) (w := rt T d w2) (ts := ts) (ch := ch) (qs := qs) (x := q) (c0 := c0) (C := C) (cC := cC) (g := g) (cp := cp) I2 hc o2 hq (by rw [hqv]; exact hv0) (by rw [hqv]; exact hvl) ⟨rfl, rfl, k2.output, k2.size, k2.block⟩ (by omega) (by omega) _ _ _ _ _ _ _ _ _ _ _ _ _ _ _ _ _ _ _ _ _ _ _ _ _ _ _ _ _ _ _ _ _ _ _ _ _ _ _ _ _ _ _ _ _ _ _ _ _ _ _ _ _ _ _ _ _ _ _ _ _ _ _ _ _ _ _ _ _ _ _ _ _ _ _ _ _ _ _ _ _ _ _ _ _ _ _ _ _ _ _ _ _ _ _ _ _ _ _ _ _ _ _ _ _ _ _ _ _ _ _ _ _ _ _ _ _ _ _ _ _ _ _ _ _ _ _ _ _ _ _ _ _ _ _ _ _ _ _ _ _ _ _ _ _ _ _ _ _ _ _ _ _ _ _ _ _ _ _ _ _ _ _ _ _ _ _ _) ?_
    rintro e a' w' ⟨he, T', h1, h2, h3, h4, h5, h6, h7, h8, h9⟩
    rw [hqv] at h7
    refine ⟨he, T', h1, h2, h3, h4, h5, h6, h7, ⟨by rw [h8.os]; exact k2.os, h8.output, h8.size, h8.block⟩, fun k hp => ?_⟩
    by_cases e : k = g
    · subst e
      exact absurd hp (ownQ_npz o2 hn0)
    · obtain ⟨y, hy⟩ := hp
      exact ⟨y, (h9 k e).trans hy⟩
  obtain ⟨Tf, rfl, hTf, t3, t4, t8, t9, o3, k3, _⟩ := h3
  obtain ⟨v, rfl⟩ := array170 Tf hTf
  simp only [List.getElem?_toArray, List.getElem?_cons_succ, List.getElem?_cons_zero, Option.some.injEq] at t3 t4 t8 t9
  rw [t3, t4, t8, t9]
  have B3 := B1.trans k3 B1.size
  have T3 := tks_low k3 T1
  have I3 := ins_low k3 I1
  have Q3 := ins_low k3 R1
  have U3 : Tks w3 (some ⟨g, 0, none⟩) (bump ts c0) := kt_tks (w := { w1 with tape := w3.tape, os := w3.os }) ⟨hKb.len, hKb.rel⟩ ⟨rfl, rfl, k3.output, k3.size, k3.block⟩ o3
  have hl : ts.length ≤ maxLen := by unfold maxLen; omega
  have hlb : (bump ts c0).length ≤ maxLen := by rw [hkl]; exact hl
  clear k2 o2 B2 g2 I2 hK hKb hq hqv o3 k3 T1 I1 R1 g1
  simp only [sdc, Try.f4, Option.getD_some]
  (repeat (first | refine kA ?_ | refine kB ?_ | refine kC ?_ | refine kF ?_ | (refine kG ?_; simp only [List.size_toArray, List.length_cons, List.length_nil, Nat.reduceAdd, Nat.zero_add, List.range, List.range.loop]) | (refine kO rfl (by rfl) (by decide) (by decide) (fun dzz Kzz hKzz => ?_); go_simp; refine hKzz _ _ (fun b hb => hb) (bt_at ?_); clear hKzz Kzz; try walk_nrm) | (refine bt_skip rfl (by rfl) ?_; try walk_nrm)))
  have hres := res_B (cap := cp) hlb U3 (gc_belL B3 hg) (Nat.le_trans hTh B3.size)
  rw [hkl] at hres
  refine bt_callB hres Try.func21 nm21 b21 rfl rfl rfl (by k_ne) (by simp [Act.eval]) (fun v w4 h4 => ?_)
  obtain ⟨g10, rfl, _, hh4, k4⟩ := h4
  have S4 := ins_own hh4
  clear hh4 hres
  have B4 := B3.trans k4 B3.size
  have T4 := tks_low k4 T3
  have I4 := ins_low k4 I3
  have Q4 := ins_low k4 Q3
  have U4 := tks_low k4 U3
  clear B3 T3 I3 Q3 U3
  walk_nrm
  (repeat (first | refine kA ?_ | refine kB ?_ | refine kC ?_ | refine kF ?_ | (refine kG ?_; simp only [List.size_toArray, List.length_cons, List.length_nil, Nat.reduceAdd, Nat.zero_add, List.range, List.range.loop]) | (refine kO rfl (by rfl) (by decide) (by decide) (fun dzz Kzz hKzz => ?_); go_simp; refine hKzz _ _ (fun b hb => hb) (bt_at ?_); clear hKzz Kzz; try walk_nrm) | (refine bt_skip rfl (by rfl) ?_; try walk_nrm)))
  have hreu := reu_B (cap := cJ) (cb := cp) hl hlb T4 U4 (gc_belL B4 hg) (Nat.le_trans hTh B4.size)
  rw [hkl] at hreu
  refine bt_callB hreu Try.func20 nm20 b20 rfl rfl rfl (by k_ne) (by simp [Act.eval]) (fun v w5 h5 => ?_)
  obtain ⟨g11, c11, rfl, hh5, k5⟩ := h5
  have V5 := Go.Proofs.Ytpmmimcafkillaa.ins_own hh5
  clear hh5 hreu
  have B5 := B4.trans k5 B4.size
  have T5 := tks_low k5 T4
  have I5 := ins_low k5 I4
  have Q5 := ins_low k5 Q4
  have U5 := tks_low k5 U4
  have S5 := ins_low k5 S4
  clear B4 T4 I4 Q4 U4 S4
  walk_nrm
  have hcl : 1 ≤ ch.length := (List.getElem?_eq_some_iff.1 hc).1
  have hc1 : 1 ≤ cC := by omega
  (repeat (first | refine kA ?_ | refine kB ?_ | refine kC ?_ | refine kF ?_ | (refine kG ?_; simp only [List.size_toArray, List.length_cons, List.length_nil, Nat.reduceAdd, Nat.zero_add, List.range, List.range.loop]) | (refine kO rfl (by rfl) (by decide) (by decide) (fun dzz Kzz hKzz => ?_); go_simp; refine hKzz _ _ (fun b hb => hb) (bt_at ?_); clear hKzz Kzz; try walk_nrm) | (refine bt_skip rfl (by rfl) ?_; try walk_nrm)))
  refine bt_pure rfl (fun W => stepG_sl rfl rfl (by k_ne) rfl rfl hc1) ?_
  walk_nrm
  have I1c : Ins w5 (some ⟨C, 0, none⟩) [(c0 : Int)] := ins_one I5 hc
  have hdt := dirty_B (cap := cJ) (c := cC) hl T5 (ch := [(c0 : Int)]) (by unfold maxLen; simp) I1c (gc_belL B5 hg) (Nat.le_trans hTh B5.size)
  refine bt_callB hdt Try.func16 nm16 b16 rfl rfl rfl (by k_ne) (by simp [Act.eval]) (fun v w6 h6 => ?_)
  obtain ⟨g12, c12, rfl, hh6, k6⟩ := h6
  have O6 := Go.Proofs.Ytpmmimcafkillaa.ins_own hh6
  clear hh6 hdt
  have B6 := B5.trans k6 B5.size
  have T6 := tks_low k6 T5
  have I6 := ins_low k6 I5
  have Q6 := ins_low k6 Q5
  have U6 := tks_low k6 U5
  have S6 := ins_low k6 S5
  have V6 := ins_low k6 V5
  clear B5 T5 I5 Q5 U5 S5 V5
  walk_nrm
  refine kO rfl (by rfl) (by decide) (by decide) (fun dzz Kzz hKzz => ?_)
  go_simp
  refine hKzz _ _ (fun b hb => hb) (bt_at ?_)
  clear hKzz Kzz
  try walk_nrm
  refine kC ?_
  have hAl : (resOf ts).length = ts.length := by unfold resOf; rw [if_pos hJ, out_len]
  have hSl : (resOf (bump ts c0)).length = ts.length := by unfold resOf; rw [if_pos hkJ, out_len, hkl]
  have hUl : (reuOf ts (bump ts c0)).length = ts.length := reu_len2 hJ ht hvl
  have hdy : dty ts [(c0 : Int)] = dlk (outOf (dtR [(c0 : Int)]) ts) ts.length := by
    unfold dty
    rw [if_pos (by simp [hJ, chOk, Go.Proofs.Ytpmmimcafkillaa.chIn]; exact (List.getElem?_eq_some_iff.1 ht).1)]
  have hcc : ∀ k : Nat, k < (resOf ts).length → (k : Int) ∉ dty ts [(c0 : Int)] → (resOf (bump ts c0))[k]? = (resOf ts)[k]? ∧ (reuOf ts (bump ts c0))[k]? = some 0 := by
    intro k hk hno
    rw [hAl] at hk
    have hn1 : (outOf (dtR [(c0 : Int)]) ts).getD k 0 ≠ 1 := fun e => hno (by rw [hdy]; exact (mem_dlk hk).2 e)
    refine ⟨?_, reu_clean hJ ht hvl hk hn1⟩
    have h := res_stay hJ ht hvl k hk hn1
    unfold resOf
    rw [if_pos hJ, if_pos hkJ]
    have a1 : k < (outOf (resR ts) ts).length := by rw [out_len]; exact hk
    have a2 : k < (outOf (resR (bump ts c0)) (bump ts c0)).length := by rw [out_len, hkl]; exact hk
    rw [List.getD_eq_getElem?_getD, List.getD_eq_getElem?_getD, List.getElem?_eq_getElem a1, List.getElem?_eq_getElem a2] at h
    rw [List.getElem?_eq_getElem a1, List.getElem?_eq_getElem a2]
    exact congrArg some h
  show BT Try.prog (AtEnd0 Try.prog (PostL W)) (G ((base 4).at _ [.code (.seq (rft (sdc 15 (Try.f4.body.getD .skip))) (sdc 16 (Try.f4.body.getD .skip)))]) []) w6
  refine kA ?_
  refine Br.BT.code (R := fun a' w' => ∃ T, a' = ⟨T, []⟩ ∧ T.size = 170 ∧ T[4]? = some (.slice (some ⟨C, 0, none⟩) ch.length cC) ∧ T[8]? = some (.slice (some ⟨R, 0, none⟩) (resOf ts).length cR) ∧ T[10]? = some (.slice (some ⟨g10, 0, none⟩) (resOf (bump ts c0)).length (resOf (bump ts c0)).length) ∧ BelL w6.heap.size w6 w') zgOk Try.func4 rfl ok4_15 rfl (gc_belL B6 hg) (fun a w T d ⟨T', h1, h2, h3, h4, h5, h6⟩ => ⟨T', h1, h2, h3, h4, h5, h6.rtt⟩) (fun T d => ?_) (fun a' w' ⟨_, _, _, _, _, _, h⟩ => belL_pz h) (fun a' w7 h7 => ?_)
  · refine wp_mono (gl_15 (w := rt T d w6) (A := resOf ts) (S := resOf (bump ts c0)) (U := reuOf ts (bump ts c0)) (O := dty ts [(c0 : Int)]) (R := R) (cR := cR) (S10 := g10) (cS := (resOf (bump ts c0)).length) (U11 := g11) (cU := c11) (O12 := g12) (cO := c12) Q6 S6 V6 O6 (by rw [hSl, hAl]) hcc (by omega) (by have := dty_len (ts := ts) (ch := [(c0 : Int)]); omega) _ _ _ _ _ _ _ _ _ _ _ _ _ _ _ _ _ _ _ _ _ _ _ _ _ _ _ _ _ _ _ _ _ _ _ _ _ _ _ _ _ _ _ _ _ _ _ _ _ _ _ _ _ _ _ _ _ _ _ _ _ _ _ _ _ _ _ _ _ _ _ _ _ _ _ _ _ _ _ _ _ _ _ _ _ _ _ _ _ _ _ _ _ _ _ _ _ _ _ _ _ _ _ _ _ _ _ _ _ _ _ _ _ _ _ _ _ _ _ _ _ _ _ _ _ _ _ _ _ _ _ _ _ _ _ _ _ _ _ _ _ _ _ _ _ _ _ _ _ _ _ _ _ _ _ _ _ _ _ _ _ _ _ _ _ _) ?_
    rintro e a' w' ⟨he, T', h1, h2, h3, h4, h5, h6⟩
    exact ⟨he, T', h1, h2, h3, h4, h5, belL_any h6⟩
  obtain ⟨Tg, rfl, hTg, t4, t8, t10, k7⟩ := h7
  obtain ⟨u, rfl⟩ := array170 Tg hTg
  simp only [List.getElem?_toArray, List.getElem?_cons_succ, List.getElem?_cons_zero, Option.some.injEq] at t4 t8 t10
  rw [t4, t8, t10]
  have B7 := B6.trans k7 B6.size
  have I7 := ins_low k7 I6
  have Q7 := ins_low k7 Q6
  have S7 := ins_low k7 S6
  have hcx : c0 < ts.length := (List.getElem?_eq_some_iff.1 ht).1
  obtain ⟨x, hx⟩ : ∃ x, (resOf ts)[c0]? = some x := ⟨_, List.getElem?_eq_getElem (by omega)⟩
  obtain ⟨y, hy⟩ : ∃ x, (resOf (bump ts c0))[c0]? = some x := ⟨_, List.getElem?_eq_getElem (by omega)⟩
  have hxy : y ≠ x := by
    have h := res_differs hJ ht hvl
    unfold resOf at hx hy
    rw [if_pos hJ] at hx
    rw [if_pos hkJ] at hy
    rw [List.getD_eq_getElem?_getD, List.getD_eq_getElem?_getD, hx, hy] at h
    exact h
  show BT Try.prog (AtEnd0 Try.prog (PostL W)) (G ((base 4).at _ [.code (.seq (rft (sdc 16 (Try.f4.body.getD .skip))) (sdc 17 (Try.f4.body.getD .skip)))]) []) w7
  refine kA ?_
  refine Br.BT.code (R := fun a' w' => ∃ T, a' = ⟨T, []⟩ ∧ T.size = 170 ∧ T[2]? = some (.bool true) ∧ BelL w7.heap.size w7 w') zgOk Try.func4 rfl ok4_16 rfl (gc_belL B7 hg) (fun a w T d ⟨T', h1, h2, h3, h6⟩ => ⟨T', h1, h2, h3, h6.rtt⟩) (fun T d => ?_) (fun a' w' ⟨_, _, _, _, h⟩ => belL_pz h) (fun a' w8 h8 => ?_)
  · refine wp_mono (gl_16 (w := rt T d w7) (ch := ch) (A := resOf ts) (S := resOf (bump ts c0)) (c0 := c0) (C := C) (cC := cC) (R := R) (cR := cR) (S10 := g10) (cS := (resOf (bump ts c0)).length) I7 hc Q7 S7 (by rw [hSl, hAl]) hx hy hxy (by omega) (by omega) _ _ _ _ _ _ _ _ _ _ _ _ _ _ _ _ _ _ _ _ _ _ _ _ _ _ _ _ _ _ _ _ _ _ _ _ _ _ _ _ _ _ _ _ _ _ _ _ _ _ _ _ _ _ _ _ _ _ _ _ _ _ _ _ _ _ _ _ _ _ _ _ _ _ _ _ _ _ _ _ _ _ _ _ _ _ _ _ _ _ _ _ _ _ _ _ _ _ _ _ _ _ _ _ _ _ _ _ _ _ _ _ _ _ _ _ _ _ _ _ _ _ _ _ _ _ _ _ _ _ _ _ _ _ _ _ _ _ _ _ _ _ _ _ _ _ _ _ _ _ _ _ _ _ _ _ _ _ _ _ _ _ _ _ _ _ _) ?_
    rintro e a' w' ⟨he, T', h1, h2, h3, h4⟩
    exact ⟨he, T', h1, h2, h3, belL_any h4⟩
  obtain ⟨Th, rfl, hTh8, t2, k8⟩ := h8
  obtain ⟨z, rfl⟩ := array170 Th hTh8
  simp only [List.getElem?_toArray, List.getElem?_cons_succ, List.getElem?_cons_zero, Option.some.injEq] at t2
  rw [t2]
  simp only [sdc, Try.f4, Option.getD_some]
  (repeat (first | refine kA ?_ | refine kB ?_ | refine kC ?_ | refine kF ?_ | (refine kG ?_; simp only [List.size_toArray, List.length_cons, List.length_nil, Nat.reduceAdd, Nat.zero_add, List.range, List.range.loop]) | (refine kO rfl (by rfl) (by decide) (by decide) (fun dzz Kzz hKzz => ?_); go_simp; refine hKzz _ _ (fun b hb => hb) (bt_at ?_); clear hKzz Kzz; try walk_nrm) | (refine bt_skip rfl (by rfl) ?_; try walk_nrm)))
  exact bt_endK rfl rfl (B7.trans k8 B7.size)
end Go.Proofs.Ytpmmimcafkillaa.Tr

set_option linter.unusedVariables false
set_option linter.unusedSimpArgs false
namespace Go.Proofs.Ytpmmimcafkillaa.Tr
open Go Go.Conc Go.RowKit
open Go.Proofs.Ytpmmimcafkillaa.Br (BT BTS Hd Hid Pz Pst Shn Thr EvN bt_ctl bt_cons bt_skip bt_call bt_callB bt_enter CallsB rt AtEnd0)
open Go.Proofs.Ytpmmimcafkillaa.Rs (Rule outOf out_at out_len resR dtR hst)
open Go.Proofs.Ytpmmimcafkillaa (Tv Tks Ins jobOk job_tok TOk job_short tot OwnI iv RdB DyD ddy_any sin_any sjob_any sres_any sdty_any dtyOf chOk dlk RSd reuOf ruk_len KT OwnQ kt_tks kt_bump bump bump_ok bump_len Tq res_stay res_differs reu_same reu_clean reu_len2 mem_dlk)
theorem reu_self {ts : List Tv} (hJ : jobOk ts = true) : (reuOf ts ts).length = ts.length := by
  unfold reuOf
  rw [if_pos (by simp [hJ]), ruk_len]
def snt : Code → Code
  | .seq _ b => b
  | c => c
theorem dty_range {ts : List Tv} {ch : List Int} (h : (dty ts ch).length ≠ 0) : ∀ x ∈ ch, 0 ≤ x ∧ x < ts.length := by
  unfold dty at h
  split at h
  · next hc =>
    have h2 := (Bool.and_eq_true_iff.1 hc).2
    exact Go.Proofs.Ytpmmimcafkillaa.chIn_mem (Bool.and_eq_true_iff.1 h2).2
  · exact absurd rfl h
set_option maxRecDepth 100000 in
set_option maxHeartbeats 16000000 in
theorem lawRe2 [Thr] {W w1 : World} {ts : List Tv} {ch : List Int} {J cJ C cC D5 c5 g6 c6 : Nat} (hJ : jobOk ts = true) (hch : ch.length ≤ 1000) (hcap : ch.length ≤ cC) (hg : Br.GC Try.prog W) (hTh : Thr.N ≤ W.heap.size) (B1 : BelL W.heap.size W w1) (T1 : Tks w1 (some ⟨J, 0, none⟩) ts) (I1 : Ins w1 (some ⟨C, 0, none⟩) ch) (D1 : Ins w1 (some ⟨D5, 0, none⟩) (dty ts ch)) (S1 : Ins w1 (some ⟨g6, 0, none⟩) (reuOf ts ts)) (y0 y1 y2 y7 y8 y9 y10 y11 y12 y13 y14 y15 y16 y17 y18 y19 y20 y21 y22 y23 y24 y25 y26 y27 y28 y29 y30 y31 y32 y33 y34 y35 y36 y37 y38 y39 y40 y41 y42 y43 y44 y45 y46 y47 y48 y49 y50 y51 y52 y53 y54 y55 y56 y57 y58 y59 y60 y61 y62 y63 y64 y65 y66 y67 y68 y69 y70 y71 y72 y73 y74 y75 y76 y77 y78 y79 y80 y81 y82 y83 y84 y85 y86 y87 y88 y89 y90 y91 y92 y93 y94 y95 y96 y97 y98 y99 y100 y101 y102 y103 y104 y105 y106 y107 y108 y109 y110 y111 y112 y113 y114 y115 y116 y117 y118 y119 y120 y121 y122 y123 y124 y125 y126 y127 y128 y129 y130 y131 y132 y133 y134 y135 y136 y137 y138 y139 y140 y141 y142 y143 y144 y145 y146 y147 y148 y149 y150 y151 y152 y153 y154 y155 y156 y157 y158 y159 y160 y161 y162 y163 y164 y165 y166 y167 y168 y169 : Value) :
    BT Try.prog (AtEnd0 Try.prog (PostL W)) (G ((base 4).at ⟨#[y0, y1, y2, .slice (some ⟨J, 0, none⟩) ts.length cJ, .slice (some ⟨C, 0, none⟩) ch.length cC, .slice (some ⟨D5, 0, none⟩) (dty ts ch).length c5, .slice (some ⟨g6, 0, none⟩) (reuOf ts ts).length c6, y7, y8, y9, y10, y11, y12, y13, y14, y15, y16, y17, y18, y19, y20, y21, y22, y23, y24, y25, y26, y27, y28, y29, y30, y31, y32, y33, y34, y35, y36, y37, y38, y39, y40, y41, y42, y43, y44, y45, y46, y47, y48, y49, y50, y51, y52, y53, y54, y55, y56, y57, y58, y59, y60, y61, y62, y63, y64, y65, y66, y67, y68, y69, y70, y71, y72, y73, y74, y75, y76, y77, y78, y79, y80, y81, y82, y83, y84, y85, y86, y87, y88, y89, y90, y91, y92, y93, y94, y95, y96, y97, y98, y99, y100, y101, y102, y103, y104, y105, y106, y107, y108, y109, y110, y111, y112, y113, y114, y115, y116, y117, y118, y119, y120, y121, y122, y123, y124, y125, y126, y127, y128, y129, y130, y131, y132, y133, y134, y135, y136, y137, y138, y139, y140, y141, y142, y143, y144, y145, y146, y147, y148, y149, y150, y151, y152, y153, y154, y155, y156, y157, y158, y159, y160, y161, y162, y163, y164, y165, y166, y167, y168, y169], []⟩ [.code (sdc 7 (Try.f4.body.getD .skip))]) []) w1 := by
  have hn200 : ts.length ≤ 200 := job_short hJ
  have hl : ts.length ≤ maxLen := by unfold maxLen; omega
  show BT Try.prog (AtEnd0 Try.prog (PostL W)) (G ((base 4).at _ [.code (.seq (rft (sdc 7 (Try.f4.body.getD .skip))) (sdc 8 (Try.f4.body.getD .skip)))]) []) w1
  refine kA ?_
  refine Br.BT.code (R := fun a' w' => ∃ T, a' = ⟨T, []⟩ ∧ T.size = 170 ∧ T[3]? = some (.slice (some ⟨J, 0, none⟩) ts.length cJ) ∧ T[4]? = some (.slice (some ⟨C, 0, none⟩) ch.length cC) ∧ T[5]? = some (.slice (some ⟨D5, 0, none⟩) (dty ts ch).length c5) ∧ T[6]? = some (.slice (some ⟨g6, 0, none⟩) (reuOf ts ts).length c6) ∧ BelL w1.heap.size w1 w') zgOk Try.func4 rfl ok4_7 rfl (gc_belL B1 hg) (fun a w T d ⟨T', h1, h2, h3, h4, h5, h6, h7⟩ => ⟨T', h1, h2, h3, h4, h5, h6, h7.rtt⟩) (fun T d => ?_) (fun a' w' ⟨_, _, _, _, _, _, _, h⟩ => belL_pz h) (fun a' w2 h2 => ?_)
  · refine wp_mono (gl_7 (w := rt T d w1) (s := reuOf ts ts) (g6 := g6) (c6 := c6) S1 reu_same (by rw [reu_self hJ]; omega) _ _ _ (.slice (some ⟨J, 0, none⟩) ts.length cJ) (.slice (some ⟨C, 0, none⟩) ch.length cC) (.slice (some ⟨D5, 0, none⟩) (dty ts ch).length c5) _ _ _ _ _ _ _ _ _ _ _ _ _ _ _ _ _ _ _ _ _ _ _ _ _ _ _ _ _ _ _ _ _ _ _ _ _ _ _ _ _ _ _ _ _ _ _ _ _ _ _ _ _ _ _ _ _ _ _ _ _ _ _ _ _ _ _ _ _ _ _ _ _ _ _ _ _ _ _ _ _ _ _ _ _ _ _ _ _ _ _ _ _ _ _ _ _ _ _ _ _ _ _ _ _ _ _ _ _ _ _ _ _ _ _ _ _ _ _ _ _ _ _ _ _ _ _ _ _ _ _ _ _ _ _ _ _ _ _ _ _ _ _ _ _ _ _ _ _ _ _ _ _ _ _ _ _ _ _ _ _ _ _) ?_
    rintro e a' w' ⟨he, T', h1, h2, h3, h4, h5, h6, h7⟩
    refine ⟨he, T', h1, h2, h3, h4, h5, h6, ?_⟩
    subst h7
    exact belL_any (w := w1) (Below.refl _ _)
  obtain ⟨Tf, rfl, hTf, t3, t4, t5, t6, k2⟩ := h2
  obtain ⟨v, rfl⟩ := array170 Tf hTf
  simp only [List.getElem?_toArray, List.getElem?_cons_succ, List.getElem?_cons_zero, Option.some.injEq] at t3 t4 t5 t6
  rw [t3, t4, t5, t6]
  have B2 := B1.trans k2 B1.size
  have T2 := tks_low k2 T1
  have I2 := ins_low k2 I1
  have D2 := ins_low k2 D1
  clear B1 T1 I1 D1
  clear k2 S1
  obtain ⟨X, hX⟩ : ∃ X, sdc 9 (Try.f4.body.getD .skip) = X := ⟨_, rfl⟩
  show BT Try.prog (AtEnd0 Try.prog (PostL W)) (G ((base 4).at _ [.code (.seq (rft (sdc 8 (Try.f4.body.getD .skip))) (sdc 9 (Try.f4.body.getD .skip)))]) []) w2
  rw [hX]
  simp only [rft, sdc, Try.f4, Option.getD_some]
  (repeat (first | refine kA ?_ | refine kB ?_ | refine kC ?_ | refine kF ?_ | (refine kG ?_; simp only [List.size_toArray, List.length_cons, List.length_nil, Nat.reduceAdd, Nat.zero_add, List.range, List.range.loop]) | (refine kO rfl (by rfl) (by decide) (by decide) (fun dzz Kzz hKzz => ?_); go_simp; refine hKzz _ _ (fun b hb => hb) (bt_at ?_); clear hKzz Kzz; try walk_nrm) | (refine bt_skip rfl (by rfl) ?_; try walk_nrm)))
  have hres := res_B (cap := cJ) hl T2 (gc_belL B2 hg) (Nat.le_trans hTh B2.size)
  refine bt_callB hres Try.func21 nm21 b21 rfl rfl rfl (by k_ne) (by simp [Act.eval]) (fun v w3 h3 => ?_)
  obtain ⟨R, rfl, _, hh3, k3⟩ := h3
  have A3 := ins_own hh3
  clear hh3 hres
  have B3 := B2.trans k3 B2.size
  have T3 := tks_low k3 T2
  have I3 := ins_low k3 I2
  have D3 := ins_low k3 D2
  clear B2 T2 I2 D2
  walk_nrm
  (repeat (first | refine kA ?_ | refine kB ?_ | refine kC ?_ | refine kF ?_ | (refine kG ?_; simp only [List.size_toArray, List.length_cons, List.length_nil, Nat.reduceAdd, Nat.zero_add, List.range, List.range.loop]) | (refine kO rfl (by rfl) (by decide) (by decide) (fun dzz Kzz hKzz => ?_); go_simp; refine hKzz _ _ (fun b hb => hb) (bt_at ?_); clear hKzz Kzz; try walk_nrm) | (refine bt_skip rfl (by rfl) ?_; try walk_nrm)))
  rw [← hX]
  clear hX
  show BT Try.prog (AtEnd0 Try.prog (PostL W)) (G ((base 4).at _ [.code (.seq (.seq (rft (rft (sdc 9 (Try.f4.body.getD .skip)))) (snt (rft (sdc 9 (Try.f4.body.getD .skip))))) (sdc 10 (Try.f4.body.getD .skip)))]) []) w3
  refine kA ?_
  refine kA ?_
  refine Br.BT.code (R := fun a' w' => ∃ T b, a' = ⟨T, []⟩ ∧ T.size = 170 ∧ T[3]? = some (.slice (some ⟨J, 0, none⟩) ts.length cJ) ∧ T[4]? = some (.slice (some ⟨C, 0, none⟩) ch.length cC) ∧ T[6]? = some (.slice (some ⟨g6, 0, none⟩) (reuOf ts ts).length c6) ∧ T[8]? = some (.slice (some ⟨R, 0, none⟩) (resOf ts).length (resOf ts).length) ∧ T[71]? = some (.bool b) ∧ (b = false → (dty ts ch).length ≠ 0 ∧ ∃ (c0 : Nat) (t : Tv), ch[0]? = some (c0 : Int) ∧ ts[c0]? = some t ∧ t.2.1 ≠ 10000000) ∧ BelL w3.heap.size w3 w') zgOk Try.func4 rfl ok4_9 rfl (gc_belL B3 hg) (fun a w T d ⟨T', b, h1, h2, h3, h4, h5, h6, h7, h8, h9⟩ => ⟨T', b, h1, h2, h3, h4, h5, h6, h7, h8, h9.rtt⟩) (fun T d => ?_) (fun a' w' ⟨_, _, _, _, _, _, _, _, _, _, h⟩ => belL_pz h) (fun a' w4 h4 => ?_)
  · refine wp_mono (gl_9 (w := rt T d w3) (ts := ts) (ch := ch) (d := dty ts ch) (J := J) (cJ := cJ) (C := C) (cC := cC) (Dg := D5) (cD := c5) T3 I3 dty_range (by omega) (by omega) _ _ _ (.slice (some ⟨g6, 0, none⟩) (reuOf ts ts).length c6) _ (.slice (some ⟨R, 0, none⟩) (resOf ts).length (resOf ts).length) _ _ _ _ _ _ _ _ _ _ _ _ _ _ _ _ _ _ _ _ _ _ _ _ _ _ _ _ _ _ _ _ _ _ _ _ _ _ _ _ _ _ _ _ _ _ _ _ _ _ _ _ _ _ _ _ _ _ _ _ _ _ _ _ _ _ _ _ _ _ _ _ _ _ _ _ _ _ _ _ _ _ _ _ _ _ _ _ _ _ _ _ _ _ _ _ _ _ _ _ _ _ _ _ _ _ _ _ _ _ _ _ _ _ _ _ _ _ _ _ _ _ _ _ _ _ _ _ _ _ _ _ _ _ _ _ _ _ _ _ _ _ _ _ _ _ _ _ _ _ _ _ _ _ _ _ _ _ _ _ _) ?_
    rintro e a' w' ⟨he, T', b, h1, h2, h3, h4, h5, h6, h7, h8, h9, h10⟩
    refine ⟨he, T', b, h1, h2, h3, h4, h6, h7, h8, h10, ?_⟩
    subst h9
    exact belL_any (w := w3) (Below.refl _ _)
  obtain ⟨Tg, b, rfl, hTg, t3, t4, t6, t8, t71, hb, k4⟩ := h4
  obtain ⟨u, rfl⟩ := array170 Tg hTg
  simp only [List.getElem?_toArray, List.getElem?_cons_succ, List.getElem?_cons_zero, Option.some.injEq] at t3 t4 t6 t8 t71
  rw [t3, t4, t6, t8, t71]
  have B4 := B3.trans k4 B3.size
  have T4 := tks_low k4 T3
  have I4 := ins_low k4 I3
  have D4 := ins_low k4 D3
  have A4 := ins_low k4 A3
  clear B3 T3 I3 D3 A3
  clear k4
  cases b with
  | false =>
    obtain ⟨_, c0, t, hc, ht, hne⟩ := hb rfl
    obtain ⟨X, hX⟩ : ∃ X, sdc 10 (Try.f4.body.getD .skip) = X := ⟨_, rfl⟩
    rw [hX]
    simp only [snt, rft, sdc, Try.f4, Option.getD_some]
    refine kI rfl ?_
    refine kB ?_
    rw [← hX]
    exact lawRe3 hJ (by omega) hcap hc ht hne hg hTh B4 T4 I4 A4 _ _ _ _ _ _ _ _ _ _ _ _ _ _ _ _ _ _ _ _ _ _ _ _ _ _ _ _ _ _ _ _ _ _ _ _ _ _ _ _ _ _ _ _ _ _ _ _ _ _ _ _ _ _ _ _ _ _ _ _ _ _ _ _ _ _ _ _ _ _ _ _ _ _ _ _ _ _ _ _ _ _ _ _ _ _ _ _ _ _ _ _ _ _ _ _ _ _ _ _ _ _ _ _ _ _ _ _ _ _ _ _ _ _ _ _ _ _ _ _ _ _ _ _ _ _ _ _ _ _ _ _ _ _ _ _ _ _ _ _ _ _ _ _ _ _ _ _ _ _ _ _ _ _ _ _ _ _ _ _ _ _ _ _ _ _ _
  | true =>
    clear hb
    have q1 : (((reuOf ts ts).length : Int) == (ts.length : Int)) = true := by rw [reu_self hJ]; simp
    simp only [snt, rft, sdc, Try.f4, Option.getD_some]
    refine kJ rfl ?_
    (repeat (first | refine kA ?_ | refine kB ?_ | refine kC ?_ | refine kF ?_ | (refine kG ?_; simp only [List.size_toArray, List.length_cons, List.length_nil, Nat.reduceAdd, Nat.zero_add, List.range, List.range.loop]) | (refine kO rfl (by rfl) (by decide) (by decide) (fun dzz Kzz hKzz => ?_); go_simp; refine hKzz _ _ (fun b hb => hb) (bt_at ?_); clear hKzz Kzz; try walk_nrm) | (refine bt_skip rfl (by rfl) ?_; try walk_nrm)))
    refine bt_call (R := RIn w4 (resOf ts)) zgOk (fun T d => srs_B (cap := cJ) hl T4) (gc_belL B4 hg) (fun v w T d h => h.rt) (fun v w' h => belL_pz h.choose_spec.choose_spec.2.2) zF22 (by simp [zK]) Try.func22 rfl rfl rfl rfl rfl (by k_ne) (by simp [Act.eval]) (fun v w5 h5 => ?_)
    obtain ⟨g13, c13, rfl, E5, k5⟩ := h5
    have B5 := B4.trans k5 B4.size
    have T5 := tks_low k5 T4
    have A5 := ins_low k5 A4
    clear B4 T4 A4
    walk_nrm
    refine bt_call (R := RBo w5 true) zgOk (fun T d => sin_B (cap := (resOf ts).length) (cb := c13) (Nat.le_trans res_len (by omega)) A5 E5) (gc_belL B5 hg) (fun v w T d h => h.rt) (fun v w' h => belL_pz h.2) zF17 (by simp [zK]) Try.func17 rfl rfl rfl rfl rfl (by k_ne) (by simp [Act.eval]) (fun v w6 h6 => ?_)
    obtain ⟨rfl, k6⟩ := h6
    have B6 := B5.trans k6 B5.size
    have T6 := tks_low k6 T5
    have A6 := ins_low k6 A5
    have E6 := ins_low k6 E5
    clear B5 T5 A5 E5
    walk_nrm
    (repeat (first | refine kA ?_ | refine kB ?_ | refine kC ?_ | refine kF ?_ | (refine kG ?_; simp only [List.size_toArray, List.length_cons, List.length_nil, Nat.reduceAdd, Nat.zero_add, List.range, List.range.loop]) | (refine kO rfl (by rfl) (by decide) (by decide) (fun dzz Kzz hKzz => ?_); go_simp; refine hKzz _ _ (fun b hb => hb) (bt_at ?_); clear hKzz Kzz; try walk_nrm) | (refine bt_skip rfl (by rfl) ?_; try walk_nrm)))
    exact bt_endK rfl rfl B6
end Go.Proofs.Ytpmmimcafkillaa.Tr

set_option linter.unusedVariables false
set_option linter.unusedSimpArgs false
namespace Go.Proofs.Ytpmmimcafkillaa.Tr
open Go Go.Conc Go.RowKit
open Go.Proofs.Ytpmmimcafkillaa.Br (BT BTS Hd Hid Pz Pst Shn Thr EvN bt_ctl bt_cons bt_skip bt_call bt_callB bt_enter CallsB rt AtEnd0)
open Go.Proofs.Ytpmmimcafkillaa.Rs (Rule outOf out_at out_len resR dtR hst)
open Go.Proofs.Ytpmmimcafkillaa (Tv Tks Ins jobOk job_tok TOk job_short tot OwnI iv RdB DyD ddy_any sin_any sjob_any sres_any sdty_any dtyOf chOk dlk RSd reuOf ruk_len KT OwnQ kt_tks kt_bump bump bump_ok bump_len Tq res_stay res_differs reu_same reu_clean reu_len2 mem_dlk)
theorem rdb_low {w w' : World} {a : Option Addr} {len : Nat} (hB : BelL w.heap.size w w') (h : RdB w w.heap.size a len) : RdB w' w'.heap.size a len := by
  intro j hj
  obtain ⟨b, o, z, e, h1, c, h2, h3⟩ := h j hj
  exact ⟨b, o, z, e, Nat.lt_of_lt_of_le h1 hB.size, cell_blk (hB.block _ (World.block_lt_of_cell? _ _ c)) c, h2, h3⟩
set_option maxRecDepth 100000 in
set_option maxHeartbeats 16000000 in
theorem lawRe [Thr] {W : World} (a : Option Addr) (cap len : Nat) (hr : RdB W W.heap.size a len) (hg : Br.GC Try.prog W) (hTh : Thr.N ≤ W.heap.size) :
    BT Try.prog (AtEnd0 Try.prog (PostL W)) (G (Frame.enter Try.prog 4 #[.slice a len cap] .normal) []) W := by
  have e4 : Frame.enter Try.prog 4 #[.slice a len cap] .normal = (base 4).at ⟨#[.slice a len cap, undef, undef, undef, undef, undef, undef, undef, undef, undef, undef, undef, undef, undef, undef, undef, undef, undef, undef, undef, undef, undef, undef, undef, undef, undef, undef, undef, undef, undef, undef, undef, undef, undef, undef, undef, undef, undef, undef, undef, undef, undef, undef, undef, undef, undef, undef, undef, undef, undef, undef, undef, undef, undef, undef, undef, undef, undef, undef, undef, undef, undef, undef, undef, undef, undef, undef, undef, undef, undef, undef, undef, undef, undef, undef, undef, undef, undef, undef, undef, undef, undef, undef, undef, undef, undef, undef, undef, undef, undef, undef, undef, undef, undef, undef, undef, undef, undef, undef, undef, undef, undef, undef, undef, undef, undef, undef, undef, undef, undef, undef, undef, undef, undef, undef, undef, undef, undef, undef, undef, undef, undef, undef, undef, undef, undef, undef, undef, undef, undef, undef, undef, undef, undef, undef, undef, undef, undef, undef, undef, undef, undef, undef, undef, undef, undef, undef, undef, undef, undef, undef, undef, undef, undef, undef, undef, undef, undef, undef, undef, undef, undef, undef, undef, undef, undef, undef, undef, undef, undef], []⟩ [.code (Try.f4.body.getD .skip)] := by
    simp [Frame.enter, Frame.at, Try.func4, base, Try.f4]
  rw [e4]
  clear e4
  simp only [Try.f4, Option.getD_some]
  by_cases hb : len ≤ 4096
  rotate_left
  · have hb2 : decide ((4096 : Int) < len) = true := by simp; omega
    (repeat (first | refine kA ?_ | refine kB ?_ | refine kC ?_ | refine kF ?_ | (refine kG ?_; simp only [List.size_toArray, List.length_cons, List.length_nil, Nat.reduceAdd, Nat.zero_add, List.range, List.range.loop]) | (refine kO rfl (by rfl) (by decide) (by decide) (fun dzz Kzz hKzz => ?_); go_simp; refine hKzz _ _ (fun b hb => hb) (bt_at ?_); clear hKzz Kzz; try walk_nrm) | (refine bt_skip rfl (by rfl) ?_; try walk_nrm)))
    refine bt_call (R := RBo W true) zgOk (fun T d => big_B (a := a) (cap := cap) hb2) hg (fun v w T d h => h.rt) (fun v w' h => belL_pz h.2) zF9 (by simp [zK]) Try.func9 rfl rfl rfl rfl rfl (by k_ne) (by simp [Act.eval]) (fun v w1 h1 => ?_)
    obtain ⟨rfl, B1⟩ := h1
    walk_nrm
    (repeat (first | refine kA ?_ | refine kB ?_ | refine kC ?_ | refine kF ?_ | (refine kG ?_; simp only [List.size_toArray, List.length_cons, List.length_nil, Nat.reduceAdd, Nat.zero_add, List.range, List.range.loop]) | (refine kO rfl (by rfl) (by decide) (by decide) (fun dzz Kzz hKzz => ?_); go_simp; refine hKzz _ _ (fun b hb => hb) (bt_at ?_); clear hKzz Kzz; try walk_nrm) | (refine bt_skip rfl (by rfl) ?_; try walk_nrm)))
    (refine kJ rfl ?_)
    (repeat (first | refine kA ?_ | refine kB ?_ | refine kC ?_ | refine kF ?_ | (refine kG ?_; simp only [List.size_toArray, List.length_cons, List.length_nil, Nat.reduceAdd, Nat.zero_add, List.range, List.range.loop]) | (refine kO rfl (by rfl) (by decide) (by decide) (fun dzz Kzz hKzz => ?_); go_simp; refine hKzz _ _ (fun b hb => hb) (bt_at ?_); clear hKzz Kzz; try walk_nrm) | (refine bt_skip rfl (by rfl) ?_; try walk_nrm)))
    exact bt_endK rfl rfl B1
  have hb2 : decide ((4096 : Int) < len) = false := by simp; omega
  (repeat (first | refine kA ?_ | refine kB ?_ | refine kC ?_ | refine kF ?_ | (refine kG ?_; simp only [List.size_toArray, List.length_cons, List.length_nil, Nat.reduceAdd, Nat.zero_add, List.range, List.range.loop]) | (refine kO rfl (by rfl) (by decide) (by decide) (fun dzz Kzz hKzz => ?_); go_simp; refine hKzz _ _ (fun b hb => hb) (bt_at ?_); clear hKzz Kzz; try walk_nrm) | (refine bt_skip rfl (by rfl) ?_; try walk_nrm)))
  refine bt_call (R := RBo W false) zgOk (fun T d => big_B (a := a) (cap := cap) hb2) hg (fun v w T d h => h.rt) (fun v w' h => belL_pz h.2) zF9 (by simp [zK]) Try.func9 rfl rfl rfl rfl rfl (by k_ne) (by simp [Act.eval]) (fun v w1 h1 => ?_)
  obtain ⟨rfl, k1⟩ := h1
  have B1 := k1
  walk_nrm
  (repeat (first | refine kA ?_ | refine kB ?_ | refine kC ?_ | refine kF ?_ | (refine kG ?_; simp only [List.size_toArray, List.length_cons, List.length_nil, Nat.reduceAdd, Nat.zero_add, List.range, List.range.loop]) | (refine kO rfl (by rfl) (by decide) (by decide) (fun dzz Kzz hKzz => ?_); go_simp; refine hKzz _ _ (fun b hb => hb) (bt_at ?_); clear hKzz Kzz; try walk_nrm) | (refine bt_skip rfl (by rfl) ?_; try walk_nrm)))
  (refine kI rfl ?_)
  (repeat (first | refine kA ?_ | refine kB ?_ | refine kC ?_ | refine kF ?_ | (refine kG ?_; simp only [List.size_toArray, List.length_cons, List.length_nil, Nat.reduceAdd, Nat.zero_add, List.range, List.range.loop]) | (refine kO rfl (by rfl) (by decide) (by decide) (fun dzz Kzz hKzz => ?_); go_simp; refine hKzz _ _ (fun b hb => hb) (bt_at ?_); clear hKzz Kzz; try walk_nrm) | (refine bt_skip rfl (by rfl) ?_; try walk_nrm)))
  have R1 : RdB w1 w1.heap.size a len := rdb_low B1 hr
  refine bt_call (R := RDy w1) zgOk (fun T d => ddy_B (cap := cap) hb R1) (gc_belL B1 hg) (fun v w T d h => h.rt) (fun v w' h => belL_pz h.choose_spec.choose_spec.choose_spec.choose_spec.choose_spec.choose_spec.2.2.2.2.2.2) zF15 (by simp [zK]) Try.func15 rfl rfl rfl rfl rfl (by k_ne) (by simp [Act.eval]) (fun v w2 h2 => ?_)
  obtain ⟨J, cJ, C, cC, ts, ch, rfl, hn, hm, T2, I2, hcap, k2⟩ := h2
  have B2 := B1.trans k2 B1.size
  clear B1
  walk_nrm
  have hl : ts.length ≤ maxLen := by unfold maxLen; omega
  have hcl : ch.length ≤ maxLen := by unfold maxLen; omega
  have hd2 := dty_len (ts := ts) (ch := ch)
  (repeat (first | refine kA ?_ | refine kB ?_ | refine kC ?_ | refine kF ?_ | (refine kG ?_; simp only [List.size_toArray, List.length_cons, List.length_nil, Nat.reduceAdd, Nat.zero_add, List.range, List.range.loop]) | (refine kO rfl (by rfl) (by decide) (by decide) (fun dzz Kzz hKzz => ?_); go_simp; refine hKzz _ _ (fun b hb => hb) (bt_at ?_); clear hKzz Kzz; try walk_nrm) | (refine bt_skip rfl (by rfl) ?_; try walk_nrm)))
  refine bt_callB (dirty_B (cap := cJ) (c := cC) hl T2 hcl I2 (gc_belL B2 hg) (Nat.le_trans hTh B2.size)) Try.func16 nm16 b16 rfl rfl rfl (by k_ne) (by simp [Act.eval]) (fun v w3 h3 => ?_)
  obtain ⟨D5, c5, rfl, hh3, k3⟩ := h3
  have D3 := Go.Proofs.Ytpmmimcafkillaa.ins_own hh3
  clear hh3
  have B3 := B2.trans k3 B2.size
  have T3 := tks_low k3 T2
  have I3 := ins_low k3 I2
  clear B2 T2 I2
  walk_nrm
  (repeat (first | refine kA ?_ | refine kB ?_ | refine kC ?_ | refine kF ?_ | (refine kG ?_; simp only [List.size_toArray, List.length_cons, List.length_nil, Nat.reduceAdd, Nat.zero_add, List.range, List.range.loop]) | (refine kO rfl (by rfl) (by decide) (by decide) (fun dzz Kzz hKzz => ?_); go_simp; refine hKzz _ _ (fun b hb => hb) (bt_at ?_); clear hKzz Kzz; try walk_nrm) | (refine bt_skip rfl (by rfl) ?_; try walk_nrm)))
  refine bt_call (R := RIn w3 (dty ts ch)) zgOk (fun T d => sdy_B (cap := cJ) (cb := cC) hl hcl T3 I3) (gc_belL B3 hg) (fun v w T d h => h.rt) (fun v w' h => belL_pz h.choose_spec.choose_spec.2.2) zF18 (by simp [zK]) Try.func18 rfl rfl rfl rfl rfl (by k_ne) (by simp [Act.eval]) (fun v w4 h4 => ?_)
  obtain ⟨g7, c7, rfl, E4, k4⟩ := h4
  have B4 := B3.trans k4 B3.size
  have T4 := tks_low k4 T3
  have I4 := ins_low k4 I3
  have D4 := ins_low k4 D3
  clear B3 T3 I3 D3
  walk_nrm
  refine bt_call (R := RBo w4 true) zgOk (fun T d => sin_B (l := dty ts ch) (cap := c5) (cb := c7) (by omega) D4 E4) (gc_belL B4 hg) (fun v w T d h => h.rt) (fun v w' h => belL_pz h.2) zF17 (by simp [zK]) Try.func17 rfl rfl rfl rfl rfl (by k_ne) (by simp [Act.eval]) (fun v w5 h5 => ?_)
  obtain ⟨rfl, k5⟩ := h5
  have B5 := B4.trans k5 B4.size
  have T5 := tks_low k5 T4
  have I5 := ins_low k5 I4
  have D5 := ins_low k5 D4
  have E5 := ins_low k5 E4
  clear B4 T4 I4 D4 E4
  walk_nrm
  clear E5
  (repeat (first | refine kA ?_ | refine kB ?_ | refine kC ?_ | refine kF ?_ | (refine kG ?_; simp only [List.size_toArray, List.length_cons, List.length_nil, Nat.reduceAdd, Nat.zero_add, List.range, List.range.loop]) | (refine kO rfl (by rfl) (by decide) (by decide) (fun dzz Kzz hKzz => ?_); go_simp; refine hKzz _ _ (fun b hb => hb) (bt_at ?_); clear hKzz Kzz; try walk_nrm) | (refine bt_skip rfl (by rfl) ?_; try walk_nrm)))
  (refine kI rfl ?_)
  (repeat (first | refine kA ?_ | refine kB ?_ | refine kC ?_ | refine kF ?_ | (refine kG ?_; simp only [List.size_toArray, List.length_cons, List.length_nil, Nat.reduceAdd, Nat.zero_add, List.range, List.range.loop]) | (refine kO rfl (by rfl) (by decide) (by decide) (fun dzz Kzz hKzz => ?_); go_simp; refine hKzz _ _ (fun b hb => hb) (bt_at ?_); clear hKzz Kzz; try walk_nrm) | (refine bt_skip rfl (by rfl) ?_; try walk_nrm)))
  cases hJ : jobOk ts with
  | false =>
    refine bt_call (R := RBo w5 false) zgOk (fun T d => sjb_B (cap := cJ) hl T5 hJ) (gc_belL B5 hg) (fun v w T d h => h.rt) (fun v w' h => belL_pz h.2) zF19 (by simp [zK]) Try.func19 rfl rfl rfl rfl rfl (by k_ne) (by simp [Act.eval]) (fun v w6 h6 => ?_)
    obtain ⟨rfl, k6⟩ := h6
    have B6 := B5.trans k6 B5.size
    clear B5
    walk_nrm
    have hd0 : (dty ts ch).length = 0 := by unfold dty; simp [hJ]
    have q7 : (((dty ts ch).length : Int) == 0) = true := by simp [hd0]
    clear hd0
    (repeat (first | refine kA ?_ | refine kB ?_ | refine kC ?_ | refine kF ?_ | (refine kG ?_; simp only [List.size_toArray, List.length_cons, List.length_nil, Nat.reduceAdd, Nat.zero_add, List.range, List.range.loop]) | (refine kO rfl (by rfl) (by decide) (by decide) (fun dzz Kzz hKzz => ?_); go_simp; refine hKzz _ _ (fun b hb => hb) (bt_at ?_); clear hKzz Kzz; try walk_nrm) | (refine bt_skip rfl (by rfl) ?_; try walk_nrm)))
    (refine kJ rfl ?_)
    (repeat (first | refine kA ?_ | refine kB ?_ | refine kC ?_ | refine kF ?_ | (refine kG ?_; simp only [List.size_toArray, List.length_cons, List.length_nil, Nat.reduceAdd, Nat.zero_add, List.range, List.range.loop]) | (refine kO rfl (by rfl) (by decide) (by decide) (fun dzz Kzz hKzz => ?_); go_simp; refine hKzz _ _ (fun b hb => hb) (bt_at ?_); clear hKzz Kzz; try walk_nrm) | (refine bt_skip rfl (by rfl) ?_; try walk_nrm)))
    exact bt_endK rfl rfl B6
  | true =>
    refine bt_call (R := RBo w5 true) zgOk (fun T d => sjb_B (cap := cJ) hl T5 hJ) (gc_belL B5 hg) (fun v w T d h => h.rt) (fun v w' h => belL_pz h.2) zF19 (by simp [zK]) Try.func19 rfl rfl rfl rfl rfl (by k_ne) (by simp [Act.eval]) (fun v w6 h6 => ?_)
    obtain ⟨rfl, k6⟩ := h6
    have B6 := B5.trans k6 B5.size
    have T6 := tks_low k6 T5
    have I6 := ins_low k6 I5
    have D6 := ins_low k6 D5
    clear B5 T5 I5 D5
    walk_nrm
    (repeat (first | refine kA ?_ | refine kB ?_ | refine kC ?_ | refine kF ?_ | (refine kG ?_; simp only [List.size_toArray, List.length_cons, List.length_nil, Nat.reduceAdd, Nat.zero_add, List.range, List.range.loop]) | (refine kO rfl (by rfl) (by decide) (by decide) (fun dzz Kzz hKzz => ?_); go_simp; refine hKzz _ _ (fun b hb => hb) (bt_at ?_); clear hKzz Kzz; try walk_nrm) | (refine bt_skip rfl (by rfl) ?_; try walk_nrm)))
    (refine kI rfl ?_)
    (repeat (first | refine kA ?_ | refine kB ?_ | refine kC ?_ | refine kF ?_ | (refine kG ?_; simp only [List.size_toArray, List.length_cons, List.length_nil, Nat.reduceAdd, Nat.zero_add, List.range, List.range.loop]) | (refine kO rfl (by rfl) (by decide) (by decide) (fun dzz Kzz hKzz => ?_); go_simp; refine hKzz _ _ (fun b hb => hb) (bt_at ?_); clear hKzz Kzz; try walk_nrm) | (refine bt_skip rfl (by rfl) ?_; try walk_nrm)))
    refine bt_callB (reu_B (cap := cJ) (cb := cJ) hl hl T6 T6 (gc_belL B6 hg) (Nat.le_trans hTh B6.size)) Try.func20 nm20 b20 rfl rfl rfl (by k_ne) (by simp [Act.eval]) (fun v w7 h7 => ?_)
    obtain ⟨g6, c6, rfl, hh7, k7⟩ := h7
    have S7 := Go.Proofs.Ytpmmimcafkillaa.ins_own hh7
    clear hh7
    have B7 := B6.trans k7 B6.size
    have T7 := tks_low k7 T6
    have I7 := ins_low k7 I6
    have D7 := ins_low k7 D6
    clear B6 T6 I6 D6
    walk_nrm
    refine kO rfl (by rfl) (by decide) (by decide) (fun dzz Kzz hKzz => ?_)
    go_simp
    refine hKzz _ _ (fun b hb => hb) (bt_at ?_)
    clear hKzz Kzz
    try walk_nrm
    refine kC ?_
    have h2 := fun y0 y1 y2 y7 y8 y9 y10 y11 y12 y13 y14 y15 y16 y17 y18 y19 y20 y21 y22 y23 y24 y25 y26 y27 y28 y29 y30 y31 y32 y33 y34 y35 y36 y37 y38 y39 y40 y41 y42 y43 y44 y45 y46 y47 y48 y49 y50 y51 y52 y53 y54 y55 y56 y57 y58 y59 y60 y61 y62 y63 y64 y65 y66 y67 y68 y69 y70 y71 y72 y73 y74 y75 y76 y77 y78 y79 y80 y81 y82 y83 y84 y85 y86 y87 y88 y89 y90 y91 y92 y93 y94 y95 y96 y97 y98 y99 y100 y101 y102 y103 y104 y105 y106 y107 y108 y109 y110 y111 y112 y113 y114 y115 y116 y117 y118 y119 y120 y121 y122 y123 y124 y125 y126 y127 y128 y129 y130 y131 y132 y133 y134 y135 y136 y137 y138 y139 y140 y141 y142 y143 y144 y145 y146 y147 y148 y149 y150 y151 y152 y153 y154 y155 y156 y157 y158 y159 y160 y161 y162 y163 y164 y165 y166 y167 y168 y169 => lawRe2 (cJ := cJ) (cC := cC) (c5 := c5) (c6 := c6) hJ (by omega) hcap hg hTh B7 T7 I7 D7 S7 y0 y1 y2 y7 y8 y9 y10 y11 y12 y13 y14 y15 y16 y17 y18 y19 y20 y21 y22 y23 y24 y25 y26 y27 y28 y29 y30 y31 y32 y33 y34 y35 y36 y37 y38 y39 y40 y41 y42 y43 y44 y45 y46 y47 y48 y49 y50 y51 y52 y53 y54 y55 y56 y57 y58 y59 y60 y61 y62 y63 y64 y65 y66 y67 y68 y69 y70 y71 y72 y73 y74 y75 y76 y77 y78 y79 y80 y81 y82 y83 y84 y85 y86 y87 y88 y89 y90 y91 y92 y93 y94 y95 y96 y97 y98 y99 y100 y101 y102 y103 y104 y105 y106 y107 y108 y109 y110 y111 y112 y113 y114 y115 y116 y117 y118 y119 y120 y121 y122 y123 y124 y125 y126 y127 y128 y129 y130 y131 y132 y133 y134 y135 y136 y137 y138 y139 y140 y141 y142 y143 y144 y145 y146 y147 y148 y149 y150 y151 y152 y153 y154 y155 y156 y157 y158 y159 y160 y161 y162 y163 y164 y165 y166 y167 y168 y169
    simp only [sdc, Try.f4, Option.getD_some] at h2
    exact h2 _ _ _ _ _ _ _ _ _ _ _ _ _ _ _ _ _ _ _ _ _ _ _ _ _ _ _ _ _ _ _ _ _ _ _ _ _ _ _ _ _ _ _ _ _ _ _ _ _ _ _ _ _ _ _ _ _ _ _ _ _ _ _ _ _ _ _ _ _ _ _ _ _ _ _ _ _ _ _ _ _ _ _ _ _ _ _ _ _ _ _ _ _ _ _ _ _ _ _ _ _ _ _ _ _ _ _ _ _ _ _ _ _ _ _ _ _ _ _ _ _ _ _ _ _ _ _ _ _ _ _ _ _ _ _ _ _ _ _ _ _ _ _ _ _ _ _ _ _ _ _ _ _ _ _ _ _ _ _ _ _ _ _ _ _ _
end Go.Proofs.Ytpmmimcafkillaa.Tr
