/-
  FnFarmed: the law, its loops.
  FnFarmed: the law, from its entry.
-/
import Derived.Test.YtpmmimcafkillaaZFn
set_option linter.unusedVariables false
set_option linter.unusedSimpArgs false
namespace Go.Proofs.Ytpmmimcafkillaa.Tr
open Go Go.Conc Go.RowKit
open Go.Proofs.Ytpmmimcafkillaa.Br (BT BTS Hd Hid Pz Pst Shn Thr EvN bt_ctl bt_cons bt_skip bt_call bt_callB bt_enter CallsB rt AtEnd0)
open Go.Proofs.Ytpmmimcafkillaa.Rs (Rule outOf out_at out_len resR crR dtR hst gmx)
open Go.Proofs.Ytpmmimcafkillaa (Tv Tks Ins jobOk job_tok TOk job_short tot tot_mem OwnI iv zall spanOf farmOf FarmOk LE farm_ok farm_one farm_many Kl Kls RdB FmD dfm_any AnR ifarm_any sfarm_any ispan_any ins_own own_lt own_ge)
set_option maxRecDepth 100000 in
theorem rng207 (f : Nat → Value) : (List.range 207).map f = [f 0, f 1, f 2, f 3, f 4, f 5, f 6, f 7, f 8, f 9, f 10, f 11, f 12, f 13, f 14, f 15, f 16, f 17, f 18, f 19, f 20, f 21, f 22, f 23, f 24, f 25, f 26, f 27, f 28, f 29, f 30, f 31, f 32, f 33, f 34, f 35, f 36, f 37, f 38, f 39, f 40, f 41, f 42, f 43, f 44, f 45, f 46, f 47, f 48, f 49, f 50, f 51, f 52, f 53, f 54, f 55, f 56, f 57, f 58, f 59, f 60, f 61, f 62, f 63, f 64, f 65, f 66, f 67, f 68, f 69, f 70, f 71, f 72, f 73, f 74, f 75, f 76, f 77, f 78, f 79, f 80, f 81, f 82, f 83, f 84, f 85, f 86, f 87, f 88, f 89, f 90, f 91, f 92, f 93, f 94, f 95, f 96, f 97, f 98, f 99, f 100, f 101, f 102, f 103, f 104, f 105, f 106, f 107, f 108, f 109, f 110, f 111, f 112, f 113, f 114, f 115, f 116, f 117, f 118, f 119, f 120, f 121, f 122, f 123, f 124, f 125, f 126, f 127, f 128, f 129, f 130, f 131, f 132, f 133, f 134, f 135, f 136, f 137, f 138, f 139, f 140, f 141, f 142, f 143, f 144, f 145, f 146, f 147, f 148, f 149, f 150, f 151, f 152, f 153, f 154, f 155, f 156, f 157, f 158, f 159, f 160, f 161, f 162, f 163, f 164, f 165, f 166, f 167, f 168, f 169, f 170, f 171, f 172, f 173, f 174, f 175, f 176, f 177, f 178, f 179, f 180, f 181, f 182, f 183, f 184, f 185, f 186, f 187, f 188, f 189, f 190, f 191, f 192, f 193, f 194, f 195, f 196, f 197, f 198, f 199, f 200, f 201, f 202, f 203, f 204, f 205, f 206] := by kernel_rfl
theorem array207 (T : Array Value) (h : T.size = 207) : ∃ f : Nat → Value, T = #[f 0, f 1, f 2, f 3, f 4, f 5, f 6, f 7, f 8, f 9, f 10, f 11, f 12, f 13, f 14, f 15, f 16, f 17, f 18, f 19, f 20, f 21, f 22, f 23, f 24, f 25, f 26, f 27, f 28, f 29, f 30, f 31, f 32, f 33, f 34, f 35, f 36, f 37, f 38, f 39, f 40, f 41, f 42, f 43, f 44, f 45, f 46, f 47, f 48, f 49, f 50, f 51, f 52, f 53, f 54, f 55, f 56, f 57, f 58, f 59, f 60, f 61, f 62, f 63, f 64, f 65, f 66, f 67, f 68, f 69, f 70, f 71, f 72, f 73, f 74, f 75, f 76, f 77, f 78, f 79, f 80, f 81, f 82, f 83, f 84, f 85, f 86, f 87, f 88, f 89, f 90, f 91, f 92, f 93, f 94, f 95, f 96, f 97, f 98, f 99, f 100, f 101, f 102, f 103, f 104, f 105, f 106, f 107, f 108, f 109, f 110, f 111, f 112, f 113, f 114, f 115, f 116, f 117, f 118, f 119, f 120, f 121, f 122, f 123, f 124, f 125, f 126, f 127, f 128, f 129, f 130, f 131, f 132, f 133, f 134, f 135, f 136, f 137, f 138, f 139, f 140, f 141, f 142, f 143, f 144, f 145, f 146, f 147, f 148, f 149, f 150, f 151, f 152, f 153, f 154, f 155, f 156, f 157, f 158, f 159, f 160, f 161, f 162, f 163, f 164, f 165, f 166, f 167, f 168, f 169, f 170, f 171, f 172, f 173, f 174, f 175, f 176, f 177, f 178, f 179, f 180, f 181, f 182, f 183, f 184, f 185, f 186, f 187, f 188, f 189, f 190, f 191, f 192, f 193, f 194, f 195, f 196, f 197, f 198, f 199, f 200, f 201, f 202, f 203, f 204, f 205, f 206] := by
  refine ⟨fun i => T.toList.getD i undef, ?_⟩
  have h1 : T.toList = (List.range 207).map fun i => T.toList.getD i undef := by
    apply List.ext_getElem?
    intro i
    by_cases hi : i < 207
    · have hi' : i < T.toList.length := by simp; omega
      rw [List.getElem?_map, List.getElem?_range hi, List.getElem?_eq_getElem hi']
      have h3 : i < T.size := by omega
      simp [h3]
    · rw [List.getElem?_eq_none (by simp; omega), List.getElem?_eq_none (by simp; omega)]
  rw [rng207] at h1
  exact Array.toList_inj.1 h1
set_option maxRecDepth 100000 in
theorem fl_z {w : World} {ts : List Tv} {L : List Kl} {J cJ g5 c5 E : Nat} (y0 y1 y2 y4 y7 y8 y9 y10 y11 y12 y13 y14 y15 y16 y17 y18 y19 y20 y21 y22 y23 y24 y25 y26 y27 y28 y29 y30 y31 y32 y33 y34 y35 y36 y37 y38 y39 y40 y41 y42 y43 y44 y45 y46 y47 y48 y49 y50 y51 y52 y53 y54 y55 y56 y57 y58 y59 y60 y61 y62 y63 y64 y65 y66 y67 y68 y69 y70 y71 y72 y73 y74 y75 y76 y77 y78 y79 y80 y81 y82 y83 y84 y85 y86 y87 y88 y89 y90 y91 y92 y93 y94 y95 y96 y97 y98 y99 y100 y101 y102 y103 y104 y105 y106 y107 y108 y109 y110 y111 y112 y113 y114 y115 y116 y117 y118 y119 y120 y121 y122 y123 y124 y125 y126 y127 y128 y129 y130 y131 y132 y133 y134 y135 y136 y137 y138 y139 y140 y141 y142 y143 y144 y145 y146 y147 y148 y149 y150 y151 y152 y153 y154 y155 y156 y157 y158 y159 y160 y161 y162 y163 y164 y165 y166 y167 y168 y169 y170 y171 y172 y173 y174 y175 y176 y177 y178 y179 y180 y181 y182 y183 y184 y185 y186 y187 y188 y189 y190 y191 y192 y193 y194 y195 y196 y197 y198 y199 y200 y201 y202 y203 y204 y205 y206 : Value) : (rfst (sdc 8 (Try.f3.body.getD .skip))).wp Try.prog (fun e a' w' => e = .normal ∧ (a' = ⟨#[y0, y1, y2, .slice (some ⟨J, 0, none⟩) ts.length cJ, y4, .slice (some ⟨g5, 0, none⟩) L.length c5, .slice (some ⟨E, 0, none⟩) ts.length ts.length, y7, y8, .int .i64 0, y10, y11, y12, y13, y14, y15, y16, y17, y18, y19, y20, y21, y22, y23, y24, y25, y26, y27, y28, y29, y30, y31, y32, y33, y34, y35, y36, y37, y38, y39, y40, y41, y42, y43, y44, y45, y46, y47, y48, y49, y50, y51, y52, y53, y54, y55, y56, y57, y58, y59, y60, y61, y62, y63, y64, y65, y66, y67, y68, y69, y70, y71, y72, y73, y74, y75, y76, y77, y78, y79, y80, y81, y82, y83, y84, y85, y86, y87, y88, y89, y90, y91, y92, y93, y94, y95, y96, y97, y98, y99, y100, y101, y102, y103, y104, y105, y106, y107, y108, y109, y110, y111, y112, y113, y114, y115, y116, y117, y118, y119, y120, y121, y122, y123, y124, y125, y126, y127, y128, y129, y130, y131, y132, y133, y134, y135, y136, y137, y138, y139, y140, y141, y142, y143, y144, y145, y146, y147, y148, y149, y150, y151, y152, y153, y154, y155, y156, y157, y158, y159, y160, y161, y162, y163, y164, y165, y166, y167, y168, y169, y170, y171, y172, y173, y174, y175, y176, y177, y178, y179, y180, y181, y182, y183, y184, y185, y186, y187, y188, y189, y190, y191, y192, y193, y194, y195, y196, y197, y198, y199, y200, y201, y202, y203, y204, y205, y206], []⟩ ∧ Below w.heap.size w w')) ⟨#[y0, y1, y2, .slice (some ⟨J, 0, none⟩) ts.length cJ, y4, .slice (some ⟨g5, 0, none⟩) L.length c5, .slice (some ⟨E, 0, none⟩) ts.length ts.length, y7, y8, y9, y10, y11, y12, y13, y14, y15, y16, y17, y18, y19, y20, y21, y22, y23, y24, y25, y26, y27, y28, y29, y30, y31, y32, y33, y34, y35, y36, y37, y38, y39, y40, y41, y42, y43, y44, y45, y46, y47, y48, y49, y50, y51, y52, y53, y54, y55, y56, y57, y58, y59, y60, y61, y62, y63, y64, y65, y66, y67, y68, y69, y70, y71, y72, y73, y74, y75, y76, y77, y78, y79, y80, y81, y82, y83, y84, y85, y86, y87, y88, y89, y90, y91, y92, y93, y94, y95, y96, y97, y98, y99, y100, y101, y102, y103, y104, y105, y106, y107, y108, y109, y110, y111, y112, y113, y114, y115, y116, y117, y118, y119, y120, y121, y122, y123, y124, y125, y126, y127, y128, y129, y130, y131, y132, y133, y134, y135, y136, y137, y138, y139, y140, y141, y142, y143, y144, y145, y146, y147, y148, y149, y150, y151, y152, y153, y154, y155, y156, y157, y158, y159, y160, y161, y162, y163, y164, y165, y166, y167, y168, y169, y170, y171, y172, y173, y174, y175, y176, y177, y178, y179, y180, y181, y182, y183, y184, y185, y186, y187, y188, y189, y190, y191, y192, y193, y194, y195, y196, y197, y198, y199, y200, y201, y202, y203, y204, y205, y206], []⟩ w := by
  simp only [sdc, rfst, Try.f3, Option.getD_some]
  go_wp2
  exact Below.refl _ _
theorem ok3a : Br.okC (Br.okOp Zg Try.prog []) (rfst (sdc 6 (Try.f3.body.getD .skip))) = true := by kernel_rfl
theorem ok3b : Br.okC (Br.okOp Zg Try.prog []) (rfst (sdc 7 (Try.f3.body.getD .skip))) = true := by kernel_rfl
theorem ok3c : Br.okC (Br.okOp Zg Try.prog []) (rfst (sdc 8 (Try.f3.body.getD .skip))) = true := by kernel_rfl
theorem ok3d : Br.okC (Br.okOp Zg Try.prog []) (rfst (sdc 9 (Try.f3.body.getD .skip))) = true := by kernel_rfl
def RF1B (w1 w2 : World) (J cJ g5 c5 E : Nat) (ts : List Tv) (L : List Kl) (ends : List Int) (a' : Act) (w' : World) : Prop := ∃ T Es, a' = ⟨T, []⟩ ∧ T.size = 207 ∧ T[3]? = some (.slice (some ⟨J, 0, none⟩) ts.length cJ) ∧ T[5]? = some (.slice (some ⟨g5, 0, none⟩) L.length c5) ∧ T[6]? = some (.slice (some ⟨E, 0, none⟩) ts.length ts.length) ∧ Ins w' (some ⟨E, 0, none⟩) Es ∧ BelL w1.heap.size w1 w' ∧ LE ts L ends L.length Es ∧ ∀ k, Pz w2 k → Pz w' k
theorem RF1B.rt {w1 w2 : World} {J cJ g5 c5 E : Nat} {ts : List Tv} {L : List Kl} {ends : List Int} {a' : Act} {w' : World} {T : Nat → Question → Nat} {d : Nat} (h : RF1B w1 w2 J cJ g5 c5 E ts L ends a' w') : RF1B w1 w2 J cJ g5 c5 E ts L ends a' (Br.rt T d w') := let ⟨T', Es, h1, h2, h3, h4, h5, h6, h7, h8, h9⟩ := h; ⟨T', Es, h1, h2, h3, h4, h5, h6, h7.rtt, h8, h9⟩
def RF2B (w : World) (J cJ g5 c5 : Nat) (ts : List Tv) (L : List Kl) (a' : Act) (w' : World) : Prop := ∃ T, a' = ⟨T, []⟩ ∧ T.size = 207 ∧ T[3]? = some (.slice (some ⟨J, 0, none⟩) ts.length cJ) ∧ T[5]? = some (.slice (some ⟨g5, 0, none⟩) L.length c5) ∧ T[9]? = some (.int .i64 (zall ts)) ∧ BelL w.heap.size w w'
theorem RF2B.rt {w : World} {J cJ g5 c5 : Nat} {ts : List Tv} {L : List Kl} {a' : Act} {w' : World} {T : Nat → Question → Nat} {d : Nat} (h : RF2B w J cJ g5 c5 ts L a' w') : RF2B w J cJ g5 c5 ts L a' (Br.rt T d w') := let ⟨T', h1, h2, h3, h4, h5, h6⟩ := h; ⟨T', h1, h2, h3, h4, h5, h6.rtt⟩
theorem own_curI {w : World} {lo g n : Nat} {r : List Int} (h : OwnI w lo g n n r) : ∃ cur : Array Value, w.heap[g]? = some (.cells cur 2 (0, 0)) ∧ cur.size = n := by
  rcases h.2 with ⟨hv, _⟩ | ⟨g', cap', cur', hv, _, hh, _, _, hcs, _⟩
  · cases hv
  · injection hv with e1 e2 e3
    injection e1 with e1
    injection e1 with e1
    subst e1 e3
    exact ⟨cur', hh, by simpa using hcs⟩
theorem pz_ownI {w w' : World} {lo lo' g n : Nat} {r r' : List Int} (h : OwnI w lo g n n r) (h' : OwnI w' lo' g n n r') (hp : Pz w g) : Pz w' g := by
  obtain ⟨c1, hc1, s1⟩ := own_curI h
  obtain ⟨c2, hc2, s2⟩ := own_curI h'
  obtain ⟨e, he⟩ := hp
  rw [hc1] at he
  simp at he
  rw [he.1] at s1
  simp at s1
  have e2 : c2 = #[] := Array.size_eq_zero_iff.1 (by omega)
  exact ⟨2, by rw [hc2, e2]⟩
theorem farm_len {ts : List Tv} {W : Int} : (farmOf ts W).length ≤ 200 := by
  by_cases e : farmOf ts W = []
  · rw [e]; simp
  · obtain ⟨ends, f⟩ := farm_ok rfl e
    rw [f.len]; exact job_short f.job
set_option maxRecDepth 100000 in
set_option maxHeartbeats 16000000 in
theorem lawFa2 [Thr] {W w1 : World} {ts : List Tv} {L : List Kl} {J cJ g5 c5 : Nat} {x : Int} (hl : ts.length ≤ maxLen) (hfm : farmOf ts x = L) (hne : L ≠ []) (h60 : L.length ≤ 60) (hg : Br.GC Try.prog W) (hTh : Thr.N ≤ W.heap.size) (B1 : BelL W.heap.size W w1) (T1 : Tks w1 (some ⟨J, 0, none⟩) ts) (K1 : Kls w1 (some ⟨g5, 0, none⟩) L) (y0 y1 y2 y6 y7 y8 y9 y10 y11 y12 y13 y14 y15 y16 y17 y18 y19 y20 y21 y22 y23 y24 y25 y26 y27 y28 y29 y30 y31 y32 y33 y34 y35 y36 y37 y38 y39 y40 y41 y42 y43 y44 y45 y46 y47 y48 y49 y50 y51 y52 y53 y54 y55 y56 y57 y58 y59 y60 y61 y62 y63 y64 y65 y66 y67 y68 y69 y70 y71 y72 y73 y74 y75 y76 y77 y78 y79 y80 y81 y82 y83 y84 y85 y86 y87 y88 y89 y90 y91 y92 y93 y94 y95 y96 y97 y98 y99 y100 y101 y102 y103 y104 y105 y106 y107 y108 y109 y110 y111 y112 y113 y114 y115 y116 y117 y118 y119 y120 y121 y122 y123 y124 y125 y126 y127 y128 y129 y130 y131 y132 y133 y134 y135 y136 y137 y138 y139 y140 y141 y142 y143 y144 y145 y146 y147 y148 y149 y150 y151 y152 y153 y154 y155 y156 y157 y158 y159 y160 y161 y162 y163 y164 y165 y166 y167 y168 y169 y170 y171 y172 y173 y174 y175 y176 y177 y178 y179 y180 y181 y182 y183 y184 y185 y186 y187 y188 y189 y190 y191 y192 y193 y194 y195 y196 y197 y198 y199 y200 y201 y202 y203 y204 y205 y206 : Value) :
    BT Try.prog (AtEnd0 Try.prog (PostL W)) (G ((base 3).at ⟨#[y0, y1, y2, .slice (some ⟨J, 0, none⟩) ts.length cJ, .int .i64 x, .slice (some ⟨g5, 0, none⟩) L.length c5, y6, y7, y8, y9, y10, y11, y12, y13, y14, y15, y16, y17, y18, y19, y20, y21, y22, y23, y24, y25, y26, y27, y28, y29, y30, y31, y32, y33, y34, y35, y36, y37, y38, y39, y40, y41, y42, y43, y44, y45, y46, y47, y48, y49, y50, y51, y52, y53, y54, y55, y56, y57, y58, y59, y60, y61, y62, y63, y64, y65, y66, y67, y68, y69, y70, y71, y72, y73, y74, y75, y76, y77, y78, y79, y80, y81, y82, y83, y84, y85, y86, y87, y88, y89, y90, y91, y92, y93, y94, y95, y96, y97, y98, y99, y100, y101, y102, y103, y104, y105, y106, y107, y108, y109, y110, y111, y112, y113, y114, y115, y116, y117, y118, y119, y120, y121, y122, y123, y124, y125, y126, y127, y128, y129, y130, y131, y132, y133, y134, y135, y136, y137, y138, y139, y140, y141, y142, y143, y144, y145, y146, y147, y148, y149, y150, y151, y152, y153, y154, y155, y156, y157, y158, y159, y160, y161, y162, y163, y164, y165, y166, y167, y168, y169, y170, y171, y172, y173, y174, y175, y176, y177, y178, y179, y180, y181, y182, y183, y184, y185, y186, y187, y188, y189, y190, y191, y192, y193, y194, y195, y196, y197, y198, y199, y200, y201, y202, y203, y204, y205, y206], []⟩ [.code (sdc 6 (Try.f3.body.getD .skip))]) []) w1 := by
  obtain ⟨ends, f⟩ := farm_ok hfm hne
  have hn200 : ts.length ≤ 200 := job_short f.job
  have g1 := gc_belL B1 hg
  show BT Try.prog (AtEnd0 Try.prog (PostL W)) (G ((base 3).at _ [.code (.seq (rfst (sdc 6 (Try.f3.body.getD .skip))) (sdc 7 (Try.f3.body.getD .skip)))]) []) w1
  refine kA ?_
  refine Br.BT.code (R := fun a' w' => a' = ⟨#[y0, y1, y2, .slice (some ⟨J, 0, none⟩) ts.length cJ, .int .i64 x, .slice (some ⟨g5, 0, none⟩) L.length c5, .slice (some ⟨w1.heap.size, 0, none⟩) ts.length ts.length, y7, y8, y9, y10, y11, y12, y13, y14, y15, y16, y17, y18, y19, y20, y21, y22, y23, y24, y25, y26, y27, y28, y29, y30, y31, y32, y33, y34, y35, y36, y37, .slice (some ⟨J, 0, none⟩) ts.length cJ, .int .i64 (ts.length : Int), .slice (some ⟨w1.heap.size, 0, none⟩) ts.length ts.length, y41, y42, y43, y44, y45, y46, y47, y48, y49, y50, y51, y52, y53, y54, y55, y56, y57, y58, y59, y60, y61, y62, y63, y64, y65, y66, y67, y68, y69, y70, y71, y72, y73, y74, y75, y76, y77, y78, y79, y80, y81, y82, y83, y84, y85, y86, y87, y88, y89, y90, y91, y92, y93, y94, y95, y96, y97, y98, y99, y100, y101, y102, y103, y104, y105, y106, y107, y108, y109, y110, y111, y112, y113, y114, y115, y116, y117, y118, y119, y120, y121, y122, y123, y124, y125, y126, y127, y128, y129, y130, y131, y132, y133, y134, y135, y136, y137, y138, y139, y140, y141, y142, y143, y144, y145, y146, y147, y148, y149, y150, y151, y152, y153, y154, y155, y156, y157, y158, y159, y160, y161, y162, y163, y164, y165, y166, y167, y168, y169, y170, y171, y172, y173, y174, y175, y176, y177, y178, y179, y180, y181, y182, y183, y184, y185, y186, y187, y188, y189, y190, y191, y192, y193, y194, y195, y196, y197, y198, y199, y200, y201, y202, y203, y204, y205, y206], []⟩ ∧ OwnI w' w1.heap.size w1.heap.size ts.length ts.length (List.replicate ts.length 0) ∧ BelL w1.heap.size w1 w') zgOk Try.func3 rfl ok3a rfl g1 (fun a w T d ⟨h1, h2, h3⟩ => ⟨h1, h2, h3.rtt⟩) (fun T d => ?_) (fun a' w' h => belL_pz h.2.2) (fun a' w2 h2 => ?_)
  · refine wp_mono (fl_mk (w := rt T d w1) (ts := ts) (J := J) (cJ := cJ) hn200 y0 y1 y2 (.int .i64 x) (.slice (some ⟨g5, 0, none⟩) L.length c5) y6 y7 y8 y9 y10 y11 y12 y13 y14 y15 y16 y17 y18 y19 y20 y21 y22 y23 y24 y25 y26 y27 y28 y29 y30 y31 y32 y33 y34 y35 y36 y37 y38 y39 y40 y41 y42 y43 y44 y45 y46 y47 y48 y49 y50 y51 y52 y53 y54 y55 y56 y57 y58 y59 y60 y61 y62 y63 y64 y65 y66 y67 y68 y69 y70 y71 y72 y73 y74 y75 y76 y77 y78 y79 y80 y81 y82 y83 y84 y85 y86 y87 y88 y89 y90 y91 y92 y93 y94 y95 y96 y97 y98 y99 y100 y101 y102 y103 y104 y105 y106 y107 y108 y109 y110 y111 y112 y113 y114 y115 y116 y117 y118 y119 y120 y121 y122 y123 y124 y125 y126 y127 y128 y129 y130 y131 y132 y133 y134 y135 y136 y137 y138 y139 y140 y141 y142 y143 y144 y145 y146 y147 y148 y149 y150 y151 y152 y153 y154 y155 y156 y157 y158 y159 y160 y161 y162 y163 y164 y165 y166 y167 y168 y169 y170 y171 y172 y173 y174 y175 y176 y177 y178 y179 y180 y181 y182 y183 y184 y185 y186 y187 y188 y189 y190 y191 y192 y193 y194 y195 y196 y197 y198 y199 y200 y201 y202 y203 y204 y205 y206) ?_
    rintro e a' w' ⟨he, h1, h2, h3⟩
    exact ⟨he, h1, h2, belL_any h3⟩
  obtain ⟨rfl, o2, k2⟩ := h2
  have B2 := B1.trans k2 B1.size
  have g2 := gc_belL B2 hg
  have hlt2 := own_lt o2
  show BT Try.prog (AtEnd0 Try.prog (PostL W)) (G ((base 3).at _ [.code (.seq (rfst (sdc 7 (Try.f3.body.getD .skip))) (sdc 8 (Try.f3.body.getD .skip)))]) []) w2
  refine kA ?_
  refine Br.BT.code (R := RF1B w1 w2 J cJ g5 c5 w1.heap.size ts L ends) zgOk Try.func3 rfl ok3b rfl g2 (fun a w T d h => h.rt) (fun T d => ?_) (fun a' w' ⟨_, _, _, _, _, _, _, _, _, _, h⟩ => h) (fun a' w3 h3 => ?_)
  · refine wp_mono (fl_1 (w0 := { w1 with tape := (rt T d w2).tape, os := (rt T d w2).os }) (w := rt T d w2) (ts := ts) (L := L) (ends := ends) (W := x) (J := J) (cJ := cJ) (G := g5) (cG := c5) (E := w1.heap.size) T1 K1 ⟨rfl, rfl, k2.output, k2.size, k2.block⟩ o2 f h60 _ _ _ _ _ _ _ _ _ _ _ _ _ _ _ _ _ _ _ _ _ _ _ _ _ _ _ _ _ _ _ _ _ _ _ _ _ _ _ _ _ _ _ _ _ _ _ _ _ _ _ _ _ _ _ _ _ _ _ _ _ _ _ _ _ _ _ _ _ _ _ _ _ _ _ _ _ _ _ _ _ _ _ _ _ _ _ _ _ _ _ _ _ _ _ _ _ _ _ _ _ _ _ _ _ _ _ _ _ _ _ _ _ _ _ _ _ _ _ _ _ _ _ _ _ _ _ _ _ _ _ _ _ _ _ _ _ _ _ _ _ _ _ _ _ _ _ _ _ _ _ _ _ _ _ _ _ _ _ _ _ _ _ _ _ _ _ _ _ _ _ _ _ _ _ _ _ _ _ _ _ _ _ _ _ _ _ _ _ _ _ _ _ _ _ _ _ _ _ _ _ _ _) ?_
    rintro e a' w' ⟨he, T', Es, h1, h2, h3, h4, h5, hF, hE⟩
    refine ⟨he, T', Es, h1, h2, h3, h4, h5, Go.Proofs.Ytpmmimcafkillaa.ins_own hF.R, ⟨by rw [hF.bel.os]; exact k2.os, hF.bel.output, hF.bel.size, hF.bel.block⟩, hE, fun k hp => ?_⟩
    by_cases e : k = w1.heap.size
    · subst e
      exact pz_ownI o2 hF.R hp
    · obtain ⟨y, hy⟩ := hp
      exact ⟨y, (hF.st k e).trans hy⟩
  obtain ⟨T3, Es, rfl, hT3, t3, t5, t6, I3, k3, hE3, _⟩ := h3
  obtain ⟨v, rfl⟩ := array207 T3 hT3
  simp only [List.getElem?_toArray, List.getElem?_cons_succ, List.getElem?_cons_zero, Option.some.injEq] at t3 t5 t6
  rw [t3, t5, t6]
  have B3 := B1.trans k3 B1.size
  have T3 := tks_low k3 T1
  have K3 := kls_low k3 K1
  have g3 := gc_belL B3 hg
  clear o2 k2 B2 g2 hlt2 k3 T1 K1
  show BT Try.prog (AtEnd0 Try.prog (PostL W)) (G ((base 3).at _ [.code (.seq (rfst (sdc 8 (Try.f3.body.getD .skip))) (sdc 9 (Try.f3.body.getD .skip)))]) []) w3
  refine kA ?_
  refine Br.BT.code (R := fun a' w' => a' = ⟨#[v 0, v 1, v 2, .slice (some ⟨J, 0, none⟩) ts.length cJ, v 4, .slice (some ⟨g5, 0, none⟩) L.length c5, .slice (some ⟨w1.heap.size, 0, none⟩) ts.length ts.length, v 7, v 8, .int .i64 0, v 10, v 11, v 12, v 13, v 14, v 15, v 16, v 17, v 18, v 19, v 20, v 21, v 22, v 23, v 24, v 25, v 26, v 27, v 28, v 29, v 30, v 31, v 32, v 33, v 34, v 35, v 36, v 37, v 38, v 39, v 40, v 41, v 42, v 43, v 44, v 45, v 46, v 47, v 48, v 49, v 50, v 51, v 52, v 53, v 54, v 55, v 56, v 57, v 58, v 59, v 60, v 61, v 62, v 63, v 64, v 65, v 66, v 67, v 68, v 69, v 70, v 71, v 72, v 73, v 74, v 75, v 76, v 77, v 78, v 79, v 80, v 81, v 82, v 83, v 84, v 85, v 86, v 87, v 88, v 89, v 90, v 91, v 92, v 93, v 94, v 95, v 96, v 97, v 98, v 99, v 100, v 101, v 102, v 103, v 104, v 105, v 106, v 107, v 108, v 109, v 110, v 111, v 112, v 113, v 114, v 115, v 116, v 117, v 118, v 119, v 120, v 121, v 122, v 123, v 124, v 125, v 126, v 127, v 128, v 129, v 130, v 131, v 132, v 133, v 134, v 135, v 136, v 137, v 138, v 139, v 140, v 141, v 142, v 143, v 144, v 145, v 146, v 147, v 148, v 149, v 150, v 151, v 152, v 153, v 154, v 155, v 156, v 157, v 158, v 159, v 160, v 161, v 162, v 163, v 164, v 165, v 166, v 167, v 168, v 169, v 170, v 171, v 172, v 173, v 174, v 175, v 176, v 177, v 178, v 179, v 180, v 181, v 182, v 183, v 184, v 185, v 186, v 187, v 188, v 189, v 190, v 191, v 192, v 193, v 194, v 195, v 196, v 197, v 198, v 199, v 200, v 201, v 202, v 203, v 204, v 205, v 206], []⟩ ∧ BelL w3.heap.size w3 w') zgOk Try.func3 rfl ok3c rfl g3 (fun a w T d ⟨h1, h3⟩ => ⟨h1, h3.rtt⟩) (fun T d => ?_) (fun a' w' h => belL_pz h.2) (fun a' w4 h4 => ?_)
  · refine wp_mono (fl_z (w := rt T d w3) (ts := ts) (L := L) (J := J) (cJ := cJ) (g5 := g5) (c5 := c5) (E := w1.heap.size) _ _ _ _ _ _ _ _ _ _ _ _ _ _ _ _ _ _ _ _ _ _ _ _ _ _ _ _ _ _ _ _ _ _ _ _ _ _ _ _ _ _ _ _ _ _ _ _ _ _ _ _ _ _ _ _ _ _ _ _ _ _ _ _ _ _ _ _ _ _ _ _ _ _ _ _ _ _ _ _ _ _ _ _ _ _ _ _ _ _ _ _ _ _ _ _ _ _ _ _ _ _ _ _ _ _ _ _ _ _ _ _ _ _ _ _ _ _ _ _ _ _ _ _ _ _ _ _ _ _ _ _ _ _ _ _ _ _ _ _ _ _ _ _ _ _ _ _ _ _ _ _ _ _ _ _ _ _ _ _ _ _ _ _ _ _ _ _ _ _ _ _ _ _ _ _ _ _ _ _ _ _ _ _ _ _ _ _ _ _ _ _ _ _ _ _ _ _ _ _ _ _ _ _) ?_
    rintro e a' w' ⟨he, h1, h3⟩
    exact ⟨he, h1, belL_any h3⟩
  obtain ⟨rfl, k4⟩ := h4
  have B4 := B3.trans k4 B3.size
  have T4 := tks_low k4 T3
  have K4 := kls_low k4 K3
  have I4 := ins_low k4 I3
  have g4 := gc_belL B4 hg
  clear k4 B3 T3 K3 I3 g3
  show BT Try.prog (AtEnd0 Try.prog (PostL W)) (G ((base 3).at _ [.code (.seq (rfst (sdc 9 (Try.f3.body.getD .skip))) (sdc 10 (Try.f3.body.getD .skip)))]) []) w4
  refine kA ?_
  refine Br.BT.code (R := RF2B w4 J cJ g5 c5 ts L) zgOk Try.func3 rfl ok3d rfl g4 (fun a w T d h => h.rt) (fun T d => ?_) (fun a' w' ⟨_, _, _, _, _, _, h⟩ => belL_pz h) (fun a' w5 h5 => ?_)
  · refine wp_mono (fl_2 (w := rt T d w4) (ts := ts) (L := L) (ends := ends) (Es := Es) (W := x) (J := J) (cJ := cJ) (G := g5) (cG := c5) (E := w1.heap.size) T4 K4 I4 hE3 f h60 _ _ _ _ _ _ _ _ _ _ _ _ _ _ _ _ _ _ _ _ _ _ _ _ _ _ _ _ _ _ _ _ _ _ _ _ _ _ _ _ _ _ _ _ _ _ _ _ _ _ _ _ _ _ _ _ _ _ _ _ _ _ _ _ _ _ _ _ _ _ _ _ _ _ _ _ _ _ _ _ _ _ _ _ _ _ _ _ _ _ _ _ _ _ _ _ _ _ _ _ _ _ _ _ _ _ _ _ _ _ _ _ _ _ _ _ _ _ _ _ _ _ _ _ _ _ _ _ _ _ _ _ _ _ _ _ _ _ _ _ _ _ _ _ _ _ _ _ _ _ _ _ _ _ _ _ _ _ _ _ _ _ _ _ _ _ _ _ _ _ _ _ _ _ _ _ _ _ _ _ _ _ _ _ _ _ _ _ _ _ _ _ _ _ _ _ _ _ _ _ _ _ _) ?_
    rintro e a' w' ⟨he, T', h1, h2, h3, h4, h5, hb⟩
    exact ⟨he, T', h1, h2, h3, h4, h5, belL_any hb⟩
  obtain ⟨T5, rfl, hT5, t3, t5, t9, k5⟩ := h5
  obtain ⟨u, rfl⟩ := array207 T5 hT5
  simp only [List.getElem?_toArray, List.getElem?_cons_succ, List.getElem?_cons_zero, Option.some.injEq] at t3 t5 t9
  rw [t3, t5, t9]
  have hcr : critOf ts = Rs.gmx 0 (outOf (crR ts) ts) := by simp [critOf, f.job]
  exact lawFa3 (Z := zall ts) (S := spanOf L) (C := critOf ts) hl h60 (Nat.le_trans farm_len (by omega)) (Nat.le_trans farm_len (by omega)) rfl (farm_one f.job) rfl rfl (fun h => by rw [farm_many f.job h, hcr]) (decide_eq_true (by rw [hcr]; exact f.ge)) (decide_eq_true f.le) hg hTh (B4.trans k5 B4.size) (tks_low k5 T4) (kls_low k5 K4) _ _ _ _ _ _ _ _ _ _ _ _ _ _ _ _ _ _ _ _ _ _ _ _ _ _ _ _ _ _ _ _ _ _ _ _ _ _ _ _ _ _ _ _ _ _ _ _ _ _ _ _ _ _ _ _ _ _ _ _ _ _ _ _ _ _ _ _ _ _ _ _ _ _ _ _ _ _ _ _ _ _ _ _ _ _ _ _ _ _ _ _ _ _ _ _ _ _ _ _ _ _ _ _ _ _ _ _ _ _ _ _ _ _ _ _ _ _ _ _ _ _ _ _ _ _ _ _ _ _ _ _ _ _ _ _ _ _ _ _ _ _ _ _ _ _ _ _ _ _ _ _ _ _ _ _ _ _ _ _ _ _ _ _ _ _ _ _ _ _ _ _ _ _ _ _ _ _ _ _ _ _ _ _ _ _ _ _ _ _ _ _ _ _ _ _ _ _ _ _ _ _ _ _
end Go.Proofs.Ytpmmimcafkillaa.Tr

set_option linter.unusedVariables false
set_option linter.unusedSimpArgs false
namespace Go.Proofs.Ytpmmimcafkillaa.Tr
open Go Go.Conc Go.RowKit
open Go.Proofs.Ytpmmimcafkillaa.Br (BT BTS Hd Hid Pz Pst Shn Thr EvN bt_ctl bt_cons bt_skip bt_call bt_callB bt_enter CallsB rt AtEnd0)
open Go.Proofs.Ytpmmimcafkillaa.Rs (Rule outOf out_at out_len resR crR dtR hst gmx)
open Go.Proofs.Ytpmmimcafkillaa (Tv Tks Ins jobOk job_tok TOk job_short tot tot_mem OwnI iv zall spanOf farmOf FarmOk LE farm_ok farm_one farm_many Kl Kls RdB FmD dfm_any AnR ifarm_any sfarm_any ispan_any ins_own own_lt own_ge)
theorem rdb_low {w w' : World} {a : Option Addr} {len : Nat} (hB : BelL w.heap.size w w') (h : RdB w w.heap.size a len) : RdB w' w'.heap.size a len := by
  intro j hj
  obtain ⟨b, o, z, e, h1, c, h2, h3⟩ := h j hj
  exact ⟨b, o, z, e, Nat.lt_of_lt_of_le h1 hB.size, cell_blk (hB.block _ (World.block_lt_of_cell? _ _ c)) c, h2, h3⟩
set_option maxRecDepth 100000 in
set_option maxHeartbeats 16000000 in
theorem lawFa [Thr] {W : World} (a : Option Addr) (cap len : Nat) (hr : RdB W W.heap.size a len) (hg : Br.GC Try.prog W) (hTh : Thr.N ≤ W.heap.size) :
    BT Try.prog (AtEnd0 Try.prog (PostL W)) (G (Frame.enter Try.prog 3 #[.slice a len cap] .normal) []) W := by
  have e3 : Frame.enter Try.prog 3 #[.slice a len cap] .normal = (base 3).at ⟨#[.slice a len cap, undef, undef, undef, undef, undef, undef, undef, undef, undef, undef, undef, undef, undef, undef, undef, undef, undef, undef, undef, undef, undef, undef, undef, undef, undef, undef, undef, undef, undef, undef, undef, undef, undef, undef, undef, undef, undef, undef, undef, undef, undef, undef, undef, undef, undef, undef, undef, undef, undef, undef, undef, undef, undef, undef, undef, undef, undef, undef, undef, undef, undef, undef, undef, undef, undef, undef, undef, undef, undef, undef, undef, undef, undef, undef, undef, undef, undef, undef, undef, undef, undef, undef, undef, undef, undef, undef, undef, undef, undef, undef, undef, undef, undef, undef, undef, undef, undef, undef, undef, undef, undef, undef, undef, undef, undef, undef, undef, undef, undef, undef, undef, undef, undef, undef, undef, undef, undef, undef, undef, undef, undef, undef, undef, undef, undef, undef, undef, undef, undef, undef, undef, undef, undef, undef, undef, undef, undef, undef, undef, undef, undef, undef, undef, undef, undef, undef, undef, undef, undef, undef, undef, undef, undef, undef, undef, undef, undef, undef, undef, undef, undef, undef, undef, undef, undef, undef, undef, undef, undef, undef, undef, undef, undef, undef, undef, undef, undef, undef, undef, undef, undef, undef, undef, undef, undef, undef, undef, undef, undef, undef, undef, undef, undef, undef, undef, undef, undef, undef, undef, undef, undef, undef, undef, undef, undef, undef], []⟩ [.code (Try.f3.body.getD .skip)] := by
    simp [Frame.enter, Frame.at, Try.func3, base, Try.f3]
  rw [e3]
  clear e3
  simp only [Try.f3, Option.getD_some]
  by_cases hb : len ≤ 4096
  rotate_left
  · have hb2 : decide ((4096 : Int) < len) = true := by simp; omega
    (repeat (first | refine kA ?_ | refine kB ?_ | refine kC ?_ | refine kF ?_ | (refine kG ?_; simp only [List.size_toArray, List.length_cons, List.length_nil, Nat.reduceAdd, Nat.zero_add, List.range, List.range.loop]) | (refine kO rfl (by rfl) (by decide) (by decide) (fun dzz Kzz hKzz => ?_); go_simp; refine hKzz _ _ (fun b hb => hb) (bt_at ?_); clear hKzz Kzz; try walk_nrm) | (refine bt_skip rfl (by rfl) ?_; try walk_nrm)))
    refine bt_call (R := RBo W true) zgOk (fun T d => big_B (a := a) (cap := cap) hb2) hg (fun v w T d h => h.rt) (fun v w' h => belL_pz h.2) zF9 (by simp [zK]) Try.func9 rfl rfl rfl rfl rfl (by k_ne) (by simp [Act.eval]) (fun v w1 h1 => ?_)
    obtain ⟨rfl, B1⟩ := h1
    walk_nrm
    (repeat (first | refine kA ?_ | refine kB ?_ | refine kC ?_ | refine kF ?_ | (refine kG ?_; simp only [List.size_toArray, List.length_cons, List.length_nil, Nat.reduceAdd, Nat.zero_add, List.range, List.range.loop]) | (refine kO rfl (by rfl) (by decide) (by decide) (fun dzz Kzz hKzz => ?_); go_simp; refine hKzz _ _ (fun b hb => hb) (bt_at ?_); clear hKzz Kzz; try walk_nrm) | (refine bt_skip rfl (by rfl) ?_; try walk_nrm)))
    (refine kJ rfl ?_)
    (repeat (first | refine kA ?_ | refine kB ?_ | refine kC ?_ | refine kF ?_ | (refine kG ?_; simp only [List.size_toArray, List.length_cons, List.length_nil, Nat.reduceAdd, Nat.zero_add, List.range, List.range.loop]) | (refine kO rfl (by rfl) (by decide) (by decide) (fun dzz Kzz hKzz => ?_); go_simp; refine hKzz _ _ (fun b hb => hb) (bt_at ?_); clear hKzz Kzz; try walk_nrm) | (refine bt_skip rfl (by rfl) ?_; try walk_nrm)))
    exact bt_endK rfl rfl B1
  have hb2 : decide ((4096 : Int) < len) = false := by simp; omega
  (repeat (first | refine kA ?_ | refine kB ?_ | refine kC ?_ | refine kF ?_ | (refine kG ?_; simp only [List.size_toArray, List.length_cons, List.length_nil, Nat.reduceAdd, Nat.zero_add, List.range, List.range.loop]) | (refine kO rfl (by rfl) (by decide) (by decide) (fun dzz Kzz hKzz => ?_); go_simp; refine hKzz _ _ (fun b hb => hb) (bt_at ?_); clear hKzz Kzz; try walk_nrm) | (refine bt_skip rfl (by rfl) ?_; try walk_nrm)))
  refine bt_call (R := RBo W false) zgOk (fun T d => big_B (a := a) (cap := cap) hb2) hg (fun v w T d h => h.rt) (fun v w' h => belL_pz h.2) zF9 (by simp [zK]) Try.func9 rfl rfl rfl rfl rfl (by k_ne) (by simp [Act.eval]) (fun v w1 h1 => ?_)
  obtain ⟨rfl, k1⟩ := h1
  have B1 := k1
  walk_nrm
  (repeat (first | refine kA ?_ | refine kB ?_ | refine kC ?_ | refine kF ?_ | (refine kG ?_; simp only [List.size_toArray, List.length_cons, List.length_nil, Nat.reduceAdd, Nat.zero_add, List.range, List.range.loop]) | (refine kO rfl (by rfl) (by decide) (by decide) (fun dzz Kzz hKzz => ?_); go_simp; refine hKzz _ _ (fun b hb => hb) (bt_at ?_); clear hKzz Kzz; try walk_nrm) | (refine bt_skip rfl (by rfl) ?_; try walk_nrm)))
  (refine kI rfl ?_)
  (repeat (first | refine kA ?_ | refine kB ?_ | refine kC ?_ | refine kF ?_ | (refine kG ?_; simp only [List.size_toArray, List.length_cons, List.length_nil, Nat.reduceAdd, Nat.zero_add, List.range, List.range.loop]) | (refine kO rfl (by rfl) (by decide) (by decide) (fun dzz Kzz hKzz => ?_); go_simp; refine hKzz _ _ (fun b hb => hb) (bt_at ?_); clear hKzz Kzz; try walk_nrm) | (refine bt_skip rfl (by rfl) ?_; try walk_nrm)))
  have R1 : RdB w1 w1.heap.size a len := rdb_low B1 hr
  refine bt_call (R := RFd w1) zgOk (fun T d => dfm_B (cap := cap) hb R1) (gc_belL B1 hg) (fun v w T d h => h.rt) (fun v w' h => belL_pz h.choose_spec.choose_spec.choose_spec.choose_spec.2.2.2.2.2) zF10 (by simp [zK]) Try.func10 rfl rfl rfl rfl rfl (by k_ne) (by simp [Act.eval]) (fun v w2 h2 => ?_)
  obtain ⟨J, n, cJ, x, rfl, hn, x0, x1, ⟨ts, rfl, T2⟩, k2⟩ := h2
  have B2 := B1.trans k2 B1.size
  clear B1
  walk_nrm
  have hl : ts.length ≤ maxLen := by unfold maxLen; omega
  obtain ⟨L, hL⟩ : ∃ L, farmOf ts x = L := ⟨_, rfl⟩
  (repeat (first | refine kA ?_ | refine kB ?_ | refine kC ?_ | refine kF ?_ | (refine kG ?_; simp only [List.size_toArray, List.length_cons, List.length_nil, Nat.reduceAdd, Nat.zero_add, List.range, List.range.loop]) | (refine kO rfl (by rfl) (by decide) (by decide) (fun dzz Kzz hKzz => ?_); go_simp; refine hKzz _ _ (fun b hb => hb) (bt_at ?_); clear hKzz Kzz; try walk_nrm) | (refine bt_skip rfl (by rfl) ?_; try walk_nrm)))
  refine bt_call (R := RFm w2 (farmOf ts x)) zgOk (fun T d => ifm_B (cap := cJ) hl T2) (gc_belL B2 hg) (fun v w T d h => h.rt) (fun v w' h => belL_pz h.choose_spec.choose_spec.2.2) zF11 (by simp [zK]) Try.func11 rfl rfl rfl rfl rfl (by k_ne) (by simp [Act.eval]) (fun v w3 h3 => ?_)
  obtain ⟨g5, c5, rfl, K3, k3⟩ := h3
  rw [hL] at K3
  rw [hL]
  have B3 := B2.trans k3 B2.size
  have T3 := tks_low k3 T2
  clear B2 T2
  walk_nrm
  (repeat (first | refine kA ?_ | refine kB ?_ | refine kC ?_ | refine kF ?_ | (refine kG ?_; simp only [List.size_toArray, List.length_cons, List.length_nil, Nat.reduceAdd, Nat.zero_add, List.range, List.range.loop]) | (refine kO rfl (by rfl) (by decide) (by decide) (fun dzz Kzz hKzz => ?_); go_simp; refine hKzz _ _ (fun b hb => hb) (bt_at ?_); clear hKzz Kzz; try walk_nrm) | (refine bt_skip rfl (by rfl) ?_; try walk_nrm)))
  refine bt_call (R := RFm w3 (farmOf ts x)) zgOk (fun T d => sfm_B (cap := cJ) hl T3) (gc_belL B3 hg) (fun v w T d h => h.rt) (fun v w' h => belL_pz h.choose_spec.choose_spec.2.2) zF12 (by simp [zK]) Try.func12 rfl rfl rfl rfl rfl (by k_ne) (by simp [Act.eval]) (fun v w4 h4 => ?_)
  obtain ⟨g6, c6, rfl, _, k4⟩ := h4
  rw [hL]
  have hLL : ((L.length : Int) != (L.length : Int)) = false := by simp
  have K4 := kls_low k4 K3
  have B4 := B3.trans k4 B3.size
  have T4 := tks_low k4 T3
  clear B3 T3
  clear K3
  walk_nrm
  (repeat (first | refine kA ?_ | refine kB ?_ | refine kC ?_ | refine kF ?_ | (refine kG ?_; simp only [List.size_toArray, List.length_cons, List.length_nil, Nat.reduceAdd, Nat.zero_add, List.range, List.range.loop]) | (refine kO rfl (by rfl) (by decide) (by decide) (fun dzz Kzz hKzz => ?_); go_simp; refine hKzz _ _ (fun b hb => hb) (bt_at ?_); clear hKzz Kzz; try walk_nrm) | (refine bt_skip rfl (by rfl) ?_; try walk_nrm)))
  (refine kI rfl ?_)
  refine kB ?_
  by_cases h0 : L.length = 0
  · have q7 : ((L.length : Int) == 0) = true := by simp [h0]
    clear h0
    (repeat (first | refine kA ?_ | refine kB ?_ | refine kC ?_ | refine kF ?_ | (refine kG ?_; simp only [List.size_toArray, List.length_cons, List.length_nil, Nat.reduceAdd, Nat.zero_add, List.range, List.range.loop]) | (refine kO rfl (by rfl) (by decide) (by decide) (fun dzz Kzz hKzz => ?_); go_simp; refine hKzz _ _ (fun b hb => hb) (bt_at ?_); clear hKzz Kzz; try walk_nrm) | (refine bt_skip rfl (by rfl) ?_; try walk_nrm)))
    (refine kJ rfl ?_)
    (repeat (first | refine kA ?_ | refine kB ?_ | refine kC ?_ | refine kF ?_ | (refine kG ?_; simp only [List.size_toArray, List.length_cons, List.length_nil, Nat.reduceAdd, Nat.zero_add, List.range, List.range.loop]) | (refine kO rfl (by rfl) (by decide) (by decide) (fun dzz Kzz hKzz => ?_); go_simp; refine hKzz _ _ (fun b hb => hb) (bt_at ?_); clear hKzz Kzz; try walk_nrm) | (refine bt_skip rfl (by rfl) ?_; try walk_nrm)))
    exact bt_endK rfl rfl B4
  have q7 : ((L.length : Int) == 0) = false := by simp; intro e; exact h0 (by rw [e]; rfl)
  by_cases h60 : L.length ≤ 60
  rotate_left
  · have q8 : decide ((60 : Int) < L.length) = true := by simp; omega
    (repeat (first | refine kA ?_ | refine kB ?_ | refine kC ?_ | refine kF ?_ | (refine kG ?_; simp only [List.size_toArray, List.length_cons, List.length_nil, Nat.reduceAdd, Nat.zero_add, List.range, List.range.loop]) | (refine kO rfl (by rfl) (by decide) (by decide) (fun dzz Kzz hKzz => ?_); go_simp; refine hKzz _ _ (fun b hb => hb) (bt_at ?_); clear hKzz Kzz; try walk_nrm) | (refine bt_skip rfl (by rfl) ?_; try walk_nrm)))
    (refine kJ rfl ?_)
    (repeat (first | refine kA ?_ | refine kB ?_ | refine kC ?_ | refine kF ?_ | (refine kG ?_; simp only [List.size_toArray, List.length_cons, List.length_nil, Nat.reduceAdd, Nat.zero_add, List.range, List.range.loop]) | (refine kO rfl (by rfl) (by decide) (by decide) (fun dzz Kzz hKzz => ?_); go_simp; refine hKzz _ _ (fun b hb => hb) (bt_at ?_); clear hKzz Kzz; try walk_nrm) | (refine bt_skip rfl (by rfl) ?_; try walk_nrm)))
    exact bt_endK rfl rfl B4
  have q8 : decide ((60 : Int) < L.length) = false := by simp; omega
  have hne : L ≠ [] := fun e => h0 (by rw [e]; rfl)
  clear h0
  (repeat (first | refine kA ?_ | refine kB ?_ | refine kC ?_ | refine kF ?_ | (refine kG ?_; simp only [List.size_toArray, List.length_cons, List.length_nil, Nat.reduceAdd, Nat.zero_add, List.range, List.range.loop]) | (refine kO rfl (by rfl) (by decide) (by decide) (fun dzz Kzz hKzz => ?_); go_simp; refine hKzz _ _ (fun b hb => hb) (bt_at ?_); clear hKzz Kzz; try walk_nrm) | (refine bt_skip rfl (by rfl) ?_; try walk_nrm)))
  (refine kI rfl ?_)
  refine kB ?_
  have h2 := fun y0 y1 y2 y6 y7 y8 y9 y10 y11 y12 y13 y14 y15 y16 y17 y18 y19 y20 y21 y22 y23 y24 y25 y26 y27 y28 y29 y30 y31 y32 y33 y34 y35 y36 y37 y38 y39 y40 y41 y42 y43 y44 y45 y46 y47 y48 y49 y50 y51 y52 y53 y54 y55 y56 y57 y58 y59 y60 y61 y62 y63 y64 y65 y66 y67 y68 y69 y70 y71 y72 y73 y74 y75 y76 y77 y78 y79 y80 y81 y82 y83 y84 y85 y86 y87 y88 y89 y90 y91 y92 y93 y94 y95 y96 y97 y98 y99 y100 y101 y102 y103 y104 y105 y106 y107 y108 y109 y110 y111 y112 y113 y114 y115 y116 y117 y118 y119 y120 y121 y122 y123 y124 y125 y126 y127 y128 y129 y130 y131 y132 y133 y134 y135 y136 y137 y138 y139 y140 y141 y142 y143 y144 y145 y146 y147 y148 y149 y150 y151 y152 y153 y154 y155 y156 y157 y158 y159 y160 y161 y162 y163 y164 y165 y166 y167 y168 y169 y170 y171 y172 y173 y174 y175 y176 y177 y178 y179 y180 y181 y182 y183 y184 y185 y186 y187 y188 y189 y190 y191 y192 y193 y194 y195 y196 y197 y198 y199 y200 y201 y202 y203 y204 y205 y206 => lawFa2 (cJ := cJ) (c5 := c5) (x := x) hl hL hne h60 hg hTh B4 T4 K4 y0 y1 y2 y6 y7 y8 y9 y10 y11 y12 y13 y14 y15 y16 y17 y18 y19 y20 y21 y22 y23 y24 y25 y26 y27 y28 y29 y30 y31 y32 y33 y34 y35 y36 y37 y38 y39 y40 y41 y42 y43 y44 y45 y46 y47 y48 y49 y50 y51 y52 y53 y54 y55 y56 y57 y58 y59 y60 y61 y62 y63 y64 y65 y66 y67 y68 y69 y70 y71 y72 y73 y74 y75 y76 y77 y78 y79 y80 y81 y82 y83 y84 y85 y86 y87 y88 y89 y90 y91 y92 y93 y94 y95 y96 y97 y98 y99 y100 y101 y102 y103 y104 y105 y106 y107 y108 y109 y110 y111 y112 y113 y114 y115 y116 y117 y118 y119 y120 y121 y122 y123 y124 y125 y126 y127 y128 y129 y130 y131 y132 y133 y134 y135 y136 y137 y138 y139 y140 y141 y142 y143 y144 y145 y146 y147 y148 y149 y150 y151 y152 y153 y154 y155 y156 y157 y158 y159 y160 y161 y162 y163 y164 y165 y166 y167 y168 y169 y170 y171 y172 y173 y174 y175 y176 y177 y178 y179 y180 y181 y182 y183 y184 y185 y186 y187 y188 y189 y190 y191 y192 y193 y194 y195 y196 y197 y198 y199 y200 y201 y202 y203 y204 y205 y206
  simp only [sdc, Try.f3, Option.getD_some] at h2
  exact h2 _ _ _ _ _ _ _ _ _ _ _ _ _ _ _ _ _ _ _ _ _ _ _ _ _ _ _ _ _ _ _ _ _ _ _ _ _ _ _ _ _ _ _ _ _ _ _ _ _ _ _ _ _ _ _ _ _ _ _ _ _ _ _ _ _ _ _ _ _ _ _ _ _ _ _ _ _ _ _ _ _ _ _ _ _ _ _ _ _ _ _ _ _ _ _ _ _ _ _ _ _ _ _ _ _ _ _ _ _ _ _ _ _ _ _ _ _ _ _ _ _ _ _ _ _ _ _ _ _ _ _ _ _ _ _ _ _ _ _ _ _ _ _ _ _ _ _ _ _ _ _ _ _ _ _ _ _ _ _ _ _ _ _ _ _ _ _ _ _ _ _ _ _ _ _ _ _ _ _ _ _ _ _ _ _ _ _ _ _ _ _ _ _ _ _ _ _ _ _ _ _ _ _ _
end Go.Proofs.Ytpmmimcafkillaa.Tr
