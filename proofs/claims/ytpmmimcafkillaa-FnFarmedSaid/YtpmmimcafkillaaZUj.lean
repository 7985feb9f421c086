/-
  The loops of the farm's law, by lone walks.
  The second loop of the farm's law, by a lone walk.
-/
import Derived.Test.YtpmmimcafkillaaZUf
import Derived.Test.YtpmmimcafkillaaZUe
import Derived.Test.YtpmmimcafkillaaZRnM
import Derived.BigQuiet
import Derived.Deep.CutRange
import Derived.Deep.CutBlock
set_option linter.unusedVariables false
set_option linter.unusedSimpArgs false
namespace Go.Proofs.Ytpmmimcafkillaa.Tr
open Go Go.RowKit
open Go.Proofs.Ytpmmimcafkillaa (Ins OwnI Tks Tv Kl Kls iv ins_at tks_at kls_at infoI own_ge own_lt ownI_at ins_own ownI_put ownI_len own_set FarmOk RunOk LE cst zall getD_of getD_some grown_none)
def rfst : Code → Code
  | .seq a _ => a
  | c => c
/-- what is held in the first loop -/
structure FE (w0 w wr : World) (E n : Nat) (Es : List Int) : Prop where
  R : OwnI wr w0.heap.size E n n Es
  bel : Below w0.heap.size w0 wr
  st : ∀ k, k ≠ E → wr.heap[k]? = w.heap[k]?
  sz : wr.heap.size = w.heap.size
theorem FE.set {w0 w wr : World} {E n : Nat} {Es : List Int} (h : FE w0 w wr E n Es) (k : Nat) (x : Int) : FE w0 w (wr.setCell ⟨E, k, none⟩ (.int .i64 x)) E n (Es.set k x) :=
  ⟨ownI_put k x h.R, h.bel.setCell (own_ge h.R) _, fun j hj => by rw [heap_set_ne hj]; exact h.st j hj, by simp [h.sz]⟩
theorem FE.drew {w0 w wr : World} {E n d : Nat} {Es : List Int} (h : FE w0 w wr E n Es) : FE w0 w (wr.drewN d) E n Es := ⟨h.R, ⟨h.bel.os, h.bel.tape, h.bel.output, h.bel.size, h.bel.block⟩, h.st, h.sz⟩
theorem kls0 {w0 wr : World} {G k : Nat} {L : List Kl} {r : Kl} (h : Kls w0 (some ⟨G, 0, none⟩) L) (hb : Below w0.heap.size w0 wr) (hr : L[k]? = some r) : G < w0.heap.size ∧ wr.cell? ⟨G, k * 4, none⟩ = some (.int .i64 r.1) ∧ wr.cell? ⟨G, k * 4 + 1, none⟩ = some (.int .i64 r.2.1) ∧ wr.cell? ⟨G, k * 4 + 2, none⟩ = some (.int .i64 r.2.2.1) ∧ wr.cell? ⟨G, k * 4 + 3, none⟩ = some (.int .i64 r.2.2.2) := by
  obtain ⟨b, o, x, e, hx, h1, c0, c1, c2, c3⟩ := kls_at h hb (List.getElem?_eq_some_iff.1 hr).1
  rw [hr] at hx
  injection hx with hx
  subst hx
  injection e with e
  injection e with e1 e2
  subst e1 e2
  simp only [Nat.zero_add] at c0 c1 c2 c3
  exact ⟨h1, c0, c1, c2, c3⟩
theorem tks0 {w0 wr : World} {J k : Nat} {ts : List Tv} {t : Tv} (h : Tks w0 (some ⟨J, 0, none⟩) ts) (hb : Below w0.heap.size w0 wr) (hr : ts[k]? = some t) : J < w0.heap.size ∧ ∃ p c, wr.cell? ⟨J, k * 4, none⟩ = some (.int .i64 t.1) ∧ wr.cell? ⟨J, k * 4 + 1, none⟩ = some (.int .i64 t.2.1) ∧ wr.cell? ⟨J, k * 4 + 2, none⟩ = some (.slice p t.2.2.1.length c) ∧ wr.cell? ⟨J, k * 4 + 3, none⟩ = some (.int .i64 t.2.2.2) ∧ Ins wr p t.2.2.1 ∧ t.2.2.1.length ≤ maxLen := by
  obtain ⟨b, o, p, c, x, e, hx, h1, c0, c1, c2, c3, h4, h5⟩ := tks_at h hb (List.getElem?_eq_some_iff.1 hr).1
  rw [hr] at hx
  injection hx with hx
  subst hx
  injection e with e
  injection e with e1 e2
  subst e1 e2
  simp only [Nat.zero_add] at c0 c1 c2 c3
  exact ⟨h1, p, c, c0, c1, c2, c3, h4, h5⟩
/-- what is held behind the first loop -/
def RF1 (w0 w : World) (J cJ G cG E : Nat) (ts : List Tv) (L : List Kl) (ends : List Int) (a' : Act) (w' : World) : Prop := ∃ T Es, a' = ⟨T, []⟩ ∧ T.size = 207 ∧ T[3]? = some (.slice (some ⟨J, 0, none⟩) ts.length cJ) ∧ T[5]? = some (.slice (some ⟨G, 0, none⟩) L.length cG) ∧ T[6]? = some (.slice (some ⟨E, 0, none⟩) ts.length ts.length) ∧ FE w0 w w' E ts.length Es ∧ LE ts L ends L.length Es
set_option maxRecDepth 100000 in
set_option maxHeartbeats 4000000 in
theorem fl_mk {w : World} {ts : List Tv} {J cJ : Nat} (hn : ts.length ≤ 200) (y0 y1 y2 y4 y5 y6 y7 y8 y9 y10 y11 y12 y13 y14 y15 y16 y17 y18 y19 y20 y21 y22 y23 y24 y25 y26 y27 y28 y29 y30 y31 y32 y33 y34 y35 y36 y37 y38 y39 y40 y41 y42 y43 y44 y45 y46 y47 y48 y49 y50 y51 y52 y53 y54 y55 y56 y57 y58 y59 y60 y61 y62 y63 y64 y65 y66 y67 y68 y69 y70 y71 y72 y73 y74 y75 y76 y77 y78 y79 y80 y81 y82 y83 y84 y85 y86 y87 y88 y89 y90 y91 y92 y93 y94 y95 y96 y97 y98 y99 y100 y101 y102 y103 y104 y105 y106 y107 y108 y109 y110 y111 y112 y113 y114 y115 y116 y117 y118 y119 y120 y121 y122 y123 y124 y125 y126 y127 y128 y129 y130 y131 y132 y133 y134 y135 y136 y137 y138 y139 y140 y141 y142 y143 y144 y145 y146 y147 y148 y149 y150 y151 y152 y153 y154 y155 y156 y157 y158 y159 y160 y161 y162 y163 y164 y165 y166 y167 y168 y169 y170 y171 y172 y173 y174 y175 y176 y177 y178 y179 y180 y181 y182 y183 y184 y185 y186 y187 y188 y189 y190 y191 y192 y193 y194 y195 y196 y197 y198 y199 y200 y201 y202 y203 y204 y205 y206 : Value) :
    (rfst (sdc 6 (Try.f3.body.getD .skip))).wp Try.prog (fun e a' w' => e = .normal ∧ (a' = ⟨#[y0, y1, y2, .slice (some ⟨J, 0, none⟩) ts.length cJ, y4, y5, .slice (some ⟨w.heap.size, 0, none⟩) ts.length ts.length, y7, y8, y9, y10, y11, y12, y13, y14, y15, y16, y17, y18, y19, y20, y21, y22, y23, y24, y25, y26, y27, y28, y29, y30, y31, y32, y33, y34, y35, y36, y37, .slice (some ⟨J, 0, none⟩) ts.length cJ, .int .i64 (ts.length : Int), .slice (some ⟨w.heap.size, 0, none⟩) ts.length ts.length, y41, y42, y43, y44, y45, y46, y47, y48, y49, y50, y51, y52, y53, y54, y55, y56, y57, y58, y59, y60, y61, y62, y63, y64, y65, y66, y67, y68, y69, y70, y71, y72, y73, y74, y75, y76, y77, y78, y79, y80, y81, y82, y83, y84, y85, y86, y87, y88, y89, y90, y91, y92, y93, y94, y95, y96, y97, y98, y99, y100, y101, y102, y103, y104, y105, y106, y107, y108, y109, y110, y111, y112, y113, y114, y115, y116, y117, y118, y119, y120, y121, y122, y123, y124, y125, y126, y127, y128, y129, y130, y131, y132, y133, y134, y135, y136, y137, y138, y139, y140, y141, y142, y143, y144, y145, y146, y147, y148, y149, y150, y151, y152, y153, y154, y155, y156, y157, y158, y159, y160, y161, y162, y163, y164, y165, y166, y167, y168, y169, y170, y171, y172, y173, y174, y175, y176, y177, y178, y179, y180, y181, y182, y183, y184, y185, y186, y187, y188, y189, y190, y191, y192, y193, y194, y195, y196, y197, y198, y199, y200, y201, y202, y203, y204, y205, y206], []⟩ ∧ OwnI w' w.heap.size w.heap.size ts.length ts.length (List.replicate ts.length 0) ∧ Below w.heap.size w w')) ⟨#[y0, y1, y2, .slice (some ⟨J, 0, none⟩) ts.length cJ, y4, y5, y6, y7, y8, y9, y10, y11, y12, y13, y14, y15, y16, y17, y18, y19, y20, y21, y22, y23, y24, y25, y26, y27, y28, y29, y30, y31, y32, y33, y34, y35, y36, y37, y38, y39, y40, y41, y42, y43, y44, y45, y46, y47, y48, y49, y50, y51, y52, y53, y54, y55, y56, y57, y58, y59, y60, y61, y62, y63, y64, y65, y66, y67, y68, y69, y70, y71, y72, y73, y74, y75, y76, y77, y78, y79, y80, y81, y82, y83, y84, y85, y86, y87, y88, y89, y90, y91, y92, y93, y94, y95, y96, y97, y98, y99, y100, y101, y102, y103, y104, y105, y106, y107, y108, y109, y110, y111, y112, y113, y114, y115, y116, y117, y118, y119, y120, y121, y122, y123, y124, y125, y126, y127, y128, y129, y130, y131, y132, y133, y134, y135, y136, y137, y138, y139, y140, y141, y142, y143, y144, y145, y146, y147, y148, y149, y150, y151, y152, y153, y154, y155, y156, y157, y158, y159, y160, y161, y162, y163, y164, y165, y166, y167, y168, y169, y170, y171, y172, y173, y174, y175, y176, y177, y178, y179, y180, y181, y182, y183, y184, y185, y186, y187, y188, y189, y190, y191, y192, y193, y194, y195, y196, y197, y198, y199, y200, y201, y202, y203, y204, y205, y206], []⟩ w := by
  simp only [sdc, rfst, Try.f3, Option.getD_some]
  obtain ⟨i0, hi, hz0, hz1, hz2⟩ := info_parts infoI
  go_wp2_with (refine wpList_make_full _ rfl _ _ 29 rfl w.heap.size 2 i0 (.int .i64 0) 1 Try.underlying29 hi hz0 hz1 .i64 .i64 _ _ ts.length rfl rfl rfl rfl ?b2 ?b3 (Nat.le_refl _) ?_)
  case b2 => rw [hz2]; omega
  case b3 => unfold maxLen; omega
  intro w1 o1 g1
  have hO : OwnI w1 w.heap.size w.heap.size ts.length ts.length (List.replicate ts.length 0) := by
    rw [toList_madeCells_one] at o1
    show World.ownsRow _ _ _ _ _ _ _
    rw [List.map_replicate]
    exact o1
  have hB := grown_none g1
  clear o1 g1 hi hz0 hz1 hz2
  go_wp2
set_option maxRecDepth 100000 in
set_option maxHeartbeats 6400000 in
theorem fl_1 {w0 w : World} {ts : List Tv} {L : List Kl} {ends : List Int} {W : Int} {J cJ G cG E : Nat} (hT : Tks w0 (some ⟨J, 0, none⟩) ts) (hL : Kls w0 (some ⟨G, 0, none⟩) L) (hb : Below w0.heap.size w0 w) (hE : OwnI w w0.heap.size E ts.length ts.length (List.replicate ts.length 0)) (f : FarmOk ts W ends L) (h60 : L.length ≤ 60) (y0 y1 y2 y7 y8 y9 y10 y11 y12 y13 y14 y15 y16 y17 y18 y19 y20 y21 y22 y23 y24 y25 y26 y27 y28 y29 y30 y31 y32 y33 y34 y35 y36 y37 y38 y39 y40 y41 y42 y43 y44 y45 y46 y47 y48 y49 y50 y51 y52 y53 y54 y55 y56 y57 y58 y59 y60 y61 y62 y63 y64 y65 y66 y67 y68 y69 y70 y71 y72 y73 y74 y75 y76 y77 y78 y79 y80 y81 y82 y83 y84 y85 y86 y87 y88 y89 y90 y91 y92 y93 y94 y95 y96 y97 y98 y99 y100 y101 y102 y103 y104 y105 y106 y107 y108 y109 y110 y111 y112 y113 y114 y115 y116 y117 y118 y119 y120 y121 y122 y123 y124 y125 y126 y127 y128 y129 y130 y131 y132 y133 y134 y135 y136 y137 y138 y139 y140 y141 y142 y143 y144 y145 y146 y147 y148 y149 y150 y151 y152 y153 y154 y155 y156 y157 y158 y159 y160 y161 y162 y163 y164 y165 y166 y167 y168 y169 y170 y171 y172 y173 y174 y175 y176 y177 y178 y179 y180 y181 y182 y183 y184 y185 y186 y187 y188 y189 y190 y191 y192 y193 y194 y195 y196 y197 y198 y199 y200 y201 y202 y203 y204 y205 y206 : Value) :
    (rfst (sdc 7 (Try.f3.body.getD .skip))).wp Try.prog (fun e a' w' => e = .normal ∧ RF1 w0 w J cJ G cG E ts L ends a' w') ⟨#[y0, y1, y2, .slice (some ⟨J, 0, none⟩) ts.length cJ, .int .i64 W, .slice (some ⟨G, 0, none⟩) L.length cG, .slice (some ⟨E, 0, none⟩) ts.length ts.length, y7, y8, y9, y10, y11, y12, y13, y14, y15, y16, y17, y18, y19, y20, y21, y22, y23, y24, y25, y26, y27, y28, y29, y30, y31, y32, y33, y34, y35, y36, y37, y38, y39, y40, y41, y42, y43, y44, y45, y46, y47, y48, y49, y50, y51, y52, y53, y54, y55, y56, y57, y58, y59, y60, y61, y62, y63, y64, y65, y66, y67, y68, y69, y70, y71, y72, y73, y74, y75, y76, y77, y78, y79, y80, y81, y82, y83, y84, y85, y86, y87, y88, y89, y90, y91, y92, y93, y94, y95, y96, y97, y98, y99, y100, y101, y102, y103, y104, y105, y106, y107, y108, y109, y110, y111, y112, y113, y114, y115, y116, y117, y118, y119, y120, y121, y122, y123, y124, y125, y126, y127, y128, y129, y130, y131, y132, y133, y134, y135, y136, y137, y138, y139, y140, y141, y142, y143, y144, y145, y146, y147, y148, y149, y150, y151, y152, y153, y154, y155, y156, y157, y158, y159, y160, y161, y162, y163, y164, y165, y166, y167, y168, y169, y170, y171, y172, y173, y174, y175, y176, y177, y178, y179, y180, y181, y182, y183, y184, y185, y186, y187, y188, y189, y190, y191, y192, y193, y194, y195, y196, y197, y198, y199, y200, y201, y202, y203, y204, y205, y206], []⟩ w := by
  have hT' := hide hT
  have hL' := hide hL
  have f' := hide f
  have M0 := hide (show FE w0 w w E ts.length (List.replicate ts.length 0) ∧ LE ts L ends 0 (List.replicate ts.length 0) from ⟨⟨hE, hb, fun _ _ => rfl, rfl⟩, LE.zero ts L ends⟩)
  clear hT hL hb hE f
  simp only [sdc, rfst, Try.f3, Option.getD_some]
  go_wp2
  go_loopw [7] (fun u wr => ∃ (k : Nat) (Es : List Int), k ≤ L.length ∧ u = .int .i64 k ∧ Hid (FE w0 w wr E ts.length Es ∧ LE ts L ends k Es)) (fun u _ => L.length - (intOf u).toNat)
  case atStart => exact ⟨0, _, by omega, rfl, M0⟩
  case round =>
    obtain ⟨k, Es, hk, rfl, hM⟩ := hrel
    clear M0
    by_cases hlt : k < L.length
    rotate_left
    · obtain rfl : k = L.length := by omega
      have gk : decide ((L.length : Int) < L.length) = false := by simp
      go_wp2
      exact ⟨_, Es, rfl, rfl, rfl, rfl, rfl, (unhide hM).1, (unhide hM).2⟩
    have gk : decide ((k : Int) < L.length) = true := by simp; omega
    obtain ⟨⟨r1, wk, fr, tt⟩, hr⟩ : ∃ r, L[k]? = some r := ⟨_, List.getElem?_eq_getElem hlt⟩
    obtain ⟨i, t, ho⟩ := (unhide f').run k _ hr
    obtain ⟨g0, c0, c1, c2, c3⟩ := kls0 (unhide hL') (unhide hM).1.bel hr
    obtain ⟨j0, p, c, d0, d1, d2, d3, _, _⟩ := tks0 (unhide hT') (unhide hM).1.bel ho.it
    have hil := (List.getElem?_eq_some_iff.1 ho.it).1
    have e0 := (unhide hM).2.new k _ (Nat.le_refl _) hr
    have hEl := (unhide hM).2.len
    have hi0 := ho.i0
    simp only at c0 c1 c2 c3 hi0 e0
    subst hi0
    rw [Int.toNat_natCast] at e0
    have z0 := ownI_at (show Es[i]? = some 0 by rw [getD_of (by omega), e0]) (unhide hM).1.R
    have zf := (unhide hM).1.R.frozenAt i
    have b1 := ho.w0
    have b2 := ho.w1
    have b3 := ho.f0
    have b4 := ho.f1
    have b5 := ho.«to»
    have b6 := ho.c0
    have b7 := ho.c1
    simp only at b1 b2 b3 b4 b5
    subst b5
    have q1 : (IntKind.i64.wrap (fr + t.2.2.2 - fr) != t.2.2.2) = false := by
      rw [IntKind.wrap_i64]
      simp
      omega
    have q2 : decide (wk < 0) = false := by simp; omega
    have q3 : decide (W ≤ wk) = false := by simp; omega
    have hge := own_ge (unhide hM).1.R
    have hMn := hide (fun d => show FE w0 w ((wr.drewN d).setCell ⟨E, i, none⟩ (.int .i64 (fr + t.2.2.2))) E ts.length (Es.set i (fr + t.2.2.2)) ∧ LE ts L ends (k + 1) (Es.set i (fr + t.2.2.2)) from ⟨(unhide hM).1.drew.set i _, (unhide hM).2.step (unhide f') hr ho⟩)
    have hord := hide (fun m (r' : Kl) (hm : m < k) (hr' : L[m]? = some r') (he : r'.2.1 = wk) => show r'.2.2.2 ≤ fr from (unhide f').ord m k r' _ hm hr' hr he)
    have hr' := hide hr
    clear hr ho hM e0 d0 d1 d2
    obtain ⟨wo, rfl⟩ : ∃ x, x = wr := ⟨wr, rfl⟩
    go_upto_region 13 with fail
    go_cut [95] from 47 to 94 (fun c wx => c = .bool false ∧ ∃ d : Nat, wx = wo.drewN d)
    case first =>
      go_wp2_with fail
      go_quiet (fail)
      go_wp2
      go_meet
      exact ⟨rfl, _, rfl⟩
    case rest =>
    obtain ⟨hc95, dd, rfl⟩ := hcut
    subst hc95
    clear q1 q2 q3
    go_upto_region 15 with fail
    go_cut [] from 96 to 107 (fun wx => Hid (FE w0 w wx E ts.length (Es.set i (fr + t.2.2.2)) ∧ LE ts L ends (k + 1) (Es.set i (fr + t.2.2.2))))
    case first =>
      go_wp2_with fail
      go_region
      go_wp2
      go_meet
      exact hide (unhide hMn (dd + 1))
    case rest =>
    have hMX := hcut
    clear hMn c0 c1 c2 c3 z0 zf d3
    rename World => X
    go_wp2
    go_loopw [8] (fun u wr => ∃ (m d : Nat), m ≤ k ∧ u = .int .i64 m ∧ wr = X.drewN d) (fun u _ => k - (intOf u).toNat)
    case atStart => exact ⟨0, 0, by omega, rfl, rfl⟩
    case round =>
      obtain ⟨m, d, hm, rfl, rfl⟩ := hrel
      by_cases hml : m < k
      · have gm : decide ((m : Int) < k) = true := by simp; omega
        have hmL : m < L.length := by omega
        obtain ⟨⟨s1, wk2, fr2, to2⟩, hs⟩ : ∃ r, L[m]? = some r := ⟨_, List.getElem?_eq_getElem hmL⟩
        obtain ⟨_, e0, e1, e2, e3⟩ := kls0 (unhide hL') (unhide hMX).1.bel hs
        obtain ⟨_, c0, c1, c2, c3⟩ := kls0 (unhide hL') (unhide hMX).1.bel (unhide hr')
        simp only at e0 e1 e2 e3 c0 c1 c2 c3
        cases hw : wk2 == wk with
        | false =>
          clear hs
          go_wp2_with fail
          go_quiet (fail)
          go_wp2
          go_roundw
          case rel => exact ⟨m + 1, _, by omega, by go_num, rfl⟩
          case measure => simp [intOf]; omega
        | true =>
          have ho := unhide hord m _ hml hs (by simpa using hw)
          simp only at ho
          have q4 : decide (fr < to2) = false := by simp; omega
          clear hs
          go_wp2_with fail
          go_quiet (fail)
          go_wp2
          go_roundw
          case rel => exact ⟨m + 1, _, by omega, by go_num, rfl⟩
          case measure => simp [intOf]; omega
      · obtain rfl : m = k := by omega
        have gm : decide ((m : Int) < m) = false := by simp
        have hMd := hide (show FE w0 w (X.drewN d) E ts.length (Es.set i (fr + t.2.2.2)) ∧ LE ts L ends (m + 1) (Es.set i (fr + t.2.2.2)) from ⟨(unhide hMX).1.drew, (unhide hMX).2⟩)
        clear hMX hord
        go_wp2
        go_roundw
        case rel => exact ⟨m + 1, _, by omega, by go_num, hMd⟩
        case measure => simp [intOf]; omega
end Go.Proofs.Ytpmmimcafkillaa.Tr

set_option linter.unusedVariables false
set_option linter.unusedSimpArgs false
namespace Go.Proofs.Ytpmmimcafkillaa.Tr
open Go Go.RowKit
open Go.Proofs.Ytpmmimcafkillaa (Ins OwnI Tks Tv Kl Kls iv ins_at tks_at kls_at infoI own_ge own_lt ownI_at ins_own ownI_put ownI_len own_set FarmOk RunOk LE cst zall getD_of getD_some grown_none take_snocK)
/-- what is held behind the second loop -/
def RF2 (w : World) (J cJ G cG : Nat) (ts : List Tv) (L : List Kl) (a' : Act) (w' : World) : Prop := ∃ T, a' = ⟨T, []⟩ ∧ T.size = 207 ∧ T[3]? = some (.slice (some ⟨J, 0, none⟩) ts.length cJ) ∧ T[5]? = some (.slice (some ⟨G, 0, none⟩) L.length cG) ∧ T[9]? = some (.int .i64 (zall ts)) ∧ Below w.heap.size w w'
theorem sum_snoc {ts : List Tv} {L : List Kl} {k : Nat} {r : Kl} (h : L[k]? = some r) : ((L.take (k + 1)).map fun r : Kl => cst ts r.1.toNat).sum = ((L.take k).map fun r : Kl => cst ts r.1.toNat).sum + cst ts r.1.toNat := by
  rw [take_snocK h]
  simp
set_option maxRecDepth 100000 in
set_option maxHeartbeats 6400000 in
theorem fl_2 {w : World} {ts : List Tv} {L : List Kl} {ends Es : List Int} {W : Int} {J cJ G cG E : Nat} (hT : Tks w (some ⟨J, 0, none⟩) ts) (hL : Kls w (some ⟨G, 0, none⟩) L) (hE : Ins w (some ⟨E, 0, none⟩) Es) (hEs : LE ts L ends L.length Es) (f : FarmOk ts W ends L) (h60 : L.length ≤ 60) (y0 y1 y2 y4 y7 y8 y10 y11 y12 y13 y14 y15 y16 y17 y18 y19 y20 y21 y22 y23 y24 y25 y26 y27 y28 y29 y30 y31 y32 y33 y34 y35 y36 y37 y38 y39 y40 y41 y42 y43 y44 y45 y46 y47 y48 y49 y50 y51 y52 y53 y54 y55 y56 y57 y58 y59 y60 y61 y62 y63 y64 y65 y66 y67 y68 y69 y70 y71 y72 y73 y74 y75 y76 y77 y78 y79 y80 y81 y82 y83 y84 y85 y86 y87 y88 y89 y90 y91 y92 y93 y94 y95 y96 y97 y98 y99 y100 y101 y102 y103 y104 y105 y106 y107 y108 y109 y110 y111 y112 y113 y114 y115 y116 y117 y118 y119 y120 y121 y122 y123 y124 y125 y126 y127 y128 y129 y130 y131 y132 y133 y134 y135 y136 y137 y138 y139 y140 y141 y142 y143 y144 y145 y146 y147 y148 y149 y150 y151 y152 y153 y154 y155 y156 y157 y158 y159 y160 y161 y162 y163 y164 y165 y166 y167 y168 y169 y170 y171 y172 y173 y174 y175 y176 y177 y178 y179 y180 y181 y182 y183 y184 y185 y186 y187 y188 y189 y190 y191 y192 y193 y194 y195 y196 y197 y198 y199 y200 y201 y202 y203 y204 y205 y206 : Value) :
    (rfst (sdc 9 (Try.f3.body.getD .skip))).wp Try.prog (fun e a' w' => e = .normal ∧ RF2 w J cJ G cG ts L a' w') ⟨#[y0, y1, y2, .slice (some ⟨J, 0, none⟩) ts.length cJ, y4, .slice (some ⟨G, 0, none⟩) L.length cG, .slice (some ⟨E, 0, none⟩) ts.length ts.length, y7, y8, .int .i64 0, y10, y11, y12, y13, y14, y15, y16, y17, y18, y19, y20, y21, y22, y23, y24, y25, y26, y27, y28, y29, y30, y31, y32, y33, y34, y35, y36, y37, y38, y39, y40, y41, y42, y43, y44, y45, y46, y47, y48, y49, y50, y51, y52, y53, y54, y55, y56, y57, y58, y59, y60, y61, y62, y63, y64, y65, y66, y67, y68, y69, y70, y71, y72, y73, y74, y75, y76, y77, y78, y79, y80, y81, y82, y83, y84, y85, y86, y87, y88, y89, y90, y91, y92, y93, y94, y95, y96, y97, y98, y99, y100, y101, y102, y103, y104, y105, y106, y107, y108, y109, y110, y111, y112, y113, y114, y115, y116, y117, y118, y119, y120, y121, y122, y123, y124, y125, y126, y127, y128, y129, y130, y131, y132, y133, y134, y135, y136, y137, y138, y139, y140, y141, y142, y143, y144, y145, y146, y147, y148, y149, y150, y151, y152, y153, y154, y155, y156, y157, y158, y159, y160, y161, y162, y163, y164, y165, y166, y167, y168, y169, y170, y171, y172, y173, y174, y175, y176, y177, y178, y179, y180, y181, y182, y183, y184, y185, y186, y187, y188, y189, y190, y191, y192, y193, y194, y195, y196, y197, y198, y199, y200, y201, y202, y203, y204, y205, y206], []⟩ w := by
  have hT' := hide hT
  have hL' := hide hL
  have hE' := hide hE
  have hEs' := hide hEs
  have hsum := hide f.sum
  have f' := hide f
  clear hT hL hE f hEs
  simp only [sdc, rfst, Try.f3, Option.getD_some]
  go_wp2
  go_loopw [9, 10] (fun s u wr => ∃ (k : Nat) (sm : Int), k ≤ L.length ∧ u = .int .i64 k ∧ s = .int .i64 sm ∧ 0 ≤ sm ∧ sm ≤ 1000 * k ∧ Hid (sm = ((L.take k).map fun r : Kl => cst ts r.1.toNat).sum) ∧ Hid (Below w.heap.size w wr)) (fun _ u _ => L.length - (intOf u).toNat)
  case atStart => exact ⟨0, 0, by omega, rfl, rfl, by omega, by omega, hide rfl, hide (Below.refl _ _)⟩
  case round =>
    obtain ⟨k, sm, hk, rfl, rfl, s0, s1, hsm, hB⟩ := hrel
    by_cases hlt : k < L.length
    rotate_left
    · obtain rfl : k = L.length := by omega
      obtain rfl : sm = zall ts := by rw [unhide hsm, List.take_of_length_le (Nat.le_refl _)]; exact unhide hsum
      have gk : decide ((L.length : Int) < L.length) = false := by simp
      clear hsm hsum
      go_wp2
      exact ⟨_, rfl, rfl, rfl, rfl, rfl, unhide hB⟩
    have gk : decide ((k : Int) < L.length) = true := by simp; omega
    obtain ⟨⟨r1, wk, fr, tt⟩, hr⟩ : ∃ r, L[k]? = some r := ⟨_, List.getElem?_eq_getElem hlt⟩
    obtain ⟨i, t, ho⟩ := (unhide f').run k _ hr
    obtain ⟨g0, c0, c1, c2, c3⟩ := kls0 (unhide hL') (unhide hB) hr
    obtain ⟨j0, p, c, d0, d1, d2, d3, hI, hml⟩ := tks0 (unhide hT') (unhide hB) ho.it
    have hil := (List.getElem?_eq_some_iff.1 ho.it).1
    have hi0 := ho.i0
    simp only at c0 c1 c2 c3 hi0
    subst hi0
    have b3 := ho.f0
    have b6 := ho.c0
    have b7 := ho.c1
    simp only at b3
    have hcs : cst ts i = t.2.2.2 := by simp [cst, List.getD_eq_getElem?_getD, ho.it]
    have hsm2 := hide (show sm + t.2.2.2 = ((L.take (k + 1)).map fun r : Kl => cst ts r.1.toNat).sum by rw [sum_snoc hr, ← unhide hsm, Int.toNat_natCast, hcs])
    have hnd := hide ho.nd
    have hr' := hide hr
    have hsB := (unhide hB).size
    have X2 : (wr.alloc (.cells #[.int .i64 t.1, .int .i64 t.2.1, .slice p t.2.2.1.length c, .int .i64 t.2.2.2] 33)).cell? ⟨wr.heap.size, 2, none⟩ = some (.slice p t.2.2.1.length c) := by simp [go_sem]
    have BX := hide (show Below w.heap.size w (wr.alloc (.cells #[.int .i64 t.1, .int .i64 t.2.1, .slice p t.2.2.1.length c, .int .i64 t.2.2.2] 33)) from (unhide hB).alloc hsB _)
    have IX := hide (hI.below ((Below.refl wr.heap.size wr).alloc (Nat.le_refl _) (.cells #[.int .i64 t.1, .int .i64 t.2.1, .slice p t.2.2.1.length c, .int .i64 t.2.2.2] 33)))
    have KX := hide (fun (wx : World) (h : Below w.heap.size w wx) => kls0 (unhide hL') h hr)
    clear hr ho hsm hcs hI hB
    go_wp2
    generalize wr.alloc _ = X at *
    generalize wr.heap.size = q at *
    clear c0 c1 c2 c3 d0 d1 d2 d3
    go_loopw [12] (fun u wr2 => ∃ (m d : Nat), m ≤ t.2.2.1.length ∧ u = .int .i64 m ∧ wr2 = X.drewN d) (fun u _ => t.2.2.1.length - (intOf u).toNat)
    case atStart => exact ⟨0, 0, by omega, rfl, rfl⟩
    case round =>
      obtain ⟨m, d, hm, rfl, rfl⟩ := hrel
      unfold maxLen at hml
      by_cases hmm : m < t.2.2.1.length
      · have gm : decide ((m : Int) < t.2.2.1.length) = true := by simp; omega
        obtain ⟨b, o, x, rfl, hx, _, e0⟩ := ins_at (unhide IX) (Below.refl _ _) hmm
        obtain ⟨x0, x1, x2⟩ := unhide hnd x (List.mem_of_getElem? hx)
        obtain ⟨xn, rfl⟩ := Int.eq_ofNat_of_zero_le x0
        have hxl : xn < ts.length := by omega
        have hEl := (unhide hEs').len
        obtain ⟨b9, o9, e, hae, he, _, z0⟩ := ins_at (unhide hE') (unhide BX) (k := xn) (by omega)
        injection hae with hae
        injection hae with hb2 ho2
        subst hb2
        subst ho2
        rw [Nat.zero_add] at z0
        have hv := (unhide hEs').val xn hxl
        rw [getD_some he] at hv
        rw [Int.toNat_natCast] at x2
        have q4 : decide (fr < e) = false := by simp; omega
        obtain ⟨_, c0, c1, c2, c3⟩ := unhide KX X (unhide BX)
        clear hx he hv
        go_wp2_with fail
        go_quiet (fail)
        go_wp2
        go_roundw
        case rel => exact ⟨m + 1, _, by omega, by go_num, rfl⟩
        case measure => simp [intOf]; omega
      · obtain rfl : m = t.2.2.1.length := by omega
        have gm : decide ((t.2.2.1.length : Int) < t.2.2.1.length) = false := by simp
        have BXd := hide (show Below w.heap.size w (X.drewN d) from ⟨(unhide BX).os, (unhide BX).tape, (unhide BX).output, (unhide BX).size, (unhide BX).block⟩)
        clear KX hnd BX IX
        go_wp2
        go_roundw
        case rel => exact ⟨k + 1, sm + t.2.2.2, by omega, by go_num, by go_num, by omega, by omega, hsm2, BXd⟩
        case measure => simp [intOf]; omega
end Go.Proofs.Ytpmmimcafkillaa.Tr
