/-
  For every text ReadTitles of the program answers as its model does, its answer is memory of its own; where the library's variables lie there.
-/
import Derived.Test.YtapdjgkoekjngaaDoorRdL
import Derived.Test.YtapdjgkoekjngaaDoorMrk
import Derived.Test.YtapdjgkoekjngaaDoorSzl
namespace Go.Proofs.YtapdjgkoekjngaaDoor
open Go.RowKit
set_option linter.unusedVariables false
set_option linter.unusedSimpArgs false

set_option maxRecDepth 100000 in
theorem eqf_any (k n : Int) (w : World) : Calls Tryd.prog 24 #[fa k n, fa k n] w fun e w' => e = .returned (.bool true) ∧ Below w.heap.size w w' := by
  have g1 : (k != k) = false := by simp
  have g2 : (n != n) = false := by simp
  have B := hide (((Below.refl w.heap.size w).alloc (Nat.le_refl _) (.cells #[.int .i64 k, .int .i64 n] 41)).alloc (by simp) (.cells #[.int .i64 k, .int .i64 n] 41))
  go_enter Tryd.func24, Tryd.ntmps24
  go_wp2
  go_ret
  exact ⟨rfl, unhide B⟩
set_option maxRecDepth 100000 in
set_option maxHeartbeats 6400000 in
theorem lawRd {W : World} (s : ByteArray) (hs : s.size ≤ maxLen) (hM : MaxL W) (hT : Tab W) :
    Calls Tryd.prog 6 #[.string s] W fun e w' => e = .returned (.bool true) ∧ Below W.heap.size W w' := by
  by_cases hb : 1048576 < s.size
  · have g0 : decide ((1048576 : Int) < (s.size : Int)) = true := decide_eq_true (by omega)
    go_enter Tryd.func6, Tryd.ntmps6
    go_wp2
    go_ret
    exact ⟨rfl, Below.refl _ _⟩
  have g0 : decide ((1048576 : Int) < (s.size : Int)) = false := decide_eq_false (by omega)
  obtain ⟨L, hL⟩ : ∃ L, s.data.toList = L := ⟨_, rfl⟩
  have hLl : L.length ≤ 1048576 := by rw [← hL, ← Lib.size_eq]; omega
  obtain ⟨l, k, n, hR⟩ : ∃ l k n, rdT L = (l, k, n) := ⟨_, _, _, rfl⟩
  have cS := hide (fun w => srd_any s L l k n w (by omega) hL hR)
  have cI := hide (fun w hM hT => iread_any s L l k n w (mk_list hL) hLl hM hT hR)
  have cF := hide (fun w => eqf_any k n w)
  have hM' := hide hM
  have hT' := hide hT
  clear hR hL hM hT hLl
  go_enter Tryd.func6, Tryd.ntmps6
  go_wp2_with fail
  refine (unhide cS _).mono ?_
  rintro e w1 ⟨g1, c1, rfl, hl, n1, H⟩
  have ow := hide (own_mono n1 (Nat.zero_le _))
  have z1 := own_lt n1
  have h1 := own_ge n1
  clear n1 cS
  have H := hide H
  have y1 : w1.heap.size < (w1.alloc (.cells #[.int .i64 k, .int .i64 n] 41)).heap.size := by simp
  have V1 := hide (alloc_new w1 (.cells #[.int .i64 k, .int .i64 n] 41))
  have al := (Below.refl w1.heap.size w1).alloc (Nat.le_refl _) (.cells #[.int .i64 k, .int .i64 n] 41)
  have ow := hide (ownsRow_below (unhide ow) al)
  have H := hide (laterB (unhide H) al)
  clear al
  go_wp2_with fail
  generalize w1.alloc (.cells #[.int .i64 k, .int .i64 n] 41) = X1 at *
  generalize w1.heap.size = F1 at *
  have s1 := (unhide H).size
  refine (unhide cI _ ((unhide hM').below (unhide H)) ((unhide hT').below (unhide H))).mono ?_
  rintro e w2 ⟨g2, c2, rfl, _, n2, kb⟩
  have h2 := own_ge n2
  have z2 := own_lt n2
  have og := hide (own_mono n2 (Nat.zero_le _))
  have ow := hide (ownsRow_below (unhide ow) kb)
  have V1 := hide (blk_below (unhide V1) kb)
  have H := hide (laterB (unhide H) kb)
  clear n2 kb
  have y2 : w2.heap.size < (w2.alloc (.cells #[.int .i64 k, .int .i64 n] 41)).heap.size := by simp
  have V2 := hide (alloc_new w2 (.cells #[.int .i64 k, .int .i64 n] 41))
  have al := (Below.refl w2.heap.size w2).alloc (Nat.le_refl _) (.cells #[.int .i64 k, .int .i64 n] 41)
  have ow := hide (ownsRow_below (unhide ow) al)
  have og := hide (ownsRow_below (unhide og) al)
  have V1 := hide (blk_below (unhide V1) al)
  have H := hide (laterB (unhide H) al)
  clear al
  go_wp2_with fail
  generalize w2.alloc (.cells #[.int .i64 k, .int .i64 n] 41) = X2 at *
  generalize w2.heap.size = F2 at *
  refine (eqks_any _ _ _ _ l _ (by omega) (kls_own (unhide og)) (kls_own (unhide ow))).mono ?_
  rintro e w3 ⟨rfl, kb⟩
  have ow := hide (ownsRow_below (unhide ow) kb)
  have og := hide (ownsRow_below (unhide og) kb)
  have V1 := hide (blk_below (unhide V1) kb)
  have V2 := hide (blk_below (unhide V2) kb)
  have H := hide (laterB (unhide H) kb)
  clear kb
  obtain ⟨p0, p1⟩ := blk2 (unhide V2)
  obtain ⟨q0, q1⟩ := blk2 (unhide V1)
  go_wp2_with fail
  refine (unhide cF _).mono ?_
  rintro e w4 ⟨rfl, kb⟩
  have ow := hide (ownsRow_below (unhide ow) kb)
  have og := hide (ownsRow_below (unhide og) kb)
  have V1 := hide (blk_below (unhide V1) kb)
  have V2 := hide (blk_below (unhide V2) kb)
  have H := hide (laterB (unhide H) kb)
  clear kb p0 p1 q0 q1
  have d1 : g1 ≠ g2 := by omega
  have d2 : F1 ≠ g2 := by omega
  have d3 : F2 ≠ g2 := by omega
  have d4 : W.heap.size ≤ g2 := by omega
  go_wp2_with fail
  refine (markk_any 0 g2 l.length c2 1 _ _ (by omega) (by omega) (by omega) (unhide og)).mono ?_
  rintro e w5 ⟨rfl, ⟨ys, hy, hmk⟩, kg⟩
  have ow := hide (own_kept (unhide ow) kg (by omega))
  have V1 := hide ((kg.block F1 (lt_blk (unhide V1)) (by intro e; injection e with e; exact d2 e)).trans (unhide V1))
  have H := hide (below_grown (unhide H) kg (by omega))
  have og := hide hy
  have hm' := hide hmk
  clear kg hy hmk V2
  go_wp2_with fail
  have t2 : decide ((1 : Int) + (l.length : Int) * 3 < 0) = false := by simp; omega
  have t3 : ((1 : Int) + (l.length : Int) * 3 != 1 + (l.length : Int) * 3) = false := by simp
  refine (heldk_any 0 g2 l.length c2 1 ys _ (by omega) (by omega) (by omega) (unhide og) (unhide hm')).mono ?_
  rintro e w6 ⟨rfl, kb⟩
  have ow := hide (ownsRow_below (unhide ow) kb)
  have og := hide (ownsRow_below (unhide og) kb)
  have V1 := hide (blk_below (unhide V1) kb)
  have H := hide (laterB (unhide H) kb)
  clear kb
  go_wp2_with fail
  refine (unhide cI _ ((unhide hM').below (unhide H)) ((unhide hT').below (unhide H))).mono ?_
  rintro e w7 ⟨g3, c3, rfl, _, n3, kb⟩
  have oa := hide (own_mono n3 (Nat.zero_le _))
  have ow := hide (ownsRow_below (unhide ow) kb)
  have og := hide (ownsRow_below (unhide og) kb)
  have V1 := hide (blk_below (unhide V1) kb)
  have H := hide (laterB (unhide H) kb)
  clear n3 kb
  have V3 := hide (alloc_new w7 (.cells #[.int .i64 k, .int .i64 n] 41))
  have al := (Below.refl w7.heap.size w7).alloc (Nat.le_refl _) (.cells #[.int .i64 k, .int .i64 n] 41)
  have ow := hide (ownsRow_below (unhide ow) al)
  have og := hide (ownsRow_below (unhide og) al)
  have oa := hide (ownsRow_below (unhide oa) al)
  have V1 := hide (blk_below (unhide V1) al)
  have H := hide (laterB (unhide H) al)
  clear al
  go_wp2_with fail
  generalize w7.alloc (.cells #[.int .i64 k, .int .i64 n] 41) = X3 at *
  generalize w7.heap.size = F3 at *
  refine (eqks_any _ _ _ _ l _ (by omega) (kls_own (unhide oa)) (kls_own (unhide ow))).mono ?_
  rintro e w8 ⟨rfl, kb⟩
  have ow := hide (ownsRow_below (unhide ow) kb)
  have og := hide (ownsRow_below (unhide og) kb)
  have oa := hide (ownsRow_below (unhide oa) kb)
  have V1 := hide (blk_below (unhide V1) kb)
  have V3 := hide (blk_below (unhide V3) kb)
  have H := hide (laterB (unhide H) kb)
  clear kb
  obtain ⟨p0, p1⟩ := blk2 (unhide V3)
  obtain ⟨q0, q1⟩ := blk2 (unhide V1)
  go_wp2_with fail
  refine (unhide cF _).mono ?_
  rintro e w9 ⟨rfl, kb⟩
  have ow := hide (ownsRow_below (unhide ow) kb)
  have og := hide (ownsRow_below (unhide og) kb)
  have oa := hide (ownsRow_below (unhide oa) kb)
  have V1 := hide (blk_below (unhide V1) kb)
  have V3 := hide (blk_below (unhide V3) kb)
  have H := hide (laterB (unhide H) kb)
  clear kb p0 p1 q0 q1
  go_wp2_with fail
  refine (heldk_any 0 g2 l.length c2 1 ys _ (by omega) (by omega) (by omega) (unhide og) (unhide hm')).mono ?_
  rintro e w10 ⟨rfl, kb⟩
  have ow := hide (ownsRow_below (unhide ow) kb)
  have og := hide (ownsRow_below (unhide og) kb)
  have oa := hide (ownsRow_below (unhide oa) kb)
  have V1 := hide (blk_below (unhide V1) kb)
  have V3 := hide (blk_below (unhide V3) kb)
  have H := hide (laterB (unhide H) kb)
  clear kb
  go_wp2
  go_ret
  exact ⟨rfl, unhide H⟩

end Go.Proofs.YtapdjgkoekjngaaDoor
