/-
  For every two sounds and every lag Agree of the program answers as its model does, all NaNs one, and the law's arguments read behind the call as they read before; no conditions.
-/
import Derived.Test.YtibeipcfokngjaaAg2
namespace Go.Proofs.Ytibeipcfokngjaa
open Go.RowKit
set_option linter.unusedVariables false
set_option linter.unusedSimpArgs false

theorem fls_own {w : World} {g n cap : Nat} {l : List Nat} (h : w.ownsRow 0 22 1 (.slice (some ⟨g, 0, none⟩) n cap) n (l.map fl)) : Fls false 0 w.heap.size w (some ⟨g, 0, none⟩) l :=
  (fls_of_own h).read.mono (Nat.zero_le _) (own_lt h)
theorem carry {W w : World} {a : Option Addr} {l : List Nat} (h : Fls false 0 W.heap.size W a l) (hb : Below W.heap.size W w) : Fls false 0 w.heap.size w a l := (h.below hb (Nat.le_refl _)).mono (Nat.le_refl _) hb.size
theorem stay {w w1 : World} {a : Option Addr} {l : List Nat} (h : Fls false 0 w.heap.size w a l) (hb : Below w.heap.size w w1) : Fls false 0 w1.heap.size w1 a l := carry h hb
theorem later {W w w1 : World} (h : Below W.heap.size W w) (hb : Below w.heap.size w w1) : Below W.heap.size W w1 := h.trans (hb.mono h.size)

set_option maxHeartbeats 1600000 in
theorem lawAg {W : World} (a : Option Addr) (ca : Nat) (l : List Nat) (hl0 : l.length ≤ maxLen) (ha : Fls false 0 W.heap.size W a l) (b : Option Addr) (cb : Nat) (m : List Nat) (hm0 : m.length ≤ maxLen) (hb : Fls false 0 W.heap.size W b m) (lag : Int) :
    Calls Try.prog 8 #[.slice a l.length ca, .slice b m.length cb, .int .i64 lag] W fun e w' => e = .returned (.bool true) ∧ Below W.heap.size W w' := by
  have ha' := hide ha
  have hb' := hide hb
  clear ha hb
  unfold maxLen at hl0 hm0
  by_cases hl : (1048576 : Int) < l.length
  · go_enter Try.func8, Try.ntmps8
    go_wp2
    go_ret
    exact ⟨rfl, Below.refl _ _⟩
  by_cases hm : (1048576 : Int) < m.length
  · go_enter Try.func8, Try.ntmps8
    go_wp2
    go_ret
    exact ⟨rfl, Below.refl _ _⟩
  have hl2 : l.length ≤ 1048576 := by omega
  have hm2 : m.length ≤ 1048576 := by omega
  go_enter Try.func8, Try.ntmps8
  go_wp2_with fail
  refine (tof_any a ca l _ hl2 (unhide ha')).mono ?_
  rintro e w1 ⟨B1, rfl, q1, n1, k1⟩
  have f1 := hide (fls_own (own_mono n1 (Nat.zero_le _)))
  have H1 := hide k1
  clear k1 n1 q1
  go_wp2_with fail
  refine (tof_any b cb m _ hm2 (carry (unhide hb') (unhide H1))).mono ?_
  rintro e w2 ⟨B2, rfl, q2, n2, k2⟩
  have f1 := hide (stay (unhide f1) k2)
  have f2 := hide (fls_own (own_mono n2 (Nat.zero_le _)))
  have H2 := hide (later (unhide H1) k2)
  clear k2 n2 q2 H1
  go_wp2_with fail
  refine (sagree_any _ _ _ _ l m lag _ hl2 hm2 (unhide f1) (unhide f2)).mono ?_
  rintro e w3 ⟨v, rfl, v1, k3⟩
  have v1' := hide v1
  have H3 := hide (later (unhide H2) k3)
  clear k3 v1 f1 f2 H2
  go_wp2_with fail
  refine (tof_any a ca l _ hl2 (carry (unhide ha') (unhide H3))).mono ?_
  rintro e w4 ⟨B4, rfl, q4, n4, k4⟩
  have f4 := hide (fls_own (own_mono n4 (Nat.zero_le _)))
  have H4 := hide (later (unhide H3) k4)
  clear k4 n4 q4 H3
  go_wp2_with fail
  refine (tof_any b cb m _ hm2 (carry (unhide hb') (unhide H4))).mono ?_
  rintro e w5 ⟨B5, rfl, q5, n5, k5⟩
  have f4 := hide (stay (unhide f4) k5)
  have f5 := hide (fls_own (own_mono n5 (Nat.zero_le _)))
  have H5 := hide (later (unhide H4) k5)
  clear k5 n5 q5 H4
  go_wp2_with fail
  refine (iagree_any _ _ _ _ l m lag _ hl2 hm2 (unhide f4) (unhide f5)).mono ?_
  rintro e w6 ⟨v', rfl, v2, k6⟩
  have f4 := hide (stay (unhide f4) k6)
  have f5 := hide (stay (unhide f5) k6)
  have H6 := hide (later (unhide H5) k6)
  have hs := hide (v2.sm (unhide v1'))
  clear k6 v2 v1' H5
  go_wp2_with fail
  refine (same2_any v' v (unhide hs) _).mono ?_
  rintro e w7 ⟨rfl, k7⟩
  have f4 := hide (stay (unhide f4) k7)
  have f5 := hide (stay (unhide f5) k7)
  have H7 := hide (later (unhide H6) k7)
  clear k7 hs H6
  go_wp2_with fail
  refine (tof_any a ca l _ hl2 (carry (unhide ha') (unhide H7))).mono ?_
  rintro e w8 ⟨B8, rfl, q8, n8, k8⟩
  have f4 := hide (stay (unhide f4) k8)
  have f5 := hide (stay (unhide f5) k8)
  have f8 := hide (fls_own (own_mono n8 (Nat.zero_le _)))
  have H8 := hide (later (unhide H7) k8)
  clear k8 n8 q8 H7
  go_wp2_with fail
  refine (eqfl_any _ _ _ _ l l _ hl2 SmL.rfl (unhide f4) (unhide f8)).mono ?_
  rintro e w9 ⟨rfl, k9⟩
  have f5 := hide (stay (unhide f5) k9)
  have H9 := hide (later (unhide H8) k9)
  clear k9 f4 f8 H8
  go_wp2_with fail
  refine (tof_any b cb m _ hm2 (carry (unhide hb') (unhide H9))).mono ?_
  rintro e w10 ⟨B10, rfl, q10, n10, k10⟩
  have f5 := hide (stay (unhide f5) k10)
  have f10 := hide (fls_own (own_mono n10 (Nat.zero_le _)))
  have H10 := hide (later (unhide H9) k10)
  clear k10 n10 q10 H9
  go_wp2_with fail
  refine (eqfl_any _ _ _ _ m m _ hm2 SmL.rfl (unhide f5) (unhide f10)).mono ?_
  rintro e w11 ⟨rfl, k11⟩
  have H11 := hide (later (unhide H10) k11)
  clear k11 f5 f10 H10
  go_wp2
  go_ret
  exact ⟨rfl, unhide H11⟩

end Go.Proofs.Ytibeipcfokngjaa
