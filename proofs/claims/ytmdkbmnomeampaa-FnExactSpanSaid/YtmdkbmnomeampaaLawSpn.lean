/-
  For every list of runs Span of the program answers as its model does; the list reads behind the call as it read before; no conditions.
-/
import Derived.Test.YtmdkbmnomeampaaSpn
namespace Go.Proofs.Ytmdkbmnomeampaa
open Go.RowKit
set_option linter.unusedVariables false
set_option linter.unusedSimpArgs false

set_option maxRecDepth 100000 in
set_option maxHeartbeats 1600000 in
theorem lawSpn {W : World} (a : Option Addr) (cap : Nat) (l : List Kl) (hl : l.length ≤ maxLen) (hr : Kls W a l) :
    Calls Try.prog 7 #[.slice a l.length cap] W fun e w' => e = .returned (.bool true) ∧ Below W.heap.size W w' := by
  have hr' := hide hr
  have hl' := hide hl
  obtain ⟨v, hv⟩ : ∃ v, spanOf l = v := ⟨_, rfl⟩
  have hv' := hide hv
  have cz := hide (szk_any a l.length cap W hl)
  clear hr hv hl
  go_enter Try.func7, Try.ntmps7
  go_wp2_with fail
  refine (unhide cz).mono ?_
  rintro e w1 ⟨r, rfl, h1, rfl⟩
  have k1 : Below w1.heap.size w1 w1 := Below.refl _ _
  rcases h1 with rfl | ⟨p0, p1⟩
  · go_wp2
    go_ret
    exact ⟨rfl, k1⟩
  have gr : decide (r < 0) = false := decide_eq_false (by omega)
  have B1 := hide k1
  clear k1 cz
  go_wp2_with fail
  refine (tok_any a cap l w1 p1 ((unhide hr').below (unhide B1))).mono ?_
  rintro e w2 ⟨g2, rfl, q2, o2, k2⟩
  have B2 := hide (laterB (unhide B1) k2)
  have O2 := hide (kls_own o2)
  clear k2 o2 B1
  go_wp2_with fail
  refine (sspan_any _ _ l w2 p1 (unhide O2)).mono ?_
  rintro e w3 ⟨rfl, k3⟩
  rw [unhide hv']
  have B3 := hide (laterB (unhide B2) k3)
  clear k3 B2 O2
  go_wp2_with fail
  refine (tok_any a cap l w3 p1 ((unhide hr').below (unhide B3))).mono ?_
  rintro e w4 ⟨g4, rfl, q4, o4, k4⟩
  have B4 := hide (laterB (unhide B3) k4)
  have O4 := hide (kls_own o4)
  clear k4 o4 B3
  go_wp2_with fail
  refine (ispan_any _ _ l w4 p1 (unhide O4)).mono ?_
  rintro e w5 ⟨rfl, k5⟩
  rw [unhide hv']
  have B5 := hide (laterB (unhide B4) k5)
  have O5 := hide ((unhide O4).below k5)
  have gv : (v != v) = false := by simp
  clear k5 B4 O4
  go_wp2_with fail
  refine (tok_any a cap l w5 p1 ((unhide hr').below (unhide B5))).mono ?_
  rintro e w6 ⟨g6, rfl, q6, o6, k6⟩
  have B6 := hide (laterB (unhide B5) k6)
  have O6 := hide (kls_own o6)
  have O5 := hide ((unhide O5).below k6)
  clear k6 o6 B5
  go_wp2_with fail
  refine (eqks_any _ _ _ _ l w6 p1 (unhide O5) (unhide O6)).mono ?_
  rintro e w7 ⟨rfl, k7⟩
  have B7 := hide (laterB (unhide B6) k7)
  clear k7 B6 O5 O6
  go_wp2
  go_ret
  exact ⟨rfl, unhide B7⟩

end Go.Proofs.Ytmdkbmnomeampaa
