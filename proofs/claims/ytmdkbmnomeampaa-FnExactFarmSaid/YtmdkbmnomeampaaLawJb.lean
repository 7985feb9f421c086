/-
  For every list of tasks JobOk of the program answers as its model does; the list reads behind the call as it read before; no conditions.
-/
import Derived.Test.YtmdkbmnomeampaaJbI
import Derived.Test.YtmdkbmnomeampaaJbS
namespace Go.Proofs.Ytmdkbmnomeampaa
open Go.RowKit
set_option linter.unusedVariables false
set_option linter.unusedSimpArgs false

theorem tks_max {w : World} {a : Option Addr} {ts : List Tv} (h : Tks w a ts) : ∀ t ∈ ts, t.2.2.1.length ≤ maxLen := by
  intro t ht
  obtain ⟨j, hj⟩ := List.getElem?_of_mem ht
  obtain ⟨_, _, _, _, _, _, _, _, _, _, _, h4⟩ := h j t hj
  exact h4

set_option maxRecDepth 100000 in
set_option maxHeartbeats 1600000 in
theorem lawJb {W : World} (a : Option Addr) (cap : Nat) (l : List Tv) (hl : l.length ≤ maxLen) (hr : Tks W a l) :
    Calls Try.prog 4 #[.slice a l.length cap] W fun e w' => e = .returned (.bool true) ∧ Below W.heap.size W w' := by
  have hr' := hide hr
  have hl' := hide hl
  have hx' := hide (tks_max hr)
  obtain ⟨v, hv⟩ : ∃ v, jobOk l = v := ⟨_, rfl⟩
  have hv' := hide hv
  have cz := hide (szts_any a cap l W hl hr 1048576 (by omega) (by omega))
  clear hr hv hl
  go_enter Try.func4, Try.ntmps4
  go_wp2_with fail
  refine (unhide cz).mono ?_
  rintro e w1 ⟨r, rfl, h1, k1⟩
  rcases h1 with rfl | ⟨p0, p2⟩
  · go_wp2
    go_ret
    exact ⟨rfl, k1⟩
  have gr : decide (r < 0) = false := decide_eq_false (by omega)
  have p1 : l.length ≤ 1048576 := by omega
  have pm := hide (show ∀ t ∈ l, t.2.2.1.length ≤ 1048576 from fun t ht => by have := tot_mem ht; omega)
  have B1 := hide k1
  clear p2 k1 cz
  go_wp2_with fail
  refine (tots_any a cap l w1 p1 (unhide pm) ((unhide hr').below (unhide B1))).mono ?_
  rintro e w2 ⟨g2, rfl, o2, k2⟩
  have B2 := hide (laterB (unhide B1) k2)
  have O2 := hide (o2.tks (unhide hx'))
  clear k2 o2 B1
  go_wp2_with fail
  refine (sjob_any _ _ l w2 (unhide hl') (unhide O2)).mono ?_
  rintro e w3 ⟨rfl, k3⟩
  rw [unhide hv']
  have B3 := hide (laterB (unhide B2) k3)
  clear k3 B2 O2
  go_wp2_with fail
  refine (tots_any a cap l w3 p1 (unhide pm) ((unhide hr').below (unhide B3))).mono ?_
  rintro e w4 ⟨g4, rfl, o4, k4⟩
  have B4 := hide (laterB (unhide B3) k4)
  have O4 := hide (o4.tks (unhide hx'))
  clear k4 o4 B3
  go_wp2_with fail
  refine (ijob_any _ _ l w4 (unhide hl') (unhide O4)).mono ?_
  rintro e w5 ⟨rfl, k5⟩
  rw [unhide hv']
  have B5 := hide (laterB (unhide B4) k5)
  have O5 := hide ((unhide O4).below k5)
  have gv : (v != v) = false := by simp
  clear k5 B4 O4
  go_wp2_with fail
  refine (tots_any a cap l w5 p1 (unhide pm) ((unhide hr').below (unhide B5))).mono ?_
  rintro e w6 ⟨g6, rfl, o6, k6⟩
  have B6 := hide (laterB (unhide B5) k6)
  have O6 := hide (o6.tks (unhide hx'))
  have O5 := hide ((unhide O5).below k6)
  clear k6 o6 B5
  go_wp2_with fail
  refine (eqts_any _ _ _ _ l w6 p1 (unhide pm) (unhide O5) (unhide O6)).mono ?_
  rintro e w7 ⟨rfl, k7⟩
  have B7 := hide (laterB (unhide B6) k7)
  clear k7 B6 O5 O6
  go_wp2
  go_ret
  exact ⟨rfl, unhide B7⟩

end Go.Proofs.Ytmdkbmnomeampaa
