/-
  For any list of samples Flat of the program answers as its model does, and the law's argument reads behind the call as it read before; no conditions.
-/
import Derived.Test.YtmpbcmpjfcddoaaLawMg
import Derived.Test.YtmpbcmpjfcddoaaSFl
import Derived.Test.YtmpbcmpjfcddoaaIFl
namespace Go.Proofs.Ytmpbcmpjfcddoaa
open Go.RowKit
set_option linter.unusedVariables false
set_option linter.unusedSimpArgs false
namespace D

set_option maxRecDepth 100000 in
set_option maxHeartbeats 3200000 in
theorem lawFlat {W : World} (a : Option Addr) (ca : Nat) (l : List Kl) (hl0 : l.length ≤ maxLen) (ha : Kls W a l) :
    Calls Try.prog 4 #[.slice a l.length ca] W fun e w' => e = .returned (.bool true) ∧ Below W.heap.size W w' := by
  have ha' := hide ha
  clear ha
  go_enter Try.func4, Try.ntmps4
  go_wp2_with fail
  refine (szg_any a l.length ca 1048576 W hl0 (by omega) (by omega)).mono ?_
  rintro e w0 ⟨r, rfl, hr, hw0⟩
  have hw1 := hw0.symm
  subst hw1
  rcases hr with rfl | ⟨hr0, hr1, hl⟩
  · go_wp2
    go_ret
    exact ⟨rfl, Below.refl _ _⟩
  have hrd : decide (r < 0) = false := by simp; omega
  clear hl0
  obtain ⟨⟨V0, V1, V2, V3⟩, hV⟩ : ∃ v : Int × Int × Int × Int, flatOf l = v := ⟨_, rfl⟩
  have hV' := hide hV
  clear hV
  go_wp2_with fail
  refine (tok_any a ca l _ hl (unhide ha')).mono ?_
  rintro e w1 ⟨B1, rfl, q1, n1, k1⟩
  have o1 := hide n1
  have H1 := hide k1
  clear n1 k1
  go_wp2_with fail
  refine (sfl_any _ B1 _ _ l V0 V1 V2 V3 _ (unhide o1) (by omega) (unhide hV')).mono ?_
  rintro e w2 ⟨rfl, k2⟩
  have H2 := hide (laterB (unhide H1) k2)
  have X4 := hide (Go.Proofs.Ytmpbcmpjfcddoaa.Bx.new w2 29 V0 V1 V2 V3)
  have H2a := hide ((unhide H2).alloc (unhide H2).size (.cells #[.int .i64 V0, .int .i64 V1, .int .i64 V2, .int .i64 V3] 29))
  clear k2 H1 o1 q1
  go_wp2_with fail
  refine (tok_any a ca l _ hl ((unhide ha').below (unhide H2a))).mono ?_
  rintro e w3 ⟨B3, rfl, q3, n3, k3⟩
  have ox := hide n3
  have H3 := hide (laterB (unhide H2a) k3)
  have X4b := hide ((unhide X4).below k3)
  clear n3 k3 H2 H2a X4
  go_wp2_with fail
  refine (ifl_any _ B3 _ _ l V0 V1 V2 V3 _ (unhide ox) (by omega) (unhide hV')).mono ?_
  rintro e w4 ⟨rfl, k4⟩
  have H4 := hide (laterB (unhide H3) k4)
  have ox2 := hide (ownsRow_below (unhide ox) k4)
  have X4c := hide ((unhide X4b).below k4)
  have X6 := hide (Go.Proofs.Ytmpbcmpjfcddoaa.Bx.new w4 29 V0 V1 V2 V3)
  have al : Below w4.heap.size w4 (w4.alloc (.cells #[.int .i64 V0, .int .i64 V1, .int .i64 V2, .int .i64 V3] 29)) := (Below.refl _ _).alloc (Nat.le_refl _) _
  have X4d := hide ((unhide X4c).below al)
  have ox3 := hide (ownsRow_below (unhide ox2) al)
  have H4a := hide (laterB (unhide H4) al)
  clear k4 H3 ox X4b X4c ox2 H4 al
  obtain ⟨c0, c1, c2, c3, _, _, _, _⟩ := unhide X6
  obtain ⟨d0, d1, d2, d3, _, _, _, _⟩ := unhide X4d
  go_wp2_with fail
  refine (Go.Proofs.Ytmpbcmpjfcddoaa.eqk_any V0 V1 V2 V3 _).mono ?_
  rintro e w5 ⟨rfl, k5⟩
  have H5 := hide (laterB (unhide H4a) k5)
  have ox4 := hide (ownsRow_below (unhide ox3) k5)
  clear k5 H4a ox3 X6 X4d c0 c1 c2 c3 d0 d1 d2 d3
  go_wp2_with fail
  refine (tok_any a ca l _ hl ((unhide ha').below (unhide H5))).mono ?_
  rintro e w6 ⟨B6, rfl, q6, n6, k6⟩
  have o6 := hide n6
  have H6 := hide (laterB (unhide H5) k6)
  have ox5 := hide (ownsRow_below (unhide ox4) k6)
  clear n6 k6 H5 ox4
  go_wp2_with fail
  refine (eqks_any _ _ _ _ l _ hl (kls_own (unhide ox5)) (kls_own (unhide o6))).mono ?_
  rintro e w7 ⟨rfl, k7⟩
  have H7 := hide (laterB (unhide H6) k7)
  clear k7 H6
  go_wp2
  go_ret
  exact ⟨rfl, unhide H7⟩

end D
end Go.Proofs.Ytmpbcmpjfcddoaa
