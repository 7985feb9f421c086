/-
  Contract of Length of the program; nothing that was there is written.
-/
import Derived.Test.YtfcjdempigoiiaaOpn
namespace Go.Proofs.Ytfcjdempigoiiaa
open Go.RowKit
set_option linter.unusedVariables false
set_option linter.unusedSimpArgs false

set_option maxHeartbeats 800000 in
theorem ilength_any (a : Option Addr) (cap : Nat) (l : List Kl) (w : World) (hl : l.length ≤ maxLen) (hk : Kls w a l) :
    Calls Try.prog 14 #[.slice a l.length cap] w fun e w' => e = .returned (.int .i64 (lenOf l)) ∧ Below w.heap.size w w' := by
  have hk' := hide hk
  clear hk
  by_cases h : TOk l
  · have h' := hide h
    unfold lenOf
    rw [if_pos h]
    clear h
    go_enter Try.func14, Try.ntmps14
    go_wp2_with fail
    refine (opened_ok a cap l _ (unhide h') (unhide hk')).mono ?_
    rintro e w1 ⟨rfl, hb⟩
    go_wp2
    go_ret
    exact ⟨rfl, by first | exact hb | exact hb.alloc hb.size _⟩
  · have h' := hide h
    unfold lenOf
    rw [if_neg h]
    clear h
    go_enter Try.func14, Try.ntmps14
    go_wp2_with fail
    refine (opened_no a cap l _ hl (unhide h') (unhide hk')).mono ?_
    rintro e w1 ⟨rfl, hb⟩
    go_wp2
    go_ret
    exact ⟨rfl, by first | exact hb | exact hb.alloc hb.size _⟩

end Go.Proofs.Ytfcjdempigoiiaa
