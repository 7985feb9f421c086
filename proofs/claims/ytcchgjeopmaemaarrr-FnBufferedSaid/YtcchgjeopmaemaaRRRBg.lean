/-
  Contracts of the law's functions that weigh bytes and hold lists of numbers against each other; nothing is written.
-/
import Derived.Test.YtcchgjeopmaemaaRRRDrC
namespace Go.Proofs.YtcchgjeopmaemaaRRR
open Go.RowKit
set_option linter.unusedVariables false
set_option linter.unusedSimpArgs false

set_option maxHeartbeats 800000 in
theorem same_any (a b : Option Addr) (ca cb : Nat) (l : List Int) (w : World) (hl : l.length ≤ 1048576) (ha : Ins w a l) (hb : Ins w b l) :
    Calls Try.prog 12 #[.slice a l.length ca, .slice b l.length cb] w fun e w' => e = .returned (.bool true) ∧ Below w.heap.size w w' := by
  have ha' := hide ha
  have hb' := hide hb
  clear ha hb
  have hne : ((l.length : Int) != l.length) = false := by simp
  go_enter Try.func12, Try.ntmps12
  go_wp2
  go_loopw [5] (fun t wr => ∃ k : Nat, k ≤ l.length ∧ t = .int .i64 k ∧ Hid (Below w.heap.size w wr)) (fun t _ => l.length - (intOf t).toNat)
  case atStart => exact ⟨0, by omega, rfl, hide (Below.refl _ _)⟩
  case round =>
    obtain ⟨k, hk, rfl, hw⟩ := hrel
    by_cases hlt : k < l.length
    · obtain ⟨b1, o1, x, rfl, hx, i1, c0⟩ := ins_at (unhide ha') (unhide hw) hlt
      obtain ⟨b2, o2, y, rfl, hy, i2, d0⟩ := ins_at (unhide hb') (unhide hw) hlt
      rw [hx] at hy
      injection hy with hy
      subst hy
      have e1 : (x != x) = false := by simp
      clear hx i1 i2
      go_wp2_with fail
      go_quiet (fail)
      go_wp2
      go_roundw
      case rel => exact ⟨k + 1, by omega, by go_num, hide (below_drewN (unhide hw) _)⟩
      case measure => simp [intOf]; omega
    · have hke : k = l.length := by omega
      go_wp2
      go_ret
      exact ⟨rfl, unhide hw⟩

theorem big_any (a : Option Addr) (len cap : Nat) (v : Bool) (w : World) (hv : decide (4096 < len) = v) :
    Calls Try.prog 9 #[.slice a len cap] w fun e w' => e = .returned (.bool v) ∧ w' = w := by
  subst hv
  go_enter Try.func9, Try.ntmps9
  go_wp2
  go_ret
  exact ⟨ret_bool (by rw [Bool.eq_iff_iff]; simp; omega), rfl⟩

end Go.Proofs.YtcchgjeopmaemaaRRR
