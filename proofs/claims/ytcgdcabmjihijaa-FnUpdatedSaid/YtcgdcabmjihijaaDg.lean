/-
  Contracts of both digests; nothing is written.
-/
import Derived.Test.YtcgdcabmjihijaaDgP
namespace Go.Proofs.Ytcgdcabmjihijaa
open Go.RowKit
set_option linter.unusedVariables false
set_option linter.unusedSimpArgs false

theorem byt_at {l : List Int} {k : Nat} {z : Int} (h : Byt l) (hz : l[k]? = some z) : 0 ≤ z ∧ z ≤ 255 := h z (List.mem_of_getElem? hz)
set_option maxHeartbeats 800000 in
theorem sdig_any (a : Option Addr) (cap : Nat) (l : List Int) (w : World) (hl : l.length ≤ maxLen) (hy : Byt l) (hk : Bys w a l) :
    Calls Try.prog 30 #[.slice a l.length cap] w fun e w' => e = .returned (.int .i64 (dig l)) ∧ w' = w := by
  unfold maxLen at hl
  have hk' := hide hk
  have hy' := hide hy
  clear hk hy
  go_enter Try.func30, Try.ntmps30
  go_wp2
  go_loop [3, 4] (fun h t => ∃ k : Nat, k ≤ l.length ∧ k ≤ 40000 ∧ t = .int .i64 k ∧ h = .int .i64 (dgs (l.take k))) (fun _ t => l.length - (intOf t).toNat)
  case atStart => exact ⟨0, by omega, by omega, rfl, rfl⟩
  case round =>
    obtain ⟨k, hk1, hk2, rfl, rfl⟩ := hrel
    have hb := dgs_bd (l.take k)
    by_cases hlt : k < l.length
    · by_cases h4 : k < 40000
      · obtain ⟨b, o, x, rfl, hx, i1, c0⟩ := bys_at (unhide hk') (Below.refl _ _) hlt
        have hz := byt_at (unhide hy') hx
        have hs := dgs_snoc (l.take k) x
        rw [← take_snocI hx] at hs
        have hs' := hide hs
        have g1 : decide ((k : Int) < l.length) = true := by simp; omega
        have g2 : decide ((k : Int) < 40000) = true := by simp; omega
        clear hs hx i1
        generalize dgs (l.take k) = D at *
        go_wp2
        go_round
        case rel => exact ⟨k + 1, by omega, by omega, by go_num, by rw [unhide hs']⟩
        case measure => simp [intOf]; omega
      · have hke : Hid (k = 40000) := hide (by omega)
        have g1 : decide ((k : Int) < l.length) = true := by simp; omega
        have g2 : decide ((k : Int) < 40000) = false := by simp; omega
        go_wp2
        go_ret
        exact ⟨ret_int (by unfold dig; rw [unhide hke]), rfl⟩
    · have g1 : decide ((k : Int) < l.length) = false := by simp; omega
      have hke : Hid (k = l.length) := hide (by omega)
      go_wp2
      go_ret
      refine ⟨ret_int ?_, rfl⟩
      unfold dig
      rw [List.take_of_length_le (by have := unhide hke; omega), List.take_of_length_le (by have := unhide hke; omega)]
end Go.Proofs.Ytcgdcabmjihijaa
