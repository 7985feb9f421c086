/-
  Digests and seals as plain numbers; no conditions.
  Contracts of both digests; nothing is written.
-/
import Derived.Test.YtioaehjppiodfaaGreatDoorGBy
namespace Go.Proofs.YtioaehjppiodfaaGreatDoor
open Go.RowKit
set_option linter.unusedVariables false
set_option linter.unusedSimpArgs false

/-- one byte more of a digest -/
def dgf (h z : Int) : Int := (h * 257 + z + 1) % 1000000007
def dgs (l : List Int) : Int := l.foldl dgf 0
/-- the digest of a list of bytes -/
def dig (l : List Int) : Int := dgs (l.take 40000)
theorem dgs_snoc (l : List Int) (z : Int) : dgs (l ++ [z]) = (dgs l * 257 + z + 1) % 1000000007 := by simp [dgs, dgf]
theorem dgs_bd (l : List Int) : 0 ≤ dgs l ∧ dgs l < 1000000007 := by
  rcases List.eq_nil_or_concat l with rfl | ⟨t, z, rfl⟩
  · simp [dgs]
  · rw [List.concat_eq_append, dgs_snoc]; omega
theorem dig_bd (l : List Int) : 0 ≤ dig l ∧ dig l < 1000000007 := dgs_bd _
theorem take_snocI {l : List Int} {k : Nat} {z : Int} (h : l[k]? = some z) : l.take (k + 1) = l.take k ++ [z] := by rw [List.take_add_one, h]; rfl
end Go.Proofs.YtioaehjppiodfaaGreatDoor

namespace Go.Proofs.YtioaehjppiodfaaGreatDoor
open Go.RowKit
set_option linter.unusedVariables false
set_option linter.unusedSimpArgs false

theorem byt_at {l : List Int} {k : Nat} {z : Int} (h : Byt l) (hz : l[k]? = some z) : 0 ≤ z ∧ z ≤ 255 := h z (List.mem_of_getElem? hz)
set_option maxHeartbeats 800000 in
theorem idig_any (a : Option Addr) (cap : Nat) (l : List Int) (w : World) (hl : l.length ≤ maxLen) (hc : l.length ≤ cap) (hc2 : cap ≤ maxLen) (hy : Byt l) (hk : Bys w a l) :
    Calls Tryz.prog 80 #[.slice a l.length cap] w fun e w' => e = .returned (.int .i64 (dig l)) ∧ w' = w := by
  unfold maxLen at hl hc2
  have hk' := hide hk
  have hy' := hide hy
  clear hk hy
  obtain ⟨N, hN⟩ : ∃ N : Nat, min (l.length : Int) 40000 = N ∧ N ≤ l.length ∧ N ≤ 40000 ∧ l.take 40000 = l.take N := by
    by_cases h : l.length ≤ 40000
    · exact ⟨l.length, by omega, by omega, h, by rw [List.take_of_length_le h, List.take_of_length_le (Nat.le_refl _)]⟩
    · exact ⟨40000, by omega, by omega, by omega, rfl⟩
  obtain ⟨hN1, hN2, hN3, hN4⟩ := hN
  have hN5 := hide hN4
  clear hN4
  go_enter Tryz.func80, Tryz.ntmps80
  go_wp2
  go_loop [3, 12] (fun h t => ∃ k : Nat, k ≤ N ∧ t = .int .i64 k ∧ h = .int .i64 (dgs (l.take k))) (fun _ t => N - (intOf t).toNat)
  case atStart => exact ⟨0, by omega, rfl, rfl⟩
  case round =>
    obtain ⟨k, hk1, rfl, rfl⟩ := hrel
    have hb := dgs_bd (l.take k)
    by_cases hlt : k < N
    · obtain ⟨b, o, x, rfl, hx, i1, c0⟩ := bys_at (unhide hk') (Below.refl _ _) (Nat.lt_of_lt_of_le hlt hN2)
      have hz := byt_at (unhide hy') hx
      have hs := dgs_snoc (l.take k) x
      rw [← take_snocI hx] at hs
      have hs' := hide hs
      have g1 : decide ((k : Int) < N) = true := by simp; omega
      clear hs hx i1
      generalize dgs (l.take k) = D at *
      go_wp2
      go_round
      case rel => exact ⟨k + 1, by omega, by go_num, by rw [unhide hs']⟩
      case measure => simp [intOf]; omega
    · have g1 : decide ((k : Int) < N) = false := by simp; omega
      have hke : Hid (k = N) := hide (by omega)
      go_wp2
      go_ret
      exact ⟨ret_int (by unfold dig; rw [unhide hN5, unhide hke]), rfl⟩

end Go.Proofs.YtioaehjppiodfaaGreatDoor
