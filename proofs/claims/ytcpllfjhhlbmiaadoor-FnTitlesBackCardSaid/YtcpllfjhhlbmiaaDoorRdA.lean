/-
  Bytes taken for digits: the contract of the program; nothing is written.
-/
import Derived.Test.YtcpllfjhhlbmiaaDoorShB
import Derived.Test.YtcpllfjhhlbmiaaDoorRdP
namespace Go.Proofs.YtcpllfjhhlbmiaaDoor
open Go.RowKit
set_option linter.unusedVariables false
set_option linter.unusedSimpArgs false

/-- bytes taken for digits -/
def dgs (l : List UInt8) : Nat := l.foldl (fun n b => 10 * n + dgv b) 0
theorem dgs_one {l : List UInt8} {k : Nat} {c : UInt8} (h : l[k]? = some c) : dgs (l.take (k + 1)) = 10 * dgs (l.take k) + dgv c := by
  rw [List.take_add_one, h]; unfold dgs; rw [List.foldl_append]; rfl
theorem u8_sub (c : UInt8) : IntKind.u8.wrap (((c.toNat : Nat) : Int) - 48) = (dgv c : Int) := by
  have h := c.toNat_lt
  unfold dgv
  have e : IntKind.u8.wrap (((c.toNat : Nat) : Int) - 48) = (((c.toNat : Nat) : Int) - 48) % 256 := by
    simp [IntKind.wrap, IntKind.bits, IntKind.signed]
  rw [e]
  omega

set_option maxRecDepth 100000 in
set_option maxHeartbeats 800000 in
theorem dgs_any (s : ByteArray) (n : Nat) (w : World) (hs : s.size ≤ 3) (hn : dgs s.data.toList = n) :
    Calls Tryd.prog 69 #[.string s] w fun e w' => e = .returned (.int .i64 n) ∧ w' = w := by
  obtain ⟨l, hl⟩ : ∃ l, s.data.toList = l := ⟨_, rfl⟩
  have hsz' := hide (show s.size = l.length by rw [Lib.size_eq, hl])
  have hl' := hide hl
  rw [hl] at hn
  have hn' := hide hn
  clear hl hn
  go_enter Tryd.func69, Tryd.ntmps69
  go_wp2
  go_loop [3, 7] (fun m t => ∃ (k q : Nat), k ≤ s.size ∧ t = .int .i64 k ∧ m = .int .i64 q ∧ q ≤ 10000 ^ k ∧ Hid (dgs (l.take k) = q)) (fun _ t => s.size - (intOf t).toNat)
  case atStart => exact ⟨0, 0, by omega, rfl, rfl, by omega, hide rfl⟩
  case round =>
    obtain ⟨k, q, hk, rfl, rfl, hq, hok⟩ := hrel
    by_cases hlt : k < s.size
    · have hlt2 : decide ((k : Int) < (s.size : Int)) = true := decide_eq_true (by omega)
      obtain ⟨c, hc⟩ : ∃ c, l[k]? = some c := ⟨l[k]'(by have := unhide hsz'; omega), List.getElem?_eq_getElem (by have := unhide hsz'; omega)⟩
      have hidx := fun w => idx_str (unhide hl') hc w
      have hone := hide (show dgs (l.take (k + 1)) = 10 * q + dgv c by rw [dgs_one hc, unhide hok])
      have hu8 := u8_sub c
      have hdl := dgv_lt c
      have hq2 : q ≤ 100000000 := by
        rcases (show k = 0 ∨ k = 1 ∨ k = 2 by omega) with rfl | rfl | rfl <;> omega
      have hq3 : 10 * q + dgv c ≤ 10000 ^ (k + 1) := by rw [Nat.pow_succ]; rcases (show k = 0 ∨ k = 1 ∨ k = 2 by omega) with rfl | rfl | rfl <;> omega
      have tw : IntKind.i64.wrap (10 * (q : Int)) = 10 * q := by rw [IntKind.wrap_i64]; omega
      have tv : IntKind.i64.wrap (10 * (q : Int) + (dgv c : Int)) = 10 * q + dgv c := by rw [IntKind.wrap_i64]; omega
      have td : IntKind.i64.wrap (dgv c : Int) = dgv c := by rw [IntKind.wrap_i64]; omega
      generalize dgv c = d at *
      clear hc hok hq
      go_wp2
      go_round
      case rel => exact ⟨k + 1, 10 * q + d, by omega, by go_num, by first | go_num | (congr 1; omega), hq3, hone⟩
      case measure => simp [intOf]; omega
    · have hlt2 : decide ((k : Int) < (s.size : Int)) = false := decide_eq_false (by omega)
      have hfin := hide (show q = n by
        have := unhide hok
        rw [List.take_of_length_le (by have := unhide hsz'; omega)] at this
        rw [← this, unhide hn'])
      go_wp2
      go_ret
      exact ⟨ret_int (by rw [unhide hfin]), rfl⟩

end Go.Proofs.YtcpllfjhhlbmiaaDoor
