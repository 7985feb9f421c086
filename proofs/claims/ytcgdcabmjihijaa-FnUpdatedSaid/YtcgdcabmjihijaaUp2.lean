/-
  Contracts of a copy of a string, of a look for an asset, and of a search by halves; nothing that was there is written.
-/
import Derived.Test.YtcgdcabmjihijaaUp1
import Derived.Test.YtcgdcabmjihijaaUpE
import Derived.Test.YtcgdcabmjihijaaShelf
namespace Go.Proofs.Ytcgdcabmjihijaa
open Go.RowKit
set_option linter.unusedVariables false
set_option linter.unusedSimpArgs false

theorem clone_any (s : ByteArray) (w : World) (hs : s.size ≤ 1048576) : Calls Try.prog 13 #[.string s] w fun e w' => e = .returned (.string s) ∧ Below w.heap.size w w' := by
  go_enter Try.func13, Try.ntmps13
  go_wp2_with fail
  refine (Try.stringslite_Clone s w (by omega)).mono ?_
  rintro e w1 ⟨rfl, k1⟩
  go_wp2
  go_ret
  exact ⟨rfl, k1⟩
set_option maxHeartbeats 1600000 in
theorem idx_any (a : Option Addr) (cap : Nat) (l : List Kl) (s : ByteArray) (p q : Int) (w : World) (hl : l.length ≤ maxLen) (hk : Kls w a l) :
    Calls Try.prog 26 #[.slice a l.length cap, ag3 s p q] w fun e w' => ∃ r : Int, e = .returned (.int .i64 r) ∧ (0 ≤ r ↔ hasK l (s, p, q) = true) ∧ Below w.heap.size w w' := by
  unfold maxLen at hl
  have hb0 : Below w.heap.size w (w.alloc (.cells #[.string s, .int .i64 p, .int .i64 q] 35)) := (Below.refl _ _).alloc (Nat.le_refl _) _
  have hk' := hide (hk.below hb0)
  have hb0' := hide hb0
  obtain ⟨x0, x1, x2⟩ := @cel3 w (.string s) (.int .i64 p) (.int .i64 q) 35
  clear hk hb0
  go_enter Try.func26, Try.ntmps26
  go_wp2
  generalize w.alloc (.cells #[.string s, .int .i64 p, .int .i64 q] 35) = X at *
  go_loopw [8] (fun t wr => ∃ k : Nat, k ≤ l.length ∧ t = .int .i64 k ∧ Hid (∀ (j : Nat) (y : Kl), j < k → l[j]? = some y → kEq (s, p, q) y = false) ∧ Hid (Below X.heap.size X wr)) (fun t _ => l.length - (intOf t).toNat)
  case atStart => exact ⟨0, by omega, rfl, hide (fun j y h => by omega), hide (Below.refl _ _)⟩
  case round =>
    obtain ⟨k, hk1, rfl, hpre, hB⟩ := hrel
    by_cases hlt : k < l.length
    · obtain ⟨y, hy⟩ : ∃ y, l[k]? = some y := ⟨l[k], List.getElem?_eq_getElem hlt⟩
      obtain ⟨b, o, rfl, i1, c0, c1, c2⟩ := unhide hk' k y hy
      obtain ⟨sy, py, qy⟩ := y
      simp only at c0 c1 c2
      have C := fun o => (bcell (unhide hB)).1 b o i1
      rw [← C] at c0 c1 c2
      have z0 := cell_later (unhide hB) x0
      have z1 := cell_later (unhide hB) x1
      have z2 := cell_later (unhide hB) x2
      have g1 : decide ((k : Int) < l.length) = true := by simp; omega
      have hyy := hide hy
      have he := eql3 s sy p q py qy
      obtain ⟨v, hv⟩ : ∃ v, kEq (s, p, q) (sy, py, qy) = v := ⟨_, rfl⟩
      rw [hv] at he
      have hv' := hide hv
      clear hy C hv
      cases v with
      | true =>
        have hfin := hide (hasK_yes (unhide hyy) (unhide hv'))
        go_wp2_with fail
        go_quiet (fail)
        go_wp2
        go_ret
        exact ⟨_, rfl, ⟨fun _ => unhide hfin, fun _ => by omega⟩, laterB (unhide hb0') (below_drewN (unhide hB) _)⟩
      | false =>
        have hn := hide (show ∀ (j : Nat) (y : Kl), j < k + 1 → l[j]? = some y → kEq (s, p, q) y = false from fun j y hj hy => by
          rcases Nat.lt_or_ge j k with h | h
          · exact unhide hpre j y h hy
          · have : j = k := by omega
            subst this
            rw [unhide hyy] at hy; injection hy with hy; subst hy; exact unhide hv')
        clear hpre
        go_wp2_with fail
        go_quiet (fail)
        go_wp2
        go_roundw
        case rel => exact ⟨k + 1, by omega, by go_num, hn, hide (below_drewN (unhide hB) _)⟩
        case measure => simp [intOf]; omega
    · have g1 : decide ((k : Int) < l.length) = false := by simp; omega
      have hfin := hide (hasK_no (x := (s, p, q)) fun j y hj => unhide hpre j y (by have := (List.getElem?_eq_some_iff.1 hj).1; omega) hj)
      go_wp2
      go_ret
      exact ⟨_, rfl, ⟨fun h => by omega, fun h => by rw [unhide hfin] at h; cases h⟩, laterB (unhide hb0') (unhide hB)⟩
set_option maxHeartbeats 800000 in
theorem con_any (a : Option Addr) (cap : Nat) (l : List Kl) (s : ByteArray) (p q : Int) (w : World) (hl : l.length ≤ maxLen) (hk : Kls w a l) :
    Calls Try.prog 12 #[.slice a l.length cap, ag3 s p q] w fun e w' => e = .returned (.bool (hasK l (s, p, q))) ∧ Below w.heap.size w w' := by
  have hb0 : Below w.heap.size w (w.alloc (.cells #[.string s, .int .i64 p, .int .i64 q] 35)) := (Below.refl _ _).alloc (Nat.le_refl _) _
  have hk' := hide (hk.below hb0)
  have hl' := hide hl
  have hb0' := hide hb0
  clear hk hb0 hl
  go_enter Try.func12, Try.ntmps12
  go_wp2_with fail
  refine (idx_any a cap l s p q _ (unhide hl') (unhide hk')).mono ?_
  rintro e w1 ⟨r, rfl, hr, hb⟩
  have hfin := hide (show decide (0 ≤ r) = hasK l (s, p, q) by rw [Bool.eq_iff_iff]; simpa using hr)
  have hB := hide (laterB (unhide hb0') hb)
  clear hr hb
  go_wp2
  go_ret
  exact ⟨ret_bool (unhide hfin), unhide hB⟩

end Go.Proofs.Ytcgdcabmjihijaa
