/-
  Contracts of the leaves of Update: where a name stands, names compared; nothing that was there is written.
-/
import Derived.Test.YtcgdcabmjihijaaUpP
import Derived.Test.YtcgdcabmjihijaaPki
namespace Go.Proofs.Ytcgdcabmjihijaa
open Go.RowKit
set_option linter.unusedVariables false
set_option linter.unusedSimpArgs false

set_option maxHeartbeats 800000 in
theorem sfnd_any (a : Option Addr) (cap : Nat) (l : List Kl) (s : ByteArray) (w : World) (hl : l.length ≤ maxLen) (hk : Kls w a l) :
    Calls Try.prog 16 #[.slice a l.length cap, .string s] w fun e w' => ∃ r, e = .returned (.int .i64 r) ∧ Fnd l s r ∧ w' = w := by
  unfold maxLen at hl
  have hk' := hide hk
  clear hk
  go_enter Try.func16, Try.ntmps16
  go_wp2
  go_loop [5] (fun t => ∃ k : Nat, k ≤ l.length ∧ t = .int .i64 k ∧ Hid (∀ (j : Nat) (y : Kl), j < k → l[j]? = some y → (y.1.toList == s.toList) = false)) (fun t => l.length - (intOf t).toNat)
  case atStart => exact ⟨0, by omega, rfl, hide (fun j y h => by omega)⟩
  case round =>
    obtain ⟨k, hk1, rfl, hpre⟩ := hrel
    by_cases hlt : k < l.length
    · obtain ⟨x, hx⟩ : ∃ x, l[k]? = some x := ⟨l[k], List.getElem?_eq_getElem hlt⟩
      obtain ⟨b, o, rfl, i1, c0, c1, c2⟩ := unhide hk' k x hx
      have hxx := hide hx
      have g1 : decide ((k : Int) < l.length) = true := by simp; omega
      clear hx c1 c2 i1
      cases he : (x.1.toList == s.toList) with
      | true =>
        have hfin := hide (show Fnd l s (k : Int) from .inr ⟨k, x, rfl, unhide hxx, he⟩)
        go_wp2
        go_ret
        exact ⟨_, rfl, unhide hfin, rfl⟩
      | false =>
        have hn := hide (show ∀ (j : Nat) (y : Kl), j < k + 1 → l[j]? = some y → (y.1.toList == s.toList) = false from fun j y hj hy => by
          rcases Nat.lt_or_ge j k with h | h
          · exact unhide hpre j y h hy
          · have : j = k := by omega
            subst this
            rw [unhide hxx] at hy; injection hy with hy; subst hy; exact he)
        clear hpre
        go_wp2
        go_round
        case rel => exact ⟨k + 1, by omega, by go_num, hn⟩
        case measure => simp [intOf]; omega
    · have g1 : decide ((k : Int) < l.length) = false := by simp; omega
      have hfin := hide (show Fnd l s (-1) from .inl ⟨rfl, hasN_no fun j y hj => unhide hpre j y (by have := (List.getElem?_eq_some_iff.1 hj).1; omega) hj⟩)
      go_wp2
      go_ret
      exact ⟨_, rfl, unhide hfin, rfl⟩
theorem nan_any (a : ByteArray) (w : World) : Calls Try.prog 34 #[.string a] w fun e w' => e = .returned (.bool false) ∧ w' = w := by
  go_enter Try.func34, Try.ntmps34
  go_wp2
  go_ret
  exact ⟨ret_bool (by simp), rfl⟩
set_option maxHeartbeats 800000 in
theorem cmp_any (a b : ByteArray) (w : World) : Calls Try.prog 28 #[.string a, .string b] w fun e w' => e = .returned (.int .i64 (cmpV a b)) ∧ w' = w := by
  obtain ⟨u, hu⟩ : ∃ u, Op.bytesLess a.toList b.toList = u := ⟨_, rfl⟩
  obtain ⟨v, hv⟩ : ∃ v, bef b a = v := ⟨_, rfl⟩
  have hw : (u || a.toList == b.toList) = !v := by rw [← hu, ← hv]; exact bef_le a b
  have hC := hide (show cmpV a b = if u = true then -1 else if v = true then 1 else 0 by unfold cmpV; rw [hv, show bef a b = u from hu])
  clear hv
  cases u with
  | true =>
    go_enter Try.func28, Try.ntmps28
    go_wp2_with fail
    refine (nan_any a _).mono ?_
    rintro e w1 ⟨rfl, rfl⟩
    go_wp2_with fail
    refine (nan_any b _).mono ?_
    rintro e w1 ⟨rfl, rfl⟩
    go_wp2
    go_ret
    exact ⟨ret_int (unhide hC).symm, rfl⟩
  | false =>
    cases v with
    | true =>
      have hw2 : (a.toList == b.toList) = false := by simpa using hw
      clear hw
      go_enter Try.func28, Try.ntmps28
      go_wp2_with fail
      refine (nan_any a _).mono ?_
      rintro e w1 ⟨rfl, rfl⟩
      go_wp2_with fail
      refine (nan_any b _).mono ?_
      rintro e w1 ⟨rfl, rfl⟩
      go_wp2
      go_ret
      exact ⟨ret_int (unhide hC).symm, rfl⟩
    | false =>
      have hw2 : (a.toList == b.toList) = true := by simpa using hw
      clear hw
      go_enter Try.func28, Try.ntmps28
      go_wp2_with fail
      refine (nan_any a _).mono ?_
      rintro e w1 ⟨rfl, rfl⟩
      go_wp2_with fail
      refine (nan_any b _).mono ?_
      rintro e w1 ⟨rfl, rfl⟩
      go_wp2
      go_ret
      exact ⟨ret_int (unhide hC).symm, rfl⟩
set_option maxHeartbeats 800000 in
theorem bnm_any (s s' : ByteArray) (p q p' q' : Int) (w : World) : Calls Try.prog 15 #[ag3 s p q, ag3 s' p' q'] w fun e w' => e = .returned (.int .i64 (cmpV s s')) ∧ Below w.heap.size w w' := by
  go_enter Try.func15, Try.ntmps15
  go_wp2_with fail
  refine (cmp_any s s' _).mono ?_
  rintro e w1 ⟨rfl, hw0⟩
  have hw1 := hw0.symm
  subst hw1
  go_wp2
  go_ret
  exact ⟨rfl, (((Below.refl _ _).alloc (Nat.le_refl _) _).alloc (by simp) _)⟩

end Go.Proofs.Ytcgdcabmjihijaa
