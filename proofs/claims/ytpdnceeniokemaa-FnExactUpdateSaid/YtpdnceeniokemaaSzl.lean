/-
  How the law weighs a list of assets: the contract; nothing that was there is written.
-/
import Derived.Test.YtpdnceeniokemaaCopyL
namespace Go.Proofs.Ytpdnceeniokemaa
open Go.RowKit
set_option linter.unusedVariables false
set_option linter.unusedSimpArgs false

set_option maxHeartbeats 1600000 in
theorem szk_any (a : Option Addr) (cap : Nat) (l : List Kl) (w : World) (hl : l.length ≤ maxLen) (hr : Kls w a l) (hsz : ∀ x ∈ l, x.1.size ≤ maxLen) (N : Int) (N0 : 0 ≤ N) (N1 : N ≤ 1048576) :
    Calls Try.prog 21 #[.slice a l.length cap, .int .i64 N] w fun e w' => ∃ r : Int, e = .returned (.int .i64 r) ∧ (r = -1 ∨ (0 ≤ r ∧ r ≤ 1048576 ∧ l.length ≤ 1048576 ∧ ∀ x ∈ l, x.1.size ≤ 1048576)) ∧ Below w.heap.size w w' := by
  have hr' := hide hr
  have hsz' := hide hsz
  clear hr hsz
  unfold maxLen at hl
  by_cases h : N - l.length < 0
  · go_enter Try.func21, Try.ntmps21
    go_wp2
    go_ret
    exact ⟨_, rfl, by omega, Below.refl _ _⟩
  go_enter Try.func21, Try.ntmps21
  go_wp2
  go_loopw [1, 5] (fun n t wr => ∃ (k : Nat) (r : Int), k ≤ l.length ∧ t = .int .i64 k ∧ n = .int .i64 r ∧ 0 ≤ r ∧ r ≤ 1048576 ∧ Hid (∀ j x, j < k → l[j]? = some x → x.1.size ≤ 1048576) ∧ Hid (Below w.heap.size w wr)) (fun _ t _ => l.length - (intOf t).toNat)
  case atStart => exact ⟨0, _, by omega, rfl, rfl, by omega, by omega, hide (fun j x h => by omega), hide (Below.refl _ _)⟩
  case round =>
    obtain ⟨k, r, hk, rfl, rfl, r0, r1, hok, hb⟩ := hrel
    by_cases hlt : k < l.length
    · obtain ⟨x, hx⟩ : ∃ x, l[k]? = some x := ⟨l[k], List.getElem?_eq_getElem hlt⟩
      obtain ⟨b, o, rfl, i1, c0, c1, c2⟩ := unhide hr' k x hx
      have hxs := unhide hsz' x (List.mem_of_getElem? hx)
      obtain ⟨s, x, y⟩ := x
      simp only at c0 c1 c2 hxs
      have C := fun o => (bcell (unhide hb)).1 b o i1
      rw [← C] at c0 c1 c2
      have hnx := hide (show s.size ≤ 1048576 → ∀ j x, j < k + 1 → l[j]? = some x → x.1.size ≤ 1048576 from fun h j z hj hz => by
        rcases Nat.lt_or_ge j k with h1 | h1
        · exact unhide hok j z h1 hz
        · have : j = k := by omega
          subst this
          rw [hx] at hz; injection hz with hz; subst hz; exact h)
      clear hx C
      go_wp2_with fail
      refine (szt_any s x y r _ r0 r1 hxs).mono ?_
      rintro e w1 ⟨r2, rfl, h2, k1⟩
      have hb1 := hide (laterB (unhide hb) k1)
      clear c0 c1 c2 hb k1 hok
      rcases h2 with rfl | ⟨p0, p1, p2⟩
      · go_wp2
        go_ret
        exact ⟨_, rfl, Or.inl rfl, unhide hb1⟩
      · have gg : decide (r2 < 0) = false := decide_eq_false (by omega)
        have hn := hide (unhide hnx p2)
        clear hnx
        go_wp2
        go_roundw
        case rel => exact ⟨k + 1, r2, by omega, by go_num, rfl, p0, by omega, hn, hb1⟩
        case measure => simp [intOf]; omega
    · go_wp2
      go_ret
      refine ⟨_, rfl, Or.inr ⟨r0, r1, by omega, fun x hx => ?_⟩, unhide hb⟩
      obtain ⟨j, hj⟩ := List.getElem?_of_mem hx
      exact unhide hok j x (by have := (List.getElem?_eq_some_iff.1 hj).1; omega) hj

end Go.Proofs.Ytpdnceeniokemaa
