/-
  Contracts of lists of samples, of the model; nothing that was there is written.
-/
import Derived.Test.YtmpbcmpjfcddoaaEls
namespace Go.Proofs.Ytmpbcmpjfcddoaa
open Go.RowKit
set_option linter.unusedVariables false
set_option linter.unusedSimpArgs false
namespace D

set_option maxHeartbeats 400000 in
theorem sfr_any (x : Int) (v : Bool) (w : World) (hv : (decide (0 ≤ x) && decide (x ≤ 10000000)) = v) :
    Calls Try.prog 35 #[.int .i64 x] w fun e w' => e = .returned (.bool v) ∧ w' = w := by
  have hv' := hide hv
  clear hv
  go_enter Try.func35, Try.ntmps35
  go_wp2_with fail
  refine (in_any x 0 10000000 v _ (unhide hv')).mono ?_
  rintro e w1 ⟨rfl, hw⟩
  subst hw
  go_wp2
  go_ret
  exact ⟨rfl, rfl⟩
set_option maxHeartbeats 1600000 in
theorem sdp_any (B gg n cap : Nat) (l : List Kl) (v : Bool) (w : World) (hO : Own w B gg n cap l) (hn : n ≤ 100000000) (hv : okL l = v) : Calls Try.prog 22 #[.slice (some ⟨gg, 0, none⟩) n cap] w fun e w' => e = .returned (.bool v) ∧ Below w.heap.size w w' := by
  have hLn : l.length = n := own_len hO
  subst hv
  have hv' : Hid (okL l = (decide (n ≤ 200) && l.all okK)) := hide (by unfold okL; rw [hLn])
  have hO' := hide hO
  have hL' := hide hLn
  clear hO hLn
  by_cases h200 : n ≤ 200
  rotate_left
  · have td : decide ((200 : Int) < n) = true := by simp; omega
    have td' : decide (200 < n) = true := by simp; omega
    go_enter Try.func22, Try.ntmps22
    go_wp2
    go_ret
    exact ⟨ret_bool (by rw [unhide hv']; simp [h200]), Below.refl _ _⟩
  have td : decide ((200 : Int) < n) = false := by simp; omega
  have td' : decide (200 < n) = false := by simp; omega
  have hb0 : Hid (Below w.heap.size w w) := hide (Below.refl _ _)
  go_enter Try.func22, Try.ntmps22
  go_wp2
  go_loopw [3] (fun s wr => ∃ k : Nat, k ≤ n ∧ s = .int .i64 k ∧ Hid ((l.take k).all okK = true) ∧ Hid (Below w.heap.size w wr)) (fun s _ => n - (intOf s).toNat)
  case atStart => exact ⟨0, by omega, rfl, hide (by simp), hb0⟩
  case round =>
    clear hb0
    obtain ⟨k, hk, rfl, hA, hB⟩ := hrel
    by_cases hlt : k < n
    rotate_left
    · have hke : k = n := by omega
      have hfin : Hid (okL l = true) := hide (by
        have h1 := unhide hA
        rw [List.take_of_length_le (by rw [unhide hL']; omega)] at h1
        rw [unhide hv', h1]; simp; omega)
      have tk : decide ((k : Int) < n) = false := by simp; omega
      have tk' : decide (k < n) = false := by simp; omega
      go_wp2
      go_ret
      exact ⟨ret_bool (by rw [unhide hfin]), unhide hB⟩
    have tk : decide ((k : Int) < n) = true := by simp; omega
    have tk' : decide (k < n) = true := by simp; omega
    obtain ⟨⟨x0, x1, x2, x3, x4⟩, hx⟩ : ∃ x, l[k]? = some x := ⟨l[k]'(by have := unhide hL'; omega), List.getElem?_eq_getElem (by have := unhide hL'; omega)⟩
    obtain ⟨c0, c1, c2, c3, c4⟩ := own_cells hx (ownsRow_below (unhide hO') (unhide hB))
    have hx' := hide hx
    clear hx
    have bk : (k : Int) < n := by omega
    have bk0 : (0 : Int) ≤ k := by omega
    generalize hq : (decide (0 ≤ x0) && decide (x0 ≤ 10000000)) = q
    generalize hp : decide (Pix (x1, x2, x3, x4)) = p
    have hqp : Hid (okK (x0, x1, x2, x3, x4) = (q && p)) := hide (by unfold okK; simp only; rw [hq, hp])
    have hq' := hide hq
    have hp' := hide hp
    clear hq hp
    cases q
    · have hfin : Hid (okL l = false) := hide (by rw [unhide hv', all_no (unhide hx') (by rw [unhide hqp]; rfl)]; simp)
      go_wp2_with fail
      refine (sfr_any x0 _ _ (unhide hq')).mono ?_
      rintro e w1 ⟨rfl, hw⟩
      subst hw
      go_wp2
      go_ret
      exact ⟨ret_bool (by rw [unhide hfin]), unhide hB⟩
    go_wp2_with fail
    refine (sfr_any x0 _ _ (unhide hq')).mono ?_
    rintro e w1 ⟨rfl, hw⟩
    subst hw
    go_wp2_with fail
    refine (spx_any x1 x2 x3 x4 _ _ (unhide hp')).mono ?_
    rintro e w1 ⟨rfl, hb⟩
    have hB1 : Hid (Below w.heap.size w w1) := hide (laterB (unhide hB) hb)
    clear hb hB c0 c1 c2 c3 c4
    cases p
    · have hfin : Hid (okL l = false) := hide (by rw [unhide hv', all_no (unhide hx') (by rw [unhide hqp]; rfl)]; simp)
      go_wp2
      go_ret
      exact ⟨ret_bool (by rw [unhide hfin]), unhide hB1⟩
    · have hA1 := hide (all_take (unhide hA) (unhide hx') (by rw [unhide hqp]; rfl))
      clear hA
      go_wp2
      go_roundw
      case rel => exact ⟨k + 1, by omega, by go_num, hA1, hB1⟩
      case measure => simp [intOf]; omega

end D
end Go.Proofs.Ytmpbcmpjfcddoaa
