/-
  The contract of the model's Shift.
-/
import Derived.Test.YtmgiogfaahgjjaaShf
namespace Go.Proofs.Ytmgiogfaahgjjaa
open Go.RowKit
set_option linter.unusedVariables false
set_option linter.unusedSimpArgs false

theorem hit_eq {l : List Ch} {k : Nat} {p x1 x2 x3 x4 : Int} (h : l[k]? = some (x1, x2, x3, x4)) : hit l p k = (decide (x1 ≠ 3) && decide (p < oldL (l.take k) + x4)) := by unfold hit; rw [chAt_eq h]
theorem shVal_eq {l : List Ch} {k : Nat} {p x1 x2 x3 x4 : Int} (h : l[k]? = some (x1, x2, x3, x4)) : shVal l p k = if x1 = 2 then -1 else newL (l.take k) + p - oldL (l.take k) := by unfold shVal; rw [chAt_eq h]
theorem nohit_succ {l : List Ch} {p : Int} {k : Nat} (h : ∀ j, j < k → hit l p j = false) (hk : hit l p k = false) : ∀ j, j < k + 1 → hit l p j = false := fun j hj => by
  by_cases e : j = k
  · subst e; exact hk
  · exact h j (by omega)

set_option maxHeartbeats 3200000 in
theorem sshift_any (a : Option Addr) (cap : Nat) (l : List Ch) (p : Int) (w : World) (hl0 : l.length ≤ maxLen) (hk : Chs w a l) :
    Calls Try.prog 23 #[.slice a l.length cap, .int .i64 p] w fun e w' => e = .returned (.int .i64 (shiftOf l p)) ∧ Below w.heap.size w w' := by
  have hk' := hide hk
  clear hk
  by_cases hl : LOk l
  case neg =>
    have hv := hide (show decide (LOk l) = false from decide_eq_false hl)
    have hr := hide (show shiftOf l p = -1 from shift_bad (fun h => hl h.1))
    clear hl
    go_enter Try.func23, Try.ntmps23
    go_wp2_with fail
    refine (slist_any a cap l false _ hl0 (unhide hk') (unhide hv)).mono ?_
    rintro e w1 ⟨rfl, hb⟩
    go_wp2
    go_ret
    exact ⟨ret_int (unhide hr).symm, hb⟩
  have hv := hide (show decide (LOk l) = true from decide_eq_true hl)
  by_cases hp : 0 ≤ p
  case neg =>
    have hr := hide (show shiftOf l p = -1 from shift_bad (fun h => hp h.2))
    have hp' : decide (p < 0) = true := by simp; omega
    clear hl hp
    go_enter Try.func23, Try.ntmps23
    go_wp2_with fail
    refine (slist_any a cap l true _ hl0 (unhide hk') (unhide hv)).mono ?_
    rintro e w1 ⟨rfl, hb⟩
    go_wp2
    go_ret
    exact ⟨ret_int (unhide hr).symm, hb⟩
  have hp' : decide (p < 0) = false := by simp; omega
  have hlm : l.length ≤ 300 := hl.1
  have hl' := hide hl
  have hpp := hide hp
  clear hl
  obtain ⟨R, hR⟩ : ∃ R, R = shiftOf l p := ⟨_, rfl⟩
  have hR' := hide hR
  rw [← hR]
  clear hR
  go_enter Try.func23, Try.ntmps23
  go_wp2_with fail
  refine (slist_any a cap l true _ hl0 (unhide hk') (unhide hv)).mono ?_
  rintro e w1 ⟨rfl, hb⟩
  have hb' := hide hb
  clear hb hv
  go_wp2
  go_loopw [5, 6, 7] (fun s u t wr => ∃ k : Nat, k ≤ l.length ∧ t = .int .i64 k ∧ s = .int .i64 (oldL (l.take k)) ∧ u = .int .i64 (newL (l.take k)) ∧ Hid (∀ j, j < k → hit l p j = false) ∧ Hid (Below w.heap.size w wr)) (fun _ _ t _ => l.length - (intOf t).toNat)
  case atStart => exact ⟨0, by omega, rfl, by simp [oldL], by simp [newL], hide (fun j hj => by omega), hb'⟩
  case round =>
    clear hb'
    obtain ⟨k, hk, rfl, rfl, rfl, hno, hw⟩ := hrel
    obtain ⟨q0, q1, q2, q3⟩ := sums_take (unhide hl') k
    by_cases hlt : k < l.length
    · obtain ⟨x1, x2, x3, x4, b, o, hx, rfl, hb0, c0, c1, c2, c3⟩ := chs_at (unhide hk') (unhide hw) hlt
      have hH := (unhide hl').2 _ (List.mem_of_getElem? hx)
      have hlen := hH.len
      have hkind : x1 = 1 ∨ x1 = 2 ∨ x1 = 3 := by rcases hH with h | h <;> simp only at h <;> omega
      simp only at hlen
      obtain ⟨n0, n1⟩ := hlen
      have hs := hide (oldL_snoc hx)
      have hn := hide (newL_snoc hx)
      have hh := hide (hit_eq (p := p) hx)
      have hvv := hide (shVal_eq (p := p) hx)
      clear hx hH
      generalize hok : oldL (l.take k) = ok at *
      generalize hnk : newL (l.take k) = nk at *
      have hwA := hide ((unhide hw).alloc (unhide hw).size (.cells #[.int .i64 x1, .int .i64 x2, .int .i64 x3, .int .i64 x4] 48))
      clear hw
      rcases hkind with rfl | rfl | rfl
      · by_cases ep : p < ok + x4
        · have hRv : R = nk + p - ok := by rw [unhide hR', shift_some ⟨unhide hl', unhide hpp⟩ hlt (by rw [unhide hh]; simp; omega) (unhide hno), unhide hvv]; simp
          have hRv' := hide hRv
          clear hRv
          go_wp2
          go_ret
          exact ⟨ret_int (unhide hRv').symm, unhide hwA⟩
        · have ep' : decide (p < ok + x4) = false := by simpa using ep
          go_wp2
          go_roundw
          case rel => exact ⟨k + 1, by omega, by go_num, by rw [unhide hs]; simp [oldC], by rw [unhide hn]; simp [newC], hide (nohit_succ (unhide hno) (by rw [unhide hh]; simp; omega)), hwA⟩
          case measure => simp [intOf]; omega
      · by_cases ep : p < ok + x4
        · have hRv : R = -1 := by rw [unhide hR', shift_some ⟨unhide hl', unhide hpp⟩ hlt (by rw [unhide hh]; simp; omega) (unhide hno), unhide hvv]; simp
          have hRv' := hide hRv
          clear hRv
          go_wp2
          go_ret
          exact ⟨ret_int (unhide hRv').symm, unhide hwA⟩
        · have ep' : decide (p < ok + x4) = false := by simpa using ep
          go_wp2
          go_roundw
          case rel => exact ⟨k + 1, by omega, by go_num, by rw [unhide hs]; simp [oldC], by rw [unhide hn]; simp [newC], hide (nohit_succ (unhide hno) (by rw [unhide hh]; simp; omega)), hwA⟩
          case measure => simp [intOf]; omega
      · go_wp2
        go_roundw
        case rel => exact ⟨k + 1, by omega, by go_num, by rw [unhide hs]; simp [oldC], by rw [unhide hn]; simp [newC], hide (nohit_succ (unhide hno) (by rw [unhide hh]; simp)), hwA⟩
        case measure => simp [intOf]; omega
    · have hke : k = l.length := by omega
      have hRv := hide (show R = -1 by rw [unhide hR']; exact shift_none (by have := unhide hno; rw [hke] at this; exact this))
      go_wp2
      go_ret
      exact ⟨ret_int (unhide hRv).symm, unhide hw⟩

end Go.Proofs.Ytmgiogfaahgjjaa
