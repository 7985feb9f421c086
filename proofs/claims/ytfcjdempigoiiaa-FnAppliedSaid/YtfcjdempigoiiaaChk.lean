/-
  Contracts of the tests of a change and of a list of changes, the model's and the program's; a change's clip; the frames that a list keeps and drops.
-/
import Derived.Test.YtfcjdempigoiiaaStp0
import Derived.Test.YtfcjdempigoiiaaTrk
namespace Go.Proofs.Ytfcjdempigoiiaa
open Go.RowKit
set_option linter.unusedVariables false
set_option linter.unusedSimpArgs false

set_option maxHeartbeats 800000 in
theorem clipOf_any (c1 c2 c3 c4 : Int) (w : World) : Calls Try.prog 39 #[.agg #[.int .i64 c1, .int .i64 c2, .int .i64 c3, .int .i64 c4]] w fun e w' => e = .returned (.agg #[.int .i64 c2, .int .i64 c3, .int .i64 c4]) ∧ Below w.heap.size w w' := by
  go_enter Try.func39, Try.ntmps39
  go_wp2
  exact bodyPost_ret (v := .agg #[.int .i64 c2, .int .i64 c3, .int .i64 c4]) (by simp [results, Try.results39, go_sem]) rfl ⟨rfl, ((Below.refl _ _).alloc (Nat.le_refl _) _).alloc (by simp) _⟩

set_option maxHeartbeats 1600000 in
theorem ichange_any (x1 x2 x3 x4 : Int) (v : Bool) (w : World) (hv : decide (HOk (x1, x2, x3, x4)) = v) :
    Calls Try.prog 59 #[.agg #[.int .i64 x1, .int .i64 x2, .int .i64 x3, .int .i64 x4]] w fun e w' => e = .returned (.bool v) ∧ Below w.heap.size w w' := by
  by_cases h1 : x1 = 1
  · subst h1
    by_cases s0 : x2 = 0
    · by_cases i0 : x3 = 0
      · subst s0 i0
        by_cases n0 : 1 ≤ x4
        · have hv2 : v = decide (x4 ≤ 10000000) := by rw [← hv]; simp [HOk, n0]
          subst hv2
          clear hv
          go_enter Try.func59, Try.ntmps59
          go_wp2
          go_ret
          exact ⟨rfl, (Below.refl _ _).alloc (Nat.le_refl _) _⟩
        · have n0' : decide (1 ≤ x4) = false := by simpa using n0
          have hv2 : v = false := by rw [← hv]; simp [HOk]; omega
          subst hv2
          clear hv
          go_enter Try.func59, Try.ntmps59
          go_wp2
          go_ret
          exact ⟨rfl, (Below.refl _ _).alloc (Nat.le_refl _) _⟩
      · have i0' : decide (x3 = 0) = false := by simpa using i0
        have hv2 : v = false := by rw [← hv]; simp [HOk, i0]
        subst hv2 s0
        clear hv
        go_enter Try.func59, Try.ntmps59
        go_wp2
        go_ret
        exact ⟨rfl, (Below.refl _ _).alloc (Nat.le_refl _) _⟩
    · have s0' : decide (x2 = 0) = false := by simpa using s0
      have hv2 : v = false := by rw [← hv]; simp [HOk, s0]
      subst hv2
      clear hv
      go_enter Try.func59, Try.ntmps59
      go_wp2
      go_ret
      exact ⟨rfl, (Below.refl _ _).alloc (Nat.le_refl _) _⟩
  · have e1 : decide (x1 = 1) = false := by simpa using h1
    by_cases h2 : x1 = 2
    · subst h2
      by_cases s0 : x2 = 0
      · by_cases i0 : x3 = 0
        · subst s0 i0
          by_cases n0 : 1 ≤ x4
          · have hv2 : v = decide (x4 ≤ 10000000) := by rw [← hv]; simp [HOk, n0]
            subst hv2
            clear hv
            go_enter Try.func59, Try.ntmps59
            go_wp2
            go_ret
            exact ⟨rfl, (Below.refl _ _).alloc (Nat.le_refl _) _⟩
          · have n0' : decide (1 ≤ x4) = false := by simpa using n0
            have hv2 : v = false := by rw [← hv]; simp [HOk]; omega
            subst hv2
            clear hv
            go_enter Try.func59, Try.ntmps59
            go_wp2
            go_ret
            exact ⟨rfl, (Below.refl _ _).alloc (Nat.le_refl _) _⟩
        · have i0' : decide (x3 = 0) = false := by simpa using i0
          have hv2 : v = false := by rw [← hv]; simp [HOk, i0]
          subst hv2 s0
          clear hv
          go_enter Try.func59, Try.ntmps59
          go_wp2
          go_ret
          exact ⟨rfl, (Below.refl _ _).alloc (Nat.le_refl _) _⟩
      · have s0' : decide (x2 = 0) = false := by simpa using s0
        have hv2 : v = false := by rw [← hv]; simp [HOk, s0]
        subst hv2
        clear hv
        go_enter Try.func59, Try.ntmps59
        go_wp2
        go_ret
        exact ⟨rfl, (Below.refl _ _).alloc (Nat.le_refl _) _⟩
    · have e2 : decide (x1 = 2) = false := by simpa using h2
      have h12 : x1 ≠ 1 ∧ x1 ≠ 2 := ⟨h1, h2⟩
      clear h1 h2
      by_cases e3 : x1 = 3
      · subst e3
        have hv' : decide (COk (x2, x3, x4)) = v := by rw [← hv]; exact decide_eq_decide.2 ⟨fun h => .inr ⟨rfl, h⟩, fun h => by rcases h with ⟨h, _⟩ | ⟨_, h⟩ <;> first | exact h | simp at h⟩
        have hv'' := hide hv'
        clear hv hv' e1 e2 h12
        go_enter Try.func59, Try.ntmps59
        go_wp2_with fail
        refine (clipOf_any 3 x2 x3 x4 _).mono ?_
        rintro e w1 ⟨rfl, hb⟩
        go_wp2_with fail
        refine (iclip_any x2 x3 x4 v _ (unhide hv'')).mono ?_
        rintro e w2 ⟨rfl, hb2⟩
        go_wp2
        go_ret
        exact ⟨rfl, laterB (laterB ((Below.refl _ _).alloc (Nat.le_refl _) _) hb) hb2⟩
      · have e3' : decide (x1 = 3) = false := by simpa using e3
        have hv2 : v = false := by rw [← hv]; exact decide_eq_false (fun h => by rcases h with ⟨h, _⟩ | ⟨h, _⟩ <;> simp at h <;> omega)
        subst hv2
        clear hv
        go_enter Try.func59, Try.ntmps59
        go_wp2
        go_ret
        exact ⟨rfl, (Below.refl _ _).alloc (Nat.le_refl _) _⟩

set_option maxHeartbeats 1600000 in
theorem schange_any (x1 x2 x3 x4 : Int) (v : Bool) (w : World) (hv : decide (HOk (x1, x2, x3, x4)) = v) :
    Calls Try.prog 64 #[.agg #[.int .i64 x1, .int .i64 x2, .int .i64 x3, .int .i64 x4]] w fun e w' => e = .returned (.bool v) ∧ Below w.heap.size w w' := by
  by_cases h1 : x1 = 1
  · subst h1
    by_cases s0 : x2 = 0
    · by_cases i0 : x3 = 0
      · subst s0 i0
        have hv2 : (decide (1 ≤ x4) && decide (x4 ≤ 10000000)) = v := by rw [← hv, Bool.eq_iff_iff]; simp [HOk]
        have hv3 := hide hv2
        clear hv hv2
        go_enter Try.func64, Try.ntmps64
        go_wp2_with fail
        refine (in_any x4 1 10000000 v _ (unhide hv3)).mono ?_
        rintro e w1 ⟨rfl, rfl⟩
        go_wp2
        go_ret
        exact ⟨rfl, (Below.refl _ _).alloc (Nat.le_refl _) _⟩
      · have i0' : decide (x3 = 0) = false := by simpa using i0
        have hv2 : v = false := by rw [← hv]; simp [HOk, i0]
        subst hv2 s0
        clear hv
        go_enter Try.func64, Try.ntmps64
        go_wp2
        go_ret
        exact ⟨rfl, (Below.refl _ _).alloc (Nat.le_refl _) _⟩
    · have s0' : decide (x2 = 0) = false := by simpa using s0
      have hv2 : v = false := by rw [← hv]; simp [HOk, s0]
      subst hv2
      clear hv
      go_enter Try.func64, Try.ntmps64
      go_wp2
      go_ret
      exact ⟨rfl, (Below.refl _ _).alloc (Nat.le_refl _) _⟩
  · have e1 : decide (x1 = 1) = false := by simpa using h1
    by_cases h2 : x1 = 2
    · subst h2
      by_cases s0 : x2 = 0
      · by_cases i0 : x3 = 0
        · subst s0 i0
          have hv2 : (decide (1 ≤ x4) && decide (x4 ≤ 10000000)) = v := by rw [← hv, Bool.eq_iff_iff]; simp [HOk]
          have hv3 := hide hv2
          clear hv hv2
          go_enter Try.func64, Try.ntmps64
          go_wp2_with fail
          refine (in_any x4 1 10000000 v _ (unhide hv3)).mono ?_
          rintro e w1 ⟨rfl, rfl⟩
          go_wp2
          go_ret
          exact ⟨rfl, (Below.refl _ _).alloc (Nat.le_refl _) _⟩
        · have i0' : decide (x3 = 0) = false := by simpa using i0
          have hv2 : v = false := by rw [← hv]; simp [HOk, i0]
          subst hv2 s0
          clear hv
          go_enter Try.func64, Try.ntmps64
          go_wp2
          go_ret
          exact ⟨rfl, (Below.refl _ _).alloc (Nat.le_refl _) _⟩
      · have s0' : decide (x2 = 0) = false := by simpa using s0
        have hv2 : v = false := by rw [← hv]; simp [HOk, s0]
        subst hv2
        clear hv
        go_enter Try.func64, Try.ntmps64
        go_wp2
        go_ret
        exact ⟨rfl, (Below.refl _ _).alloc (Nat.le_refl _) _⟩
    · have e2 : decide (x1 = 2) = false := by simpa using h2
      have h12 : x1 ≠ 1 ∧ x1 ≠ 2 := ⟨h1, h2⟩
      clear h1 h2
      by_cases e3 : x1 = 3
      · subst e3
        have hv' : decide (COk (x2, x3, x4)) = v := by rw [← hv]; exact decide_eq_decide.2 ⟨fun h => .inr ⟨rfl, h⟩, fun h => by rcases h with ⟨h, _⟩ | ⟨_, h⟩ <;> first | exact h | simp at h⟩
        have hv'' := hide hv'
        clear hv hv' e1 e2 h12
        go_enter Try.func64, Try.ntmps64
        go_wp2_with fail
        refine (sclip_any x2 x3 x4 v _ (unhide hv'')).mono ?_
        rintro e w2 ⟨rfl, hb2⟩
        go_wp2
        go_ret
        exact ⟨rfl, laterB ((Below.refl _ _).alloc (Nat.le_refl _) _) hb2⟩
      · have e3' : decide (x1 = 3) = false := by simpa using e3
        have hv2 : v = false := by rw [← hv]; exact decide_eq_false (fun h => by rcases h with ⟨h, _⟩ | ⟨h, _⟩ <;> simp at h <;> omega)
        subst hv2
        clear hv
        go_enter Try.func64, Try.ntmps64
        go_wp2
        go_ret
        exact ⟨rfl, (Below.refl _ _).alloc (Nat.le_refl _) _⟩

set_option maxHeartbeats 1600000 in
theorem ilist_any (a : Option Addr) (cap : Nat) (l : List Ch) (v : Bool) (w : World) (hl : l.length ≤ maxLen) (hk : Chs w a l) (hv : decide (LOk l) = v) :
    Calls Try.prog 36 #[.slice a l.length cap] w fun e w' => e = .returned (.bool v) ∧ Below w.heap.size w w' := by
  have hk' := hide hk
  clear hk
  unfold maxLen at hl
  by_cases hbig : 300 < l.length
  · have hv' : v = false := by rw [← hv]; exact decide_eq_false (fun h => by have := h.1; omega)
    subst hv'
    have hbig' : decide ((300 : Int) < l.length) = true := by simp; omega
    clear hv
    go_enter Try.func36, Try.ntmps36
    go_wp2
    go_ret
    exact ⟨rfl, Below.refl _ _⟩
  have hbig' : decide ((300 : Int) < l.length) = false := by simp; omega
  have hv' := hide hv
  clear hv
  go_enter Try.func36, Try.ntmps36
  go_wp2
  go_loopw [10] (fun t wr => ∃ k : Nat, k ≤ l.length ∧ t = .int .i64 k ∧ Hid (∀ c ∈ l.take k, HOk c) ∧ Hid (Below w.heap.size w wr)) (fun t _ => l.length - (intOf t).toNat)
  case atStart => exact ⟨0, by omega, rfl, hide (by simp), hide (Below.refl _ _)⟩
  case round =>
    obtain ⟨k, hk, rfl, hA, hw⟩ := hrel
    by_cases hlt : k < l.length
    · obtain ⟨x1, x2, x3, x4, b, o, hx, rfl, hb0, c0, c1, c2, c3⟩ := chs_at (unhide hk') (unhide hw) hlt
      have hx' := hide hx
      clear hx
      by_cases hc : HOk (x1, x2, x3, x4)
      · have hc' := hide hc
        clear hc
        go_wp2_with fail
        refine (ichange_any x1 x2 x3 x4 true _ (decide_eq_true (unhide hc'))).mono ?_
        rintro e w1 ⟨rfl, hb⟩
        have hw1 := hide (laterB ((unhide hw).alloc (unhide hw).size _) hb)
        clear hb hw c0 c1 c2 c3
        go_wp2
        go_roundw
        case rel =>
          refine ⟨k + 1, by omega, by go_num, hide ?_, hw1⟩
          rw [take_snocC (unhide hx')]
          intro c hcm
          rcases List.mem_append.1 hcm with h | h
          · exact unhide hA c h
          · simp at h; rw [h]; exact unhide hc'
        case measure => simp [intOf]; omega
      · have hv2 : v = false := by rw [← unhide hv']; exact decide_eq_false (fun h => hc (h.2 _ (List.mem_of_getElem? (unhide hx'))))
        subst hv2
        have hc2 := hide (show decide (HOk (x1, x2, x3, x4)) = false from decide_eq_false hc)
        clear hc
        go_wp2_with fail
        refine (ichange_any x1 x2 x3 x4 false _ (unhide hc2)).mono ?_
        rintro e w1 ⟨rfl, hb⟩
        go_wp2
        go_ret
        exact ⟨rfl, laterB ((unhide hw).alloc (unhide hw).size _) hb⟩
    · have hke : k = l.length := by omega
      have hv2 : v = true := by
        rw [← unhide hv']
        have := unhide hA
        rw [hke, List.take_length] at this
        exact decide_eq_true ⟨by omega, this⟩
      subst hv2
      clear hv'
      go_wp2
      go_ret
      exact ⟨rfl, unhide hw⟩

set_option maxHeartbeats 1600000 in
theorem slist_any (a : Option Addr) (cap : Nat) (l : List Ch) (v : Bool) (w : World) (hl : l.length ≤ maxLen) (hk : Chs w a l) (hv : decide (LOk l) = v) :
    Calls Try.prog 46 #[.slice a l.length cap] w fun e w' => e = .returned (.bool v) ∧ Below w.heap.size w w' := by
  have hk' := hide hk
  clear hk
  unfold maxLen at hl
  by_cases hbig : 300 < l.length
  · have hv' : v = false := by rw [← hv]; exact decide_eq_false (fun h => by have := h.1; omega)
    subst hv'
    have hbig' : decide ((300 : Int) < l.length) = true := by simp; omega
    clear hv
    go_enter Try.func46, Try.ntmps46
    go_wp2
    go_ret
    exact ⟨rfl, Below.refl _ _⟩
  have hbig' : decide ((300 : Int) < l.length) = false := by simp; omega
  have hv' := hide hv
  clear hv
  go_enter Try.func46, Try.ntmps46
  go_wp2
  go_loopw [3] (fun t wr => ∃ k : Nat, k ≤ l.length ∧ t = .int .i64 k ∧ Hid (∀ c ∈ l.take k, HOk c) ∧ Hid (Below w.heap.size w wr)) (fun t _ => l.length - (intOf t).toNat)
  case atStart => exact ⟨0, by omega, rfl, hide (by simp), hide (Below.refl _ _)⟩
  case round =>
    obtain ⟨k, hk, rfl, hA, hw⟩ := hrel
    by_cases hlt : k < l.length
    · obtain ⟨x1, x2, x3, x4, b, o, hx, rfl, hb0, c0, c1, c2, c3⟩ := chs_at (unhide hk') (unhide hw) hlt
      have hx' := hide hx
      clear hx
      by_cases hc : HOk (x1, x2, x3, x4)
      · have hc' := hide hc
        clear hc
        go_wp2_with fail
        refine (schange_any x1 x2 x3 x4 true _ (decide_eq_true (unhide hc'))).mono ?_
        rintro e w1 ⟨rfl, hb⟩
        have hw1 := hide (laterB (unhide hw) hb)
        clear hb hw c0 c1 c2 c3
        go_wp2
        go_roundw
        case rel =>
          refine ⟨k + 1, by omega, by go_num, hide ?_, hw1⟩
          rw [take_snocC (unhide hx')]
          intro c hcm
          rcases List.mem_append.1 hcm with h | h
          · exact unhide hA c h
          · simp at h; rw [h]; exact unhide hc'
        case measure => simp [intOf]; omega
      · have hv2 : v = false := by rw [← unhide hv']; exact decide_eq_false (fun h => hc (h.2 _ (List.mem_of_getElem? (unhide hx'))))
        subst hv2
        have hc2 := hide (show decide (HOk (x1, x2, x3, x4)) = false from decide_eq_false hc)
        clear hc
        go_wp2_with fail
        refine (schange_any x1 x2 x3 x4 false _ (unhide hc2)).mono ?_
        rintro e w1 ⟨rfl, hb⟩
        go_wp2
        go_ret
        exact ⟨rfl, laterB (unhide hw) hb⟩
    · have hke : k = l.length := by omega
      have hv2 : v = true := by
        rw [← unhide hv']
        have := unhide hA
        rw [hke, List.take_length] at this
        exact decide_eq_true ⟨by omega, this⟩
      subst hv2
      clear hv'
      go_wp2
      go_ret
      exact ⟨rfl, unhide hw⟩

set_option maxHeartbeats 1600000 in
theorem oldlen_any (a : Option Addr) (cap : Nat) (l : List Ch) (w : World) (hl : LOk l) (hk : Chs w a l) :
    Calls Try.prog 37 #[.slice a l.length cap] w fun e w' => e = .returned (.int .i64 (oldL l)) ∧ Below w.heap.size w w' := by
  have hk' := hide hk
  have hlm : l.length ≤ 300 := hl.1
  have hl' := hide hl
  clear hk hl
  go_enter Try.func37, Try.ntmps37
  go_wp2
  go_loopw [3, 8] (fun s t wr => ∃ k : Nat, k ≤ l.length ∧ t = .int .i64 k ∧ s = .int .i64 (oldL (l.take k)) ∧ Hid (Below w.heap.size w wr)) (fun _ t _ => l.length - (intOf t).toNat)
  case atStart => exact ⟨0, by omega, rfl, by simp [oldL], hide (Below.refl _ _)⟩
  case round =>
    obtain ⟨k, hk, rfl, rfl, hw⟩ := hrel
    obtain ⟨b0, b1, _, _⟩ := sums_take (unhide hl') k
    by_cases hlt : k < l.length
    · obtain ⟨x1, x2, x3, x4, b, o, hx, rfl, hb0, c0, c1, c2, c3⟩ := chs_at (unhide hk') (unhide hw) hlt
      have hlen := ((unhide hl').2 _ (List.mem_of_getElem? hx)).len
      simp only at hlen
      obtain ⟨n0, n1⟩ := hlen
      have hs := hide (oldL_snoc hx)
      clear hx
      by_cases e3 : x1 = 3
      · subst e3
        have e3' : ((3 : Int) != 3) = false := by simp
        go_wp2
        go_roundw
        case rel => exact ⟨k + 1, by omega, by go_num, by rw [unhide hs]; simp [oldC], hide ((unhide hw).alloc (unhide hw).size _)⟩
        case measure => simp [intOf]; omega
      · have e3' : (x1 != 3) = true := by simpa using e3
        go_wp2
        go_roundw
        case rel => exact ⟨k + 1, by omega, by go_num, by rw [unhide hs]; simp [oldC, e3], hide ((unhide hw).alloc (unhide hw).size _)⟩
        case measure => simp [intOf]; omega
    · have hke : k = l.length := by omega
      go_wp2
      go_ret
      exact ⟨ret_int (by rw [hke, List.take_length]), unhide hw⟩

end Go.Proofs.Ytfcjdempigoiiaa
