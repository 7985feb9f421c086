/-
  Contracts of the functions, the model's and the program's, that tell whether something is a reel, or a list of reels; and of the comparison of two reels; nothing that was there is written.
-/
import Derived.Test.YtfbifffmieimoaaCopyR
import Derived.Test.YtfbifffmieimoaaOk
namespace Go.Proofs.Ytfbifffmieimoaa.Rl
open Go.RowKit
open Go.Proofs.Ytfbifffmieimoaa
set_option linter.unusedVariables false
set_option linter.unusedSimpArgs false

theorem rok_dec (s f t : Int) : decide (ROk (s, f, t)) = ((decide (1 ≤ s) && decide (s ≤ 500)) && decide (0 ≤ f) && decide (f < t) && decide (t ≤ 10000000)) := by
  rw [Bool.eq_iff_iff, decide_eq_true_iff]
  simp [ROk, and_assoc]

set_option maxHeartbeats 800000 in
theorem ireel_any (s f t : Int) (v : Bool) (w : World) (hv : decide (ROk (s, f, t)) = v) :
    Calls Try.prog 56 #[.agg #[.int .i64 s, .int .i64 f, .int .i64 t]] w fun e w' => e = .returned (.bool v) ∧ Below w.heap.size w w' := by
  rw [rok_dec] at hv
  subst hv
  by_cases hs : 1 ≤ s ∧ s ≤ 500
  · by_cases h0 : 0 ≤ f
    · by_cases h1 : f < t
      · go_enter Try.func56, Try.ntmps56
        go_wp2_with fail
        refine (isrc_any s true _ (by simp; omega)).mono ?_
        rintro e w1 ⟨rfl, rfl⟩
        go_wp2
        go_ret
        exact ⟨ret_bool (by simp; omega), (Below.refl _ _).alloc (Nat.le_refl _) _⟩
      · have h1d : decide (f < t) = false := by simpa using h1
        go_enter Try.func56, Try.ntmps56
        go_wp2_with fail
        refine (isrc_any s true _ (by simp; omega)).mono ?_
        rintro e w1 ⟨rfl, rfl⟩
        go_wp2
        go_ret
        exact ⟨ret_bool (by simp [h1d]), (Below.refl _ _).alloc (Nat.le_refl _) _⟩
    · have h0d : decide (0 ≤ f) = false := by simpa using h0
      go_enter Try.func56, Try.ntmps56
      go_wp2_with fail
      refine (isrc_any s true _ (by simp; omega)).mono ?_
      rintro e w1 ⟨rfl, rfl⟩
      go_wp2
      go_ret
      exact ⟨ret_bool (by simp [h0d]), (Below.refl _ _).alloc (Nat.le_refl _) _⟩
  · have hsd : (decide (1 ≤ s) && decide (s ≤ 500)) = false := by simp; omega
    go_enter Try.func56, Try.ntmps56
    go_wp2_with fail
    refine (isrc_any s false _ (by simp; omega)).mono ?_
    rintro e w1 ⟨rfl, rfl⟩
    go_wp2
    go_ret
    exact ⟨ret_bool (by simp [hsd]), (Below.refl _ _).alloc (Nat.le_refl _) _⟩

set_option maxHeartbeats 800000 in
theorem sreel_any (s f t : Int) (v : Bool) (w : World) (hv : decide (ROk (s, f, t)) = v) :
    Calls Try.prog 57 #[.agg #[.int .i64 s, .int .i64 f, .int .i64 t]] w fun e w' => e = .returned (.bool v) ∧ Below w.heap.size w w' := by
  rw [rok_dec] at hv
  subst hv
  by_cases hs : 1 ≤ s ∧ s ≤ 500
  · by_cases h0 : 0 ≤ f
    · by_cases h1 : f < t
      · go_enter Try.func57, Try.ntmps57
        go_wp2_with fail
        refine (src_any s true _ (by simp; omega)).mono ?_
        rintro e w1 ⟨rfl, rfl⟩
        go_wp2
        go_ret
        exact ⟨ret_bool (by simp; omega), (Below.refl _ _).alloc (Nat.le_refl _) _⟩
      · have h1d : decide (f < t) = false := by simpa using h1
        go_enter Try.func57, Try.ntmps57
        go_wp2_with fail
        refine (src_any s true _ (by simp; omega)).mono ?_
        rintro e w1 ⟨rfl, rfl⟩
        go_wp2
        go_ret
        exact ⟨ret_bool (by simp [h1d]), (Below.refl _ _).alloc (Nat.le_refl _) _⟩
    · have h0d : decide (0 ≤ f) = false := by simpa using h0
      go_enter Try.func57, Try.ntmps57
      go_wp2_with fail
      refine (src_any s true _ (by simp; omega)).mono ?_
      rintro e w1 ⟨rfl, rfl⟩
      go_wp2
      go_ret
      exact ⟨ret_bool (by simp [h0d]), (Below.refl _ _).alloc (Nat.le_refl _) _⟩
  · have hsd : (decide (1 ≤ s) && decide (s ≤ 500)) = false := by simp; omega
    go_enter Try.func57, Try.ntmps57
    go_wp2_with fail
    refine (src_any s false _ (by simp; omega)).mono ?_
    rintro e w1 ⟨rfl, rfl⟩
    go_wp2
    go_ret
    exact ⟨ret_bool (by simp [hsd]), (Below.refl _ _).alloc (Nat.le_refl _) _⟩

set_option maxHeartbeats 1600000 in
theorem ireels_any (a : Option Addr) (cap : Nat) (l : List Kl) (v : Bool) (w : World) (hl : l.length ≤ maxLen) (hk : Kls w a l) (hv : decide (RsOk l) = v) :
    Calls Try.prog 39 #[.slice a l.length cap] w fun e w' => e = .returned (.bool v) ∧ Below w.heap.size w w' := by
  unfold maxLen at hl
  have hk' := hide hk
  clear hk
  by_cases hb : (300 : Int) < l.length
  · have hbd : decide ((300 : Int) < l.length) = true := by simpa using hb
    have hv0 : v = false := by rw [← hv]; exact decide_eq_false (fun h => by have := h.1; omega)
    subst hv0
    go_enter Try.func39, Try.ntmps39
    go_wp2
    go_ret
    exact ⟨rfl, Below.refl _ _⟩
  · have hbd : decide ((300 : Int) < l.length) = false := by simpa using hb
    have hv' := hide hv
    clear hv
    go_enter Try.func39, Try.ntmps39
    go_wp2
    go_loopw [10] (fun t wr => ∃ k : Nat, k ≤ l.length ∧ t = .int .i64 k ∧ Below w.heap.size w wr ∧ Hid (∀ r ∈ l.take k, ROk r)) (fun t _ => l.length - (intOf t).toNat)
    case atStart => exact ⟨0, by omega, rfl, Below.refl _ _, hide (by simp)⟩
    case round =>
      obtain ⟨k, hk, rfl, hw, hall⟩ := hrel
      by_cases hlt : k < l.length
      · obtain ⟨x, hx⟩ : ∃ x, l[k]? = some x := ⟨l[k], List.getElem?_eq_getElem hlt⟩
        obtain ⟨b, o, rfl, i1, c0, c1, c2⟩ := unhide hk' k x hx
        have C := fun o => (bcell hw).1 b o i1
        have d0 := (C _).trans c0
        have d1 := (C _).trans c1
        have d2 := (C _).trans c2
        obtain ⟨x1, x2, x3⟩ := x
        have hx' := hide hx
        have hw' := hide hw
        clear hx c0 c1 c2 C hw
        by_cases hr : ROk (x1, x2, x3)
        · have hr' := hide hr
          clear hr
          go_wp2_with fail
          refine (ireel_any x1 x2 x3 true _ (by simpa using unhide hr')).mono ?_
          rintro e w1 ⟨rfl, hb1⟩
          go_wp2
          go_roundw
          case rel => exact ⟨k + 1, by omega, by go_num, (laterB ((unhide hw').alloc (unhide hw').size _) hb1), hide (by
              intro r h
              rw [take_snocK (unhide hx')] at h
              rcases List.mem_append.1 h with h | h
              · exact unhide hall r h
              · simp at h; rw [h]; exact unhide hr')⟩
          case measure => simp [intOf]; omega
        · have hv0 : v = false := by
            rw [← unhide hv']
            simp only [decide_eq_false_iff_not]
            exact fun h => hr (h.2 _ (List.mem_of_getElem? (unhide hx')))
          subst hv0
          have hr' := hide hr
          clear hr
          go_wp2_with fail
          refine (ireel_any x1 x2 x3 false _ (by simpa using unhide hr')).mono ?_
          rintro e w1 ⟨rfl, hb1⟩
          go_wp2
          go_ret
          exact ⟨rfl, (laterB ((unhide hw').alloc (unhide hw').size _) hb1)⟩
      · have hke : k = l.length := by omega
        have hv0 : v = true := by
          rw [← unhide hv']
          simp only [decide_eq_true_eq]
          refine ⟨by omega, fun r h => unhide hall r ?_⟩
          rw [hke, List.take_length]; exact h
        subst hv0
        go_wp2
        go_ret
        exact ⟨rfl, hw⟩

set_option maxHeartbeats 1600000 in
theorem sreels_any (a : Option Addr) (cap : Nat) (l : List Kl) (v : Bool) (w : World) (hl : l.length ≤ maxLen) (hk : Kls w a l) (hv : decide (RsOk l) = v) :
    Calls Try.prog 42 #[.slice a l.length cap] w fun e w' => e = .returned (.bool v) ∧ Below w.heap.size w w' := by
  unfold maxLen at hl
  have hk' := hide hk
  clear hk
  by_cases hb : (300 : Int) < l.length
  · have hbd : decide ((300 : Int) < l.length) = true := by simpa using hb
    have hv0 : v = false := by rw [← hv]; exact decide_eq_false (fun h => by have := h.1; omega)
    subst hv0
    go_enter Try.func42, Try.ntmps42
    go_wp2
    go_ret
    exact ⟨rfl, Below.refl _ _⟩
  · have hbd : decide ((300 : Int) < l.length) = false := by simpa using hb
    have hv' := hide hv
    clear hv
    go_enter Try.func42, Try.ntmps42
    go_wp2
    go_loopw [3] (fun t wr => ∃ k : Nat, k ≤ l.length ∧ t = .int .i64 k ∧ Below w.heap.size w wr ∧ Hid (∀ r ∈ l.take k, ROk r)) (fun t _ => l.length - (intOf t).toNat)
    case atStart => exact ⟨0, by omega, rfl, Below.refl _ _, hide (by simp)⟩
    case round =>
      obtain ⟨k, hk, rfl, hw, hall⟩ := hrel
      by_cases hlt : k < l.length
      · obtain ⟨x, hx⟩ : ∃ x, l[k]? = some x := ⟨l[k], List.getElem?_eq_getElem hlt⟩
        obtain ⟨b, o, rfl, i1, c0, c1, c2⟩ := unhide hk' k x hx
        have C := fun o => (bcell hw).1 b o i1
        have d0 := (C _).trans c0
        have d1 := (C _).trans c1
        have d2 := (C _).trans c2
        obtain ⟨x1, x2, x3⟩ := x
        have hx' := hide hx
        have hw' := hide hw
        clear hx c0 c1 c2 C hw
        by_cases hr : ROk (x1, x2, x3)
        · have hr' := hide hr
          clear hr
          go_wp2_with fail
          refine (sreel_any x1 x2 x3 true _ (by simpa using unhide hr')).mono ?_
          rintro e w1 ⟨rfl, hb1⟩
          go_wp2
          go_roundw
          case rel => exact ⟨k + 1, by omega, by go_num, (laterB (unhide hw') hb1), hide (by
              intro r h
              rw [take_snocK (unhide hx')] at h
              rcases List.mem_append.1 h with h | h
              · exact unhide hall r h
              · simp at h; rw [h]; exact unhide hr')⟩
          case measure => simp [intOf]; omega
        · have hv0 : v = false := by
            rw [← unhide hv']
            simp only [decide_eq_false_iff_not]
            exact fun h => hr (h.2 _ (List.mem_of_getElem? (unhide hx')))
          subst hv0
          have hr' := hide hr
          clear hr
          go_wp2_with fail
          refine (sreel_any x1 x2 x3 false _ (by simpa using unhide hr')).mono ?_
          rintro e w1 ⟨rfl, hb1⟩
          go_wp2
          go_ret
          exact ⟨rfl, (laterB (unhide hw') hb1)⟩
      · have hke : k = l.length := by omega
        have hv0 : v = true := by
          rw [← unhide hv']
          simp only [decide_eq_true_eq]
          refine ⟨by omega, fun r h => unhide hall r ?_⟩
          rw [hke, List.take_length]; exact h
        subst hv0
        go_wp2
        go_ret
        exact ⟨rfl, hw⟩

def cmpI (x y : Int) : Int := if x < y then -1 else if y < x then 1 else 0
set_option maxHeartbeats 400000 in
theorem nan_any (x : Int) (w : World) : Calls Try.prog 67 #[.int .i64 x] w fun e w' => e = .returned (.bool false) ∧ w' = w := by
  have e1 : (x != x) = false := by simp
  go_enter Try.func67, Try.ntmps67
  go_wp2
  go_ret
  exact ⟨rfl, rfl⟩
set_option maxHeartbeats 800000 in
theorem cmp_any (x y : Int) (w : World) : Calls Try.prog 63 #[.int .i64 x, .int .i64 y] w fun e w' => e = .returned (.int .i64 (cmpI x y)) ∧ w' = w := by
  by_cases h1 : x < y
  · have e : cmpI x y = -1 := by simp [cmpI, h1]
    rw [e]
    go_enter Try.func63, Try.ntmps63
    go_wp2_with fail
    refine (nan_any x _).mono ?_
    rintro e w1 ⟨rfl, rfl⟩
    go_wp2_with fail
    refine (nan_any y _).mono ?_
    rintro e w1 ⟨rfl, rfl⟩
    go_wp2
    go_ret
    exact ⟨rfl, rfl⟩
  · have h1d : decide (x < y) = false := by simpa using h1
    by_cases h2 : y < x
    · have e : cmpI x y = 1 := by simp [cmpI, h1, h2]
      rw [e]
      go_enter Try.func63, Try.ntmps63
      go_wp2_with fail
      refine (nan_any x _).mono ?_
      rintro e w1 ⟨rfl, rfl⟩
      go_wp2_with fail
      refine (nan_any y _).mono ?_
      rintro e w1 ⟨rfl, rfl⟩
      go_wp2
      go_ret
      exact ⟨rfl, rfl⟩
    · have h2d : decide (y < x) = false := by simpa using h2
      have e : cmpI x y = 0 := by simp [cmpI, h1, h2]
      rw [e]
      go_enter Try.func63, Try.ntmps63
      go_wp2_with fail
      refine (nan_any x _).mono ?_
      rintro e w1 ⟨rfl, rfl⟩
      go_wp2_with fail
      refine (nan_any y _).mono ?_
      rintro e w1 ⟨rfl, rfl⟩
      go_wp2
      go_ret
      exact ⟨rfl, rfl⟩

end Go.Proofs.Ytfbifffmieimoaa.Rl
