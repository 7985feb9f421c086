/-
  Contracts of the functions, the model's and the program's, that tell whether something is a frame or keys; nothing that was there is written.
-/
import Derived.Test.YtbmkbhondlecaaaCopyY
import Derived.Test.YtbmkbhondlecaaaOk
namespace Go.Proofs.Ytbmkbhondlecaaa.Y
open Go.RowKit
open Go.Proofs.Ytbmkbhondlecaaa
set_option linter.unusedVariables false
set_option linter.unusedSimpArgs false

theorem frok_dec (x : Int) : decide (FrOk x) = (decide (0 ≤ x) && decide (x ≤ 10000000)) := by
  rw [Bool.eq_iff_iff, decide_eq_true_iff]
  simp [FrOk]
set_option maxHeartbeats 400000 in
theorem ifr_any (x : Int) (v : Bool) (w : World) (hv : decide (FrOk x) = v) :
    Calls Try.prog 50 #[.int .i64 x] w fun e w' => e = .returned (.bool v) ∧ w' = w := by
  rw [frok_dec] at hv
  subst hv
  by_cases h1 : 0 ≤ x
  · by_cases h2 : x ≤ 10000000
    · go_enter Try.func50, Try.ntmps50
      go_wp2
      go_ret
      exact ⟨ret_bool (by simp [h1, h2]), rfl⟩
    · have hd : decide (x ≤ 10000000) = false := by simpa using h2
      go_enter Try.func50, Try.ntmps50
      go_wp2
      go_ret
      exact ⟨ret_bool (by simp [h2]), rfl⟩
  · have hd : decide (0 ≤ x) = false := by simpa using h1
    go_enter Try.func50, Try.ntmps50
    go_wp2
    go_ret
    exact ⟨ret_bool (by simp [h1]), rfl⟩
set_option maxHeartbeats 400000 in
theorem sfr_any (x : Int) (v : Bool) (w : World) (hv : decide (FrOk x) = v) :
    Calls Try.prog 39 #[.int .i64 x] w fun e w' => e = .returned (.bool v) ∧ w' = w := by
  rw [frok_dec] at hv
  go_enter Try.func39, Try.ntmps39
  go_wp2_with fail
  refine (in_any x 0 10000000 v _ hv).mono ?_
  rintro e w1 ⟨rfl, rfl⟩
  go_wp2
  go_ret
  exact ⟨rfl, rfl⟩

set_option maxHeartbeats 3200000 in
theorem iks_any (a : Option Addr) (cap : Nat) (l : List Ky) (v : Bool) (w : World) (hl : l.length ≤ maxLen) (hk : Kys w a l) (hv : v = true ↔ KsOk l) :
    Calls Try.prog 23 #[.slice a l.length cap] w fun e w' => e = .returned (.bool v) ∧ Below w.heap.size w w' := by
  have hk' := hide hk
  have hv' := hide hv
  clear hk hv
  unfold maxLen at hl
  by_cases h1 : l.length < 1
  · have hno : v = false := by cases v with | false => rfl | true => exact absurd ((unhide hv').1 rfl).1 (by omega)
    subst hno
    have hz : l.length = 0 := by omega
    have hz' : ((l.length : Int)) = 0 := by omega
    go_enter Try.func23, Try.ntmps23
    go_wp2
    go_ret
    exact ⟨rfl, Below.refl _ _⟩
  by_cases h2 : 100 < l.length
  · have hno : v = false := by cases v with | false => rfl | true => exact absurd ((unhide hv').1 rfl).2.1 (by omega)
    subst hno
    go_enter Try.func23, Try.ntmps23
    go_wp2
    go_ret
    exact ⟨rfl, Below.refl _ _⟩
  have g1 : decide ((l.length : Int) < 1) = false := by simp; omega
  have g2 : decide ((100 : Int) < l.length) = false := by simp; omega
  have h1' : 1 ≤ l.length := by omega
  have h2' : l.length ≤ 100 := by omega
  clear h1 h2
  go_enter Try.func23, Try.ntmps23
  go_wp2
  go_loopw [15] (fun t wr => ∃ k : Nat, k ≤ l.length ∧ t = .int .i64 k ∧ Hid (KPre l k) ∧ Hid (Below w.heap.size w wr)) (fun t _ => l.length - (intOf t).toNat)
  case atStart => exact ⟨0, by omega, rfl, hide (KPre.zero l), hide (Below.refl _ _)⟩
  case round =>
    obtain ⟨k, hk, rfl, hA, hw⟩ := hrel
    by_cases hlt : k < l.length
    · obtain ⟨b, o, s, i, rfl, hx, hbl, c0, c1⟩ := kys_at (unhide hk') (unhide hw) hlt
      have hx' := hide hx
      clear hx hbl
      by_cases f0 : FrOk s
      · have hS := (decide_eq_true f0)
        by_cases f1 : FrOk i
        · have hI := (decide_eq_true f1)
          have hK := hide (show KOk (s, i) from ⟨f0, f1⟩)
          clear f0 f1
          by_cases k0 : k = 0
          · have g0 : decide (0 < k) = false := by simp; omega
            have hnew := hide ((unhide hA).step (unhide hx') (unhide hK) (fun i y h => by omega))
            clear hA k0
            go_wp2_with fail
            go_quiet ((go_at_call 50; exact Calls.quiet_of_same (ifr_any _ _ _ rfl)))
            go_wp2
            go_roundw
            case rel => exact ⟨k + 1, by omega, by go_num, hnew, hide ((below_drewN ((unhide hw).alloc (unhide hw).size _) _))⟩
            case measure => simp [intOf]; omega
          · obtain ⟨m, hm⟩ : ∃ m, k = m + 1 := ⟨k - 1, by omega⟩
            obtain ⟨b', o', s', i', hb', hy, hbl', d0, d1⟩ := kys_at (unhide hk') (unhide hw) (show m < l.length by omega)
            injection hb' with hb'
            injection hb' with hb1 hb2
            subst hb1 hb2
            have hy' := hide hy
            have em : IntKind.i64.wrap ((k : Int) - 1) = (m : Int) := by rw [IntKind.wrap_i64]; omega
            have g0 : decide (0 < k) = true := by simp; omega
            have em2 : (m : Int) < l.length := by omega
            have em3 : (0 : Int) ≤ (m : Int) := by omega
            have hm' := hide hm
            have dz : (wr.alloc (.cells #[.int .i64 s, .int .i64 i] 31)).cell? ⟨b, o + m * 2, none⟩ = some (.int .i64 s') := cell_later ((Below.refl wr.heap.size wr).alloc (Nat.le_refl _) _) d0
            clear hy hbl' d1 hm k0
            by_cases hr : s' < s
            · have hr' : decide (s ≤ s') = false := by simp; omega
              have hnew := hide ((unhide hA).step (unhide hx') (unhide hK) (fun i y h hy => by
                obtain rfl : i = m := by have := unhide hm'; omega
                rw [unhide hy'] at hy
                injection hy with hy
                subst hy
                exact hr))
              clear hA hr
              go_wp2_with fail
              go_quiet ((go_at_call 50; exact Calls.quiet_of_same (ifr_any _ _ _ rfl)))
              go_wp2
              go_roundw
              case rel => exact ⟨k + 1, by omega, by go_num, hnew, hide ((below_drewN ((unhide hw).alloc (unhide hw).size _) _))⟩
              case measure => simp [intOf]; omega
            · have hr' : decide (s ≤ s') = true := by simp; omega
              have hno : v = false := by cases v with | false => rfl | true => exact absurd ((unhide hv').1 rfl) (ksno_rise (unhide hy') (by rw [← unhide hm']; exact unhide hx') (by simp only; omega))
              subst hno
              clear hA hr
              go_wp2_with fail
              go_quiet ((go_at_call 50; exact Calls.quiet_of_same (ifr_any _ _ _ rfl)))
              go_wp2
              go_ret
              exact ⟨rfl, (below_drewN ((unhide hw).alloc (unhide hw).size _) _)⟩
        · have hI := (decide_eq_false f1)
          have hno : v = false := by cases v with | false => rfl | true => exact absurd ((unhide hv').1 rfl) (ksno_key (unhide hx') (fun h => f1 h.2))
          subst hno
          clear f0 f1 hA
          go_wp2_with fail
          go_quiet ((go_at_call 50; exact Calls.quiet_of_same (ifr_any _ _ _ rfl)))
          go_wp2
          go_ret
          exact ⟨rfl, (below_drewN ((unhide hw).alloc (unhide hw).size _) _)⟩
      · have hS := (decide_eq_false f0)
        have hno : v = false := by cases v with | false => rfl | true => exact absurd ((unhide hv').1 rfl) (ksno_key (unhide hx') (fun h => f0 h.1))
        subst hno
        clear f0 hA
        go_wp2_with fail
        go_quiet ((go_at_call 50; exact Calls.quiet_of_same (ifr_any _ _ _ rfl)))
        go_wp2
        go_ret
        exact ⟨rfl, (below_drewN ((unhide hw).alloc (unhide hw).size _) _)⟩
    · have hke : k = l.length := by omega
      have hyes : v = true := (unhide hv').2 ⟨h1', h2', by have := unhide hA; rw [hke] at this; exact this⟩
      subst hyes
      clear hA
      go_wp2
      go_ret
      exact ⟨rfl, unhide hw⟩

set_option maxHeartbeats 3200000 in
theorem sks_any (a : Option Addr) (cap : Nat) (l : List Ky) (v : Bool) (w : World) (hl : l.length ≤ maxLen) (hk : Kys w a l) (hv : v = true ↔ KsOk l) :
    Calls Try.prog 21 #[.slice a l.length cap] w fun e w' => e = .returned (.bool v) ∧ Below w.heap.size w w' := by
  have hk' := hide hk
  have hv' := hide hv
  clear hk hv
  unfold maxLen at hl
  by_cases h1 : l.length < 1
  · have hno : v = false := by cases v with | false => rfl | true => exact absurd ((unhide hv').1 rfl).1 (by omega)
    subst hno
    have hz : l.length = 0 := by omega
    have hz' : ((l.length : Int)) = 0 := by omega
    go_enter Try.func21, Try.ntmps21
    go_wp2
    go_ret
    exact ⟨rfl, Below.refl _ _⟩
  by_cases h2 : 100 < l.length
  · have hno : v = false := by cases v with | false => rfl | true => exact absurd ((unhide hv').1 rfl).2.1 (by omega)
    subst hno
    go_enter Try.func21, Try.ntmps21
    go_wp2
    go_ret
    exact ⟨rfl, Below.refl _ _⟩
  have g1 : decide ((l.length : Int) < 1) = false := by simp; omega
  have g2 : decide ((100 : Int) < l.length) = false := by simp; omega
  have h1' : 1 ≤ l.length := by omega
  have h2' : l.length ≤ 100 := by omega
  clear h1 h2
  go_enter Try.func21, Try.ntmps21
  go_wp2
  go_loopw [3] (fun t wr => ∃ k : Nat, k ≤ l.length ∧ t = .int .i64 k ∧ Hid (KPre l k) ∧ Hid (Below w.heap.size w wr)) (fun t _ => l.length - (intOf t).toNat)
  case atStart => exact ⟨0, by omega, rfl, hide (KPre.zero l), hide (Below.refl _ _)⟩
  case round =>
    obtain ⟨k, hk, rfl, hA, hw⟩ := hrel
    by_cases hlt : k < l.length
    · obtain ⟨b, o, s, i, rfl, hx, hbl, c0, c1⟩ := kys_at (unhide hk') (unhide hw) hlt
      have hx' := hide hx
      clear hx hbl
      by_cases f0 : FrOk s
      · have hS := (decide_eq_true f0)
        by_cases f1 : FrOk i
        · have hI := (decide_eq_true f1)
          have hK := hide (show KOk (s, i) from ⟨f0, f1⟩)
          clear f0 f1
          by_cases k0 : k = 0
          · have g0 : decide (0 < k) = false := by simp; omega
            have hnew := hide ((unhide hA).step (unhide hx') (unhide hK) (fun i y h => by omega))
            clear hA k0
            go_wp2_with fail
            go_quiet ((go_at_call 39; exact Calls.quiet_of_same (sfr_any _ _ _ rfl)))
            go_wp2
            go_roundw
            case rel => exact ⟨k + 1, by omega, by go_num, hnew, hide ((below_drewN (unhide hw) _))⟩
            case measure => simp [intOf]; omega
          · obtain ⟨m, hm⟩ : ∃ m, k = m + 1 := ⟨k - 1, by omega⟩
            obtain ⟨b', o', s', i', hb', hy, hbl', d0, d1⟩ := kys_at (unhide hk') (unhide hw) (show m < l.length by omega)
            injection hb' with hb'
            injection hb' with hb1 hb2
            subst hb1 hb2
            have hy' := hide hy
            have em : IntKind.i64.wrap ((k : Int) - 1) = (m : Int) := by rw [IntKind.wrap_i64]; omega
            have g0 : decide (0 < k) = true := by simp; omega
            have em2 : (m : Int) < l.length := by omega
            have em3 : (0 : Int) ≤ (m : Int) := by omega
            have hm' := hide hm
            clear hy hbl' d1 hm k0
            by_cases hr : s' < s
            · have hr' : decide (s ≤ s') = false := by simp; omega
              have hnew := hide ((unhide hA).step (unhide hx') (unhide hK) (fun i y h hy => by
                obtain rfl : i = m := by have := unhide hm'; omega
                rw [unhide hy'] at hy
                injection hy with hy
                subst hy
                exact hr))
              clear hA hr
              go_wp2_with fail
              go_quiet ((go_at_call 39; exact Calls.quiet_of_same (sfr_any _ _ _ rfl)))
              go_wp2
              go_roundw
              case rel => exact ⟨k + 1, by omega, by go_num, hnew, hide ((below_drewN (unhide hw) _))⟩
              case measure => simp [intOf]; omega
            · have hr' : decide (s ≤ s') = true := by simp; omega
              have hno : v = false := by cases v with | false => rfl | true => exact absurd ((unhide hv').1 rfl) (ksno_rise (unhide hy') (by rw [← unhide hm']; exact unhide hx') (by simp only; omega))
              subst hno
              clear hA hr
              go_wp2_with fail
              go_quiet ((go_at_call 39; exact Calls.quiet_of_same (sfr_any _ _ _ rfl)))
              go_wp2
              go_ret
              exact ⟨rfl, (below_drewN (unhide hw) _)⟩
        · have hI := (decide_eq_false f1)
          have hno : v = false := by cases v with | false => rfl | true => exact absurd ((unhide hv').1 rfl) (ksno_key (unhide hx') (fun h => f1 h.2))
          subst hno
          clear f0 f1 hA
          go_wp2_with fail
          go_quiet ((go_at_call 39; exact Calls.quiet_of_same (sfr_any _ _ _ rfl)))
          go_wp2
          go_ret
          exact ⟨rfl, (below_drewN (unhide hw) _)⟩
      · have hS := (decide_eq_false f0)
        have hno : v = false := by cases v with | false => rfl | true => exact absurd ((unhide hv').1 rfl) (ksno_key (unhide hx') (fun h => f0 h.1))
        subst hno
        clear f0 hA
        go_wp2_with fail
        go_quiet ((go_at_call 39; exact Calls.quiet_of_same (sfr_any _ _ _ rfl)))
        go_wp2
        go_ret
        exact ⟨rfl, (below_drewN (unhide hw) _)⟩
    · have hke : k = l.length := by omega
      have hyes : v = true := (unhide hv').2 ⟨h1', h2', by have := unhide hA; rw [hke] at this; exact this⟩
      subst hyes
      clear hA
      go_wp2
      go_ret
      exact ⟨rfl, unhide hw⟩

end Go.Proofs.Ytbmkbhondlecaaa.Y
