/-
  Contract of the stable sort: sorted parts are merged, parts twice as long each time; all blocks but the list's own stand.
-/
import Derived.Test.YtmpbcmpjfcddoaaSbP
namespace Go.Proofs.Ytmpbcmpjfcddoaa
open Go.RowKit
set_option linter.unusedVariables false
set_option linter.unusedSimpArgs false
namespace D

set_option maxRecDepth 100000 in
set_option maxHeartbeats 6400000 in
theorem stable_any (B gg n cap : Nat) (L : List Kl) (w : World) (hO : Own w B gg n cap L) (hn : n ≤ 1000) : Calls Try.prog 46 #[.slice (some ⟨gg, 0, none⟩) n cap, .int .i64 n, (.func (.func 34) #[] #[])] w fun en w' => en = .returned (.tuple #[]) ∧ ∃ L', Dn w B gg n cap L L' w' ∧ Srtd L' := by
  have hD0 := hide (Dn.start hO)
  clear hO
  go_enter Try.func46, Try.ntmps46
  go_wp2
  go_loopw [7, 8] (fun s t wr => ∃ (q a b : Nat) (L1 : List Kl), a ≤ n ∧ a ≤ b ∧ b ≤ a + 20 ∧ s = .int .i64 a ∧ t = .int .i64 b ∧ Hid (a = q * 20 ∧ b = a + 20) ∧ Hid (Dn w B gg n cap L L1 wr) ∧ Hid (Pre L1 20 q)) (fun _ t _ => n + 20 - (intOf t).toNat)
  case atStart => exact ⟨0, 0, 20, L, by omega, by omega, by omega, rfl, rfl, hide ⟨rfl, rfl⟩, hD0, hide Pre.zero⟩
  case round =>
    clear hD0
    obtain ⟨q, a, b, L1, ha, hab, hba, rfl, rfl, hk, hD, hP⟩ := hrel
    by_cases hbn : b ≤ n
    · have tb : decide ((b : Int) ≤ n) = true := by simp; omega
      have tb' : decide (b ≤ n) = true := by simp; omega
      obtain ⟨b2, hb2⟩ : ∃ b2, b + 20 = b2 := ⟨_, rfl⟩
      have tb2 : IntKind.i64.wrap ((b : Int) + 20) = b2 := by rw [IntKind.wrap_i64]; omega
      have hb2' := hide hb2
      have l1 : b ≤ b2 := by omega
      have l2 : b2 ≤ b + 20 := by omega
      have l3 : b < b2 := by omega
      clear hb2
      go_wp2_with fail
      refine (isort_any B gg n cap a b L1 _ (unhide hD).1 hn hab hbn).mono ?_
      rintro en w6 ⟨rfl, L2, hDr, hOr, hSr⟩
      have hD2 := hide ((unhide hD).next hDr)
      have hP2 : Hid (Pre L2 20 (q + 1)) := hide ((unhide hP).step (unhide hk).1 (unhide hk).2 hOr hSr)
      have hk2 : Hid (b = (q + 1) * 20 ∧ b2 = b + 20) := hide (by have := unhide hk; have := unhide hb2'; omega)
      clear hDr hOr hSr hD hP hk
      go_wp2
      go_roundw
      case rel => exact ⟨q + 1, b, b2, L2, hbn, l1, l2, rfl, rfl, hk2, hD2, hP2⟩
      case measure => simp [intOf]; omega
    have tb : decide ((b : Int) ≤ n) = false := by simp; omega
    have tb' : decide (b ≤ n) = false := by simp; omega
    go_wp2_with fail
    refine (isort_any B gg n cap a n L1 _ (unhide hD).1 hn ha (Nat.le_refl _)).mono ?_
    rintro en w6 ⟨rfl, L2, hDr, hOr, hSr⟩
    have hD2 := hide ((unhide hD).next hDr)
    have hB2 : Hid (Blk L2 20) := hide ((unhide hP).last (unhide hk).1 (by have := unhide hk; omega) hDr.len hOr hSr)
    clear hDr hOr hSr hD hP hk
    go_wp2
    go_loopw [6] (fun s wr => ∃ (z : Nat) (L1 : List Kl), 20 ≤ z ∧ z ≤ 2000 ∧ s = .int .i64 z ∧ Hid (Dn w B gg n cap L L1 wr) ∧ Hid (Blk L1 z)) (fun s _ => n - (intOf s).toNat)
    case atStart => exact ⟨20, L2, by omega, by omega, rfl, hD2, hB2⟩
    case round =>
      clear hD2 hB2
      obtain ⟨z, L3, hz1, hz2, rfl, hD, hB⟩ := hrel
      by_cases hzn : z < n
      rotate_left
      · have tz : decide ((z : Int) < n) = false := by simp; omega
        have tz' : decide (z < n) = false := by simp; omega
        have hS : Hid (Srtd L3) := hide ((unhide hB).done (unhide hD).len (by omega))
        go_wp2
        refine bodyPost_end (results_none rfl _ _ _) rfl ?_
        exact ⟨rfl, L3, unhide hD, unhide hS⟩
      have tz : decide ((z : Int) < n) = true := by simp; omega
      have tz' : decide (z < n) = true := by simp; omega
      obtain ⟨Z, hZ⟩ : ∃ Z, 2 * z = Z := ⟨_, rfl⟩
      have tw : IntKind.i64.wrap (2 * (z : Int)) = Z := by rw [IntKind.wrap_i64]; omega
      have tw' : IntKind.i64.wrap ((z : Int) * 2) = Z := by rw [IntKind.wrap_i64]; omega
      have k1 : Z ≤ 2000 := by omega
      have k2 : 20 ≤ Z := by omega
      have k3 : z < Z := by omega
      have hT : Hid (Two L3 z 0) := hide (Two.zero (unhide hB))
      have hZ' := hide hZ
      clear hZ hB
      go_wp2
      go_loopw [7, 8] (fun s t wr => ∃ (q a b : Nat) (L1 : List Kl), a ≤ n ∧ a < b ∧ b ≤ a + Z ∧ a + z < b ∧ s = .int .i64 a ∧ t = .int .i64 b ∧ Hid (a = q * (2 * z) ∧ b = a + Z) ∧ Hid (Dn w B gg n cap L L1 wr) ∧ Hid (Two L1 z q)) (fun _ t _ => n + Z - (intOf t).toNat)
      case atStart => exact ⟨0, 0, Z, L3, by omega, by omega, by omega, by omega, rfl, rfl, hide ⟨by simp, by simp⟩, hD, hT⟩
      case round =>
        clear hD hT
        obtain ⟨q, a, b, L4, ha, hab, hba, hazb, rfl, rfl, hk, hD, hT⟩ := hrel
        obtain ⟨m, hm⟩ : ∃ m, a + z = m := ⟨_, rfl⟩
        have tm : IntKind.i64.wrap ((a : Int) + z) = m := by rw [IntKind.wrap_i64]; omega
        have g1 : a < m := by omega
        have g2 : m < b := by omega
        have hs1 : Hid (SrtdIn L4 a m) := hide (by rw [← hm]; exact (unhide hT).left (unhide hk).1)
        have hs2 : Hid (SrtdIn L4 m (m + z)) := hide (by rw [← hm]; exact (unhide hT).right (unhide hk).1)
        have hm' := hide hm
        clear hm
        by_cases hbn2 : b ≤ n
        · have tc : decide ((b : Int) ≤ n) = true := by simp; omega
          have tc' : decide (b ≤ n) = true := by simp; omega
          obtain ⟨b2, hb2⟩ : ∃ b2, b + Z = b2 := ⟨_, rfl⟩
          have tb2 : IntKind.i64.wrap ((b : Int) + Z) = b2 := by rw [IntKind.wrap_i64]; omega
          have hb2' := hide hb2
          have l1 : b < b2 := by omega
          have l2 : b2 ≤ b + Z := by omega
          have l3 : b + z < b2 := by omega
          clear hb2
          go_wp2_with fail
          refine (sym_any B gg n cap hn (b - a) a m b L4 _ (Nat.le_refl _) (unhide hD).1 g1 g2 hbn2 (unhide hs1) ((unhide hs2).mono (Nat.le_refl _) (by have := unhide hk; have := unhide hm'; have := unhide hZ'; omega))).mono ?_
          rintro en w7 ⟨rfl, L5, hDr, hOr, hSr, hUr⟩
          have hD5 := hide ((unhide hD).next hDr)
          have hT5 : Hid (Two L5 z (q + 1)) := hide ((unhide hT).step (unhide hk).1 (by have := unhide hk; have := unhide hZ'; omega) hOr hSr)
          have hk5 : Hid (b = (q + 1) * (2 * z) ∧ b2 = b + Z) := hide ⟨by have h1 := unhide hk; have h2 := unhide hZ'; rw [Nat.succ_mul]; omega, (unhide hb2').symm⟩
          clear hDr hOr hSr hUr hD hT hk hs1 hs2 hm'
          go_wp2
          go_roundw
          case rel => exact ⟨q + 1, b, b2, L5, hbn2, l1, l2, l3, rfl, rfl, hk5, hD5, hT5⟩
          case measure => simp [intOf]; omega
        have tc : decide ((b : Int) ≤ n) = false := by simp; omega
        have tc' : decide (b ≤ n) = false := by simp; omega
        by_cases hmn : m < n
        · have td : decide ((m : Int) < n) = true := by simp; omega
          have td' : decide (m < n) = true := by simp; omega
          go_wp2_with fail
          refine (sym_any B gg n cap hn (n - a) a m n L4 _ (Nat.le_refl _) (unhide hD).1 g1 hmn (Nat.le_refl _) (unhide hs1) ((unhide hs2).mono (Nat.le_refl _) (by have := unhide hk; have := unhide hm'; have := unhide hZ'; omega))).mono ?_
          rintro en w7 ⟨rfl, L5, hDr, hOr, hSr, hUr⟩
          have hD5 := hide ((unhide hD).next hDr)
          have hB5 : Hid (Blk L5 Z) := hide (by rw [← unhide hZ']; exact (unhide hT).last (unhide hk).1 (by have := unhide hk; have := unhide hZ'; omega) hDr.len hOr hSr)
          clear hDr hOr hSr hUr hD hT hk hs1 hs2 hm'
          go_wp2
          go_roundw
          case rel => exact ⟨Z, L5, k2, k1, rfl, hD5, hB5⟩
          case measure => simp [intOf]; omega
        · have td : decide ((m : Int) < n) = false := by simp; omega
          have td' : decide (m < n) = false := by simp; omega
          have hB5 : Hid (Blk L4 Z) := hide (by rw [← unhide hZ']; exact (unhide hT).over (unhide hk).1 (by have := unhide hk; have := unhide hZ'; omega) (unhide hD).len (by have := unhide hm'; omega))
          clear hT hk hs1 hs2 hm'
          go_wp2
          go_roundw
          case rel => exact ⟨Z, L4, k2, k1, rfl, hD, hB5⟩
          case measure => simp [intOf]; omega

end D
end Go.Proofs.Ytmpbcmpjfcddoaa
