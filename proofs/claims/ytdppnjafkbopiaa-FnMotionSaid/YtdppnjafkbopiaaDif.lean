/-
  Contract of the differences of two blocks; nothing that was there is written.
-/
import Derived.Test.YtdppnjafkbopiaaMo3
namespace Go.Proofs.Ytdppnjafkbopiaa
open Go.RowKit
set_option linter.unusedVariables false
set_option linter.unusedSimpArgs false

set_option maxHeartbeats 3200000 in
theorem dif_any (f g : Nat → Int) (w : World) (hf : ∀ i, Px8 (f i)) (hg : ∀ i, Px8 (g i)) :
    Calls Try.prog 25 #[sqv f, sqv g] w fun e w' => e = .returned (.int .i64 (dif f g 16)) ∧ Below w.heap.size w w' := by
  have hf' := hide hf
  have hg' := hide hg
  have hd' := hide (fun k => dif_bd hf hg k)
  clear hf hg
  go_enter Try.func25, Try.ntmps25
  go_wp2
  have k0 := Bk.new (w.alloc (.cells #[.int .i64 (f 0), .int .i64 (f 1), .int .i64 (f 2), .int .i64 (f 3), .int .i64 (f 4), .int .i64 (f 5), .int .i64 (f 6), .int .i64 (f 7), .int .i64 (f 8), .int .i64 (f 9), .int .i64 (f 10), .int .i64 (f 11), .int .i64 (f 12), .int .i64 (f 13), .int .i64 (f 14), .int .i64 (f 15)] 52)) 52 g
  have s1 : (w.alloc (.cells #[.int .i64 (f 0), .int .i64 (f 1), .int .i64 (f 2), .int .i64 (f 3), .int .i64 (f 4), .int .i64 (f 5), .int .i64 (f 6), .int .i64 (f 7), .int .i64 (f 8), .int .i64 (f 9), .int .i64 (f 10), .int .i64 (f 11), .int .i64 (f 12), .int .i64 (f 13), .int .i64 (f 14), .int .i64 (f 15)] 52)).heap.size = w.heap.size + 1 := Deep.nblk_alloc _ _
  rw [s1] at k0
  have b2 := hide (show Below w.heap.size w ((w.alloc (.cells #[.int .i64 (f 0), .int .i64 (f 1), .int .i64 (f 2), .int .i64 (f 3), .int .i64 (f 4), .int .i64 (f 5), .int .i64 (f 6), .int .i64 (f 7), .int .i64 (f 8), .int .i64 (f 9), .int .i64 (f 10), .int .i64 (f 11), .int .i64 (f 12), .int .i64 (f 13), .int .i64 (f 14), .int .i64 (f 15)] 52)).alloc (.cells #[.int .i64 (g 0), .int .i64 (g 1), .int .i64 (g 2), .int .i64 (g 3), .int .i64 (g 4), .int .i64 (g 5), .int .i64 (g 6), .int .i64 (g 7), .int .i64 (g 8), .int .i64 (g 9), .int .i64 (g 10), .int .i64 (g 11), .int .i64 (g 12), .int .i64 (g 13), .int .i64 (g 14), .int .i64 (g 15)] 52)) from ((Below.refl _ _).alloc (Nat.le_refl _) _).alloc (by simp) _)
  have k1 := hide k0
  clear k0 s1
  generalize (w.alloc (.cells #[.int .i64 (f 0), .int .i64 (f 1), .int .i64 (f 2), .int .i64 (f 3), .int .i64 (f 4), .int .i64 (f 5), .int .i64 (f 6), .int .i64 (f 7), .int .i64 (f 8), .int .i64 (f 9), .int .i64 (f 10), .int .i64 (f 11), .int .i64 (f 12), .int .i64 (f 13), .int .i64 (f 14), .int .i64 (f 15)] 52)).alloc (.cells #[.int .i64 (g 0), .int .i64 (g 1), .int .i64 (g 2), .int .i64 (g 3), .int .i64 (g 4), .int .i64 (g 5), .int .i64 (g 6), .int .i64 (g 7), .int .i64 (g 8), .int .i64 (g 9), .int .i64 (g 10), .int .i64 (g 11), .int .i64 (g 12), .int .i64 (g 13), .int .i64 (g 14), .int .i64 (g 15)] 52) = w2 at *
  generalize w.heap.size + 1 = B1 at *
  go_loopw [5, 9] (fun s t wr => ∃ k : Nat, k ≤ 16 ∧ t = .int .i64 k ∧ s = .int .i64 (dif f g k) ∧ Hid (Bk wr B1 52 g) ∧ Hid (Below w.heap.size w wr)) (fun _ t _ => 16 - (intOf t).toNat)
  case atStart => exact ⟨0, by omega, rfl, rfl, k1, b2⟩
  case round =>
    clear k1 b2
    obtain ⟨k, hk, rfl, rfl, hK, hb⟩ := hrel
    by_cases hlt : k < 16
    · have hi := ix16 f k hlt
      have c0 := (unhide hK).at k hlt
      have d0 := unhide hd' k
      have d1 := unhide hf' k
      have d2 := unhide hg' k
      unfold Px8 at d1 d2
      have hs := hide (show dif f g (k + 1) = dif f g k + max (f k - g k) (g k - f k) from rfl)
      generalize dif f g k = D at *
      generalize f k = X at *
      generalize g k = Y at *
      have u0 : (k : Int) < 16 := by omega
      obtain ⟨d01, d02⟩ := d0
      obtain ⟨d11, d12⟩ := d1
      obtain ⟨d21, d22⟩ := d2
      have d03 : D ≤ 4080 := by omega
      clear d02
      go_wp2_with fail
      go_quiet (fail)
      go_wp2
      go_roundw
      case rel => exact ⟨k + 1, by omega, by go_num, by rw [unhide hs], hide ((unhide hK).later (below_drewN (Below.refl _ _) _)), hide (below_drewN (unhide hb) _)⟩
      case measure => simp [intOf]; omega
    · have hke : k = 16 := by omega
      subst hke
      go_wp2
      go_ret
      exact ⟨rfl, unhide hb⟩

end Go.Proofs.Ytdppnjafkbopiaa
