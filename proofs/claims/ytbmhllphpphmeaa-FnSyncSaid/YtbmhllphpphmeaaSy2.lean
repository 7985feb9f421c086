/-
  Contract of the program's Sync: it gives the best lag; nothing is written.
-/
import Derived.Test.YtbmhllphpphmeaaSy
namespace Go.Proofs.Ytbmhllphpphmeaa
open Go.RowKit
set_option linter.unusedVariables false
set_option linter.unusedSimpArgs false

@[go_sem] theorem run_pair0 (x y : Int) (w : World) : (Instr.index 30 (.agg #[.int .i64 x, .int .i64 y]) (.int .i64 0)).run Try.prog w = .ok (.int .i64 x) w := by kernel_rfl
@[go_sem] theorem run_pair1 (x y : Int) (w : World) : (Instr.index 30 (.agg #[.int .i64 x, .int .i64 y]) (.int .i64 1)).run Try.prog w = .ok (.int .i64 y) w := by kernel_rfl

set_option maxHeartbeats 1600000 in
theorem isync_yes (a b : Option Addr) (ca cb : Nat) (l m : List Nat) (n : Nat) (w : World) (l1 : l.length ≤ 4096) (m1 : m.length ≤ 4096) (hn : n ≤ 64) (ha : Fls false 0 w.heap.size w a l) (hb : Fls false 0 w.heap.size w b m) :
    Calls Try.prog 6 #[.slice a l.length ca, .slice b m.length cb, .int .i64 n] w fun e w' => ∃ r, e = .returned (.int .i64 r) ∧ (∃ t, SyC l m (2 * n) r t) ∧ Below w.heap.size w w' := by
  have ha' := hide ha
  have hb' := hide hb
  clear ha hb
  have x1 : decide ((n : Int) < 0) = false := by simp
  have x2 : decide ((64 : Int) < n) = false := by simp; omega
  go_enter Try.func6, Try.ntmps6
  go_wp2_with fail
  refine (long_no a b ca cb l.length m.length (by omega) (by omega) (by omega) _).mono ?_
  rintro e w ⟨rfl, rfl⟩
  go_wp2_with fail
  refine (iagree_any a b ca cb l m 0 _ (by omega) (by omega) (unhide ha') (unhide hb')).mono ?_
  rintro e w1 ⟨v, rfl, hv, k1⟩
  have h0 : Hid (SyC l m 0 0 v) := hide ⟨rfl, hv⟩
  have H1 := hide k1
  clear hv k1
  go_wp2
  go_loopw [7, 8, 9] (fun s t u wr => ∃ (k v : Nat) (r : Int), k ≤ n ∧ u = .int .i64 (k + 1) ∧ s = .int .i64 r ∧ t = .float .f64 v ∧ Hid (SyC l m (2 * k) r v) ∧ Hid (Below w.heap.size w wr)) (fun _ _ u _ => 100 - (intOf u).toNat)
  case atStart => exact ⟨0, v, 0, by omega, by go_num, rfl, rfl, h0, H1⟩
  case round =>
    clear h0 H1
    obtain ⟨k, v0, r0, hk, rfl, rfl, rfl, hsy, hw⟩ := hrel
    by_cases hlt : k < n
    · have hdec : decide ((k : Int) + 1 ≤ n) = true := by simp; omega
      go_wp2
      go_loopw [7, 8, 36] (fun s t u wq => ∃ (j v : Nat) (r : Int), j ≤ 2 ∧ u = .int .i64 j ∧ s = .int .i64 r ∧ t = .float .f64 v ∧ Hid (SyC l m (2 * k + j) r v) ∧ Hid (Below w.heap.size w wq)) (fun _ _ u _ => 2 - (intOf u).toNat)
      case atStart => exact ⟨0, v0, r0, by omega, rfl, rfl, rfl, hsy, hw⟩
      case round =>
        clear hsy hw
        obtain ⟨j, v, r, hj, rfl, rfl, rfl, hsy, hw⟩ := hrel
        by_cases hj2 : j < 2
        · go_upto_region 9 with fail
          go_cut [11] from 38 to 47 (fun s wx => ∃ L : Int, s = .int .i64 L ∧ Hid (L = lagAt (2 * k + j)) ∧ wx = wr)
          case first =>
            have hja : j = 0 ∨ j = 1 := by omega
            rcases hja with rfl | rfl
            · go_wp2
              go_meet
              exact ⟨_, rfl, hide (lagAt_even k).symm, rfl⟩
            · go_wp2
              go_meet
              exact ⟨_, rfl, hide (by rw [lagAt_odd k]), rfl⟩
          case rest =>
            obtain ⟨L, h11, hL, hwc⟩ := hcut
            subst h11 hwc
            go_wp2_with fail
            refine (iagree_any a b ca cb l m L _ (by omega) (by omega) (carryF (unhide ha') (unhide hw)) (carryF (unhide hb') (unhide hw))).mono ?_
            rintro e w2 ⟨x, rfl, hx, k2⟩
            have hw2 := hide ((unhide hw).trans (k2.mono (unhide hw).size))
            have hx' := hide (show AgV l m (lagAt (2 * k + j)) x by rw [← unhide hL]; exact hx)
            clear hx k2 hw
            by_cases h4 : gr x v = true
            · have hT := hide ((unhide hsy).take (unhide hx') h4)
              have h4' := hide h4
              clear h4 hsy hx'
              go_wp2_with fail
              refine (greater_yes x v (unhide h4') _).mono ?_
              rintro e w2 ⟨rfl, rfl⟩
              go_wp2
              go_roundw
              case rel => exact ⟨j + 1, _, _, by omega, by go_num, rfl, rfl, by have := unhide hT; rw [← unhide hL] at this; exact hide this, hw2⟩
              case measure => simp [intOf]; omega
            · have h5 : gr x v = false := by simpa using h4
              have hT := hide ((unhide hsy).leave (unhide hx') h5)
              have h5' := hide h5
              clear h4 h5 hsy hx'
              go_wp2_with fail
              refine (greater_no x v (unhide h5') _).mono ?_
              rintro e w2 ⟨rfl, rfl⟩
              go_wp2
              go_roundw
              case rel => exact ⟨j + 1, _, _, by omega, by go_num, rfl, rfl, hT, hw2⟩
              case measure => simp [intOf]; omega
        · have hje : j = 2 := by omega
          have hsy2 : Hid (SyC l m (2 * (k + 1)) r v) := hide (by have := unhide hsy; rw [hje] at this; exact this)
          have hj' := hide hje
          have hj3 : ¬ (j : Int) < 2 := by omega
          clear hsy hje
          go_wp2
          go_roundw
          case rel => exact ⟨k + 1, v, r, by omega, by go_num, rfl, rfl, hsy2, hw⟩
          case measure => simp [intOf]; omega
    · have hke : k = n := by omega
      have hsy2 : Hid (SyC l m (2 * n) r0 v0) := hide (by have := unhide hsy; rw [hke] at this; exact this)
      clear hsy
      go_wp2
      go_ret
      exact ⟨_, rfl, ⟨_, unhide hsy2⟩, unhide hw⟩


set_option maxHeartbeats 800000 in
theorem isync_no (a b : Option Addr) (ca cb : Nat) (l m : List Nat) (lag : Int) (w : World) (hl : l.length ≤ 1048576) (hm : m.length ≤ 1048576) (hok : ¬ SyOk l m lag) :
    Calls Try.prog 6 #[.slice a l.length ca, .slice b m.length cb, .int .i64 lag] w fun e w' => e = .returned (.int .i64 0) ∧ Below w.heap.size w w' := by
  by_cases h1 : 4096 < l.length ∨ 4096 < m.length
  · have h1' := hide h1
    have hok' := hide hok
    clear hok h1
    go_enter Try.func6, Try.ntmps6
    go_wp2_with fail
    refine (long_yes a b ca cb l.length m.length hl hm (unhide h1') _).mono ?_
    rintro e w ⟨rfl, rfl⟩
    go_wp2
    go_ret
    exact ⟨rfl, Below.refl _ _⟩
  · have h3 : ¬ (0 ≤ lag ∧ lag ≤ 64) := fun h => hok ⟨by omega, by omega, h.1, h.2⟩
    have h1' := hide h1
    have hok' := hide hok
    clear hok h1
    by_cases h4 : lag < 0
    · have x1 : decide (lag < 0) = true := by simpa using h4
      go_enter Try.func6, Try.ntmps6
      go_wp2_with fail
      refine (long_no a b ca cb l.length m.length hl hm (unhide h1') _).mono ?_
      rintro e w ⟨rfl, rfl⟩
      go_wp2
      go_ret
      exact ⟨rfl, Below.refl _ _⟩
    · have x1 : decide (lag < 0) = false := by simpa using h4
      have h5 : 64 < lag := by omega
      have x2 : decide (64 < lag) = true := by simpa using h5
      clear h3
      go_enter Try.func6, Try.ntmps6
      go_wp2_with fail
      refine (long_no a b ca cb l.length m.length hl hm (unhide h1') _).mono ?_
      rintro e w ⟨rfl, rfl⟩
      go_wp2
      go_ret
      exact ⟨rfl, Below.refl _ _⟩

theorem isync_any (a b : Option Addr) (ca cb : Nat) (l m : List Nat) (lag : Int) (w : World) (hl : l.length ≤ 1048576) (hm : m.length ≤ 1048576) (ha : Fls false 0 w.heap.size w a l) (hb : Fls false 0 w.heap.size w b m) :
    Calls Try.prog 6 #[.slice a l.length ca, .slice b m.length cb, .int .i64 lag] w fun e w' => ∃ v, e = .returned (.int .i64 v) ∧ SyV l m lag v ∧ Below w.heap.size w w' := by
  by_cases hok : SyOk l m lag
  · have hok' := hok
    obtain ⟨l1, m1, g0, g1⟩ := hok
    obtain ⟨n, rfl⟩ := Int.eq_ofNat_of_zero_le g0
    exact (isync_yes a b ca cb l m n w l1 m1 (by omega) ha hb).mono fun e w' ⟨v, h1, h2, h3⟩ => ⟨v, h1, .inl ⟨hok', by rw [Int.toNat_natCast]; exact h2⟩, h3⟩
  · exact (isync_no a b ca cb l m lag w hl hm hok).mono fun e w' ⟨h1, h3⟩ => ⟨0, h1, .inr ⟨hok, rfl⟩, h3⟩

end Go.Proofs.Ytbmhllphpphmeaa
