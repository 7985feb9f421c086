/-
  Contracts of Sync, the model's and the program's: each gives the best lag; nothing is written.
-/
import Derived.Test.YtibeipcfokngjaaSyP
import Derived.Outline
namespace Go.Proofs.Ytibeipcfokngjaa
open Go.RowKit
set_option linter.unusedVariables false
set_option linter.unusedSimpArgs false

set_option maxHeartbeats 400000 in
theorem isnan_any (x : Nat) (w : World) : Calls Try.prog 50 #[.float .f64 x] w fun e w' => e = .returned (.bool (FloatKind.f64.format.order x x != some .eq)) ∧ w' = w := by
  go_enter Try.func50, Try.ntmps50
  go_wp2
  go_ret
  exact ⟨rfl, rfl⟩

set_option maxHeartbeats 800000 in
theorem greater_any (x t : Nat) (w : World) : Calls Try.prog 46 #[.float .f64 x, .float .f64 t] w fun e w' => e = .returned (.bool (gr x t)) ∧ w' = w := by
  rcases gr_ways x t with ⟨h1, h2⟩ | ⟨h1, h2, h3, h4⟩ | ⟨h1, h2, h3, h4⟩ | ⟨h1, h2, h3, h4⟩ | ⟨h1, h2, h3, h4⟩
  · rw [h2]
    go_enter Try.func46, Try.ntmps46
    go_wp2
    go_ret
    exact ⟨rfl, rfl⟩
  all_goals
    rw [h4]
    clear h4
    go_enter Try.func46, Try.ntmps46
    go_wp2
    go_ret
    exact ⟨rfl, rfl⟩
theorem greater_yes (x t : Nat) (h : gr x t = true) (w : World) : Calls Try.prog 46 #[.float .f64 x, .float .f64 t] w fun e w' => e = .returned (.bool true) ∧ w' = w := by
  rw [← h]; exact greater_any x t w
theorem greater_no (x t : Nat) (h : gr x t = false) (w : World) : Calls Try.prog 46 #[.float .f64 x, .float .f64 t] w fun e w' => e = .returned (.bool false) ∧ w' = w := by
  rw [← h]; exact greater_any x t w

theorem SyC.take {l m : List Nat} {i : Nat} {b : Int} {t x : Nat} (h : SyC l m i b t) (hx : AgV l m (lagAt i) x) (hg : gr x t = true) : SyC l m (i + 1) (lagAt i) x := ⟨b, t, x, h, hx, .inl ⟨hg, rfl, rfl⟩⟩
theorem SyC.leave {l m : List Nat} {i : Nat} {b : Int} {t x : Nat} (h : SyC l m i b t) (hx : AgV l m (lagAt i) x) (hg : gr x t = false) : SyC l m (i + 1) b t := ⟨b, t, x, h, hx, .inr ⟨hg, rfl, rfl⟩⟩

theorem carryF {W w : World} {a : Option Addr} {l : List Nat} (h : Fls false 0 W.heap.size W a l) (hb : Below W.heap.size W w) : Fls false 0 w.heap.size w a l := (h.below hb (Nat.le_refl _)).mono (Nat.le_refl _) hb.size

set_option maxHeartbeats 1600000 in
theorem ssync_yes (a b : Option Addr) (ca cb : Nat) (l m : List Nat) (n : Nat) (w : World) (l1 : l.length ≤ 4096) (m1 : m.length ≤ 4096) (hn : n ≤ 64) (ha : Fls false 0 w.heap.size w a l) (hb : Fls false 0 w.heap.size w b m) :
    Calls Try.prog 34 #[.slice a l.length ca, .slice b m.length cb, .int .i64 n] w fun e w' => ∃ r, e = .returned (.int .i64 r) ∧ (∃ t, SyC l m (2 * n) r t) ∧ Below w.heap.size w w' := by
  have ha' := hide ha
  have hb' := hide hb
  clear ha hb
  have x1 : decide ((4096 : Int) < l.length) = false := by simp; omega
  have x2 : decide ((4096 : Int) < m.length) = false := by simp; omega
  go_enter Try.func34, Try.ntmps34
  go_wp2_with fail
  refine (in_yes n _ _ ⟨by omega, by omega⟩ _).mono ?_
  rintro e w ⟨rfl, rfl⟩
  go_wp2_with fail
  refine (sagree_any a b ca cb l m 0 _ (by omega) (by omega) (unhide ha') (unhide hb')).mono ?_
  rintro e w1 ⟨v, rfl, hv, k1⟩
  have h0 : Hid (SyC l m 0 0 v) := hide ⟨rfl, hv⟩
  have H1 := hide k1
  clear hv k1
  go_wp2
  go_loopw [7, 8, 9] (fun s t u wr => ∃ (k v : Nat) (r : Int), k ≤ n ∧ u = .int .i64 (k + 1) ∧ s = .int .i64 r ∧ t = .float .f64 v ∧ Hid (SyC l m (2 * k) r v) ∧ Hid (Below w.heap.size w wr)) (fun _ _ u _ => 100 - (intOf u).toNat)
  case atStart => exact ⟨0, v, 0, by omega, by go_num, rfl, rfl, h0, H1⟩
  case round =>
    clear h0 H1
    obtain ⟨k, v0, r0, hk, rfl, rfl, rfl, hsy, hw⟩ := hrel
    by_cases hlt : k < n
    · have hdec : decide ((k : Int) + 1 ≤ n) = true := by simp; omega
      go_wp2
      go_loopw [7, 8, 10] (fun s t u wq => ∃ (j v : Nat) (r : Int), j ≤ 2 ∧ u = .int .i64 j ∧ s = .int .i64 r ∧ t = .float .f64 v ∧ Hid (SyC l m (2 * k + j) r v) ∧ Hid (Below w.heap.size w wq)) (fun _ _ u _ => 2 - (intOf u).toNat)
      case atStart => exact ⟨0, v0, r0, by omega, rfl, rfl, rfl, hsy, hw⟩
      case round =>
        clear hsy hw
        obtain ⟨j, v, r, hj, rfl, rfl, rfl, hsy, hw⟩ := hrel
        by_cases hj2 : j < 2
        · go_upto_region 11 with fail
          go_cut [11] from 34 to 62 (fun s wx => ∃ L : Int, s = .int .i64 L ∧ Hid (L = lagAt (2 * k + j)) ∧ wx = wr)
          case first =>
            have hja : j = 0 ∨ j = 1 := by omega
            rcases hja with rfl | rfl
            · go_wp2
              go_meet
              exact ⟨_, rfl, hide (lagAt_even k).symm, rfl⟩
            · go_wp2
              go_meet
              exact ⟨_, rfl, hide (by rw [lagAt_odd k]; omega), rfl⟩
          case rest =>
            obtain ⟨L, h11, hL, hwc⟩ := hcut
            subst h11 hwc
            go_wp2_with fail
            refine (sagree_any a b ca cb l m L _ (by omega) (by omega) (carryF (unhide ha') (unhide hw)) (carryF (unhide hb') (unhide hw))).mono ?_
            rintro e w2 ⟨x, rfl, hx, k2⟩
            have hw2 := hide ((unhide hw).trans (k2.mono (unhide hw).size))
            have hx' := hide (show AgV l m (lagAt (2 * k + j)) x by rw [← unhide hL]; exact hx)
            clear hx k2 hw
            rcases gr_ways x v with ⟨h1, h4⟩ | ⟨h1, h2, h3, h4⟩ | ⟨h1, h2, h3, h4⟩ | ⟨h1, h2, h3, h4⟩ | ⟨h1, h2, h3, h4⟩
            · have hT := hide ((unhide hsy).take (unhide hx') h4)
              clear h4 hsy hx'
              go_wp2
              go_roundw
              case rel => exact ⟨j + 1, _, _, by omega, by go_num, rfl, rfl, by have := unhide hT; rw [← unhide hL] at this; exact hide this, hw2⟩
              case measure => simp [intOf]; omega
            · have hT := hide ((unhide hsy).leave (unhide hx') h4)
              clear h4 hsy hx'
              go_wp2
              go_roundw
              case rel => exact ⟨j + 1, _, _, by omega, by go_num, rfl, rfl, hT, hw2⟩
              case measure => simp [intOf]; omega
            · have hT := hide ((unhide hsy).take (unhide hx') h4)
              clear h4 hsy hx'
              go_wp2
              go_roundw
              case rel => exact ⟨j + 1, _, _, by omega, by go_num, rfl, rfl, by have := unhide hT; rw [← unhide hL] at this; exact hide this, hw2⟩
              case measure => simp [intOf]; omega
            · have hT := hide ((unhide hsy).leave (unhide hx') h4)
              clear h4 hsy hx'
              go_wp2
              go_roundw
              case rel => exact ⟨j + 1, _, _, by omega, by go_num, rfl, rfl, hT, hw2⟩
              case measure => simp [intOf]; omega
            · have hT := hide ((unhide hsy).leave (unhide hx') h4)
              clear h4 hsy hx'
              go_wp2
              go_roundw
              case rel => exact ⟨j + 1, _, _, by omega, by go_num, rfl, rfl, hT, hw2⟩
              case measure => simp [intOf]; omega
        · have hje : j = 2 := by omega
          have hsy2 : Hid (SyC l m (2 * (k + 1)) r v) := hide (by have := unhide hsy; rw [hje] at this; exact this)
          have hj' := hide hje
          have hj3 : ¬ (j : Int) < 2 := by omega
          clear hsy hje
          go_wp2
          go_roundw
          case rel => exact ⟨k + 1, v, r, by omega, by go_num, rfl, rfl, hsy2, hw⟩
          case measure => simp [intOf]; omega
    · have hke : k = n := by omega
      have hsy2 : Hid (SyC l m (2 * n) r0 v0) := hide (by have := unhide hsy; rw [hke] at this; exact this)
      clear hsy
      go_wp2
      go_ret
      exact ⟨_, rfl, ⟨_, unhide hsy2⟩, unhide hw⟩

set_option maxHeartbeats 800000 in
theorem ssync_no (a b : Option Addr) (ca cb : Nat) (l m : List Nat) (lag : Int) (w : World) (hl : l.length ≤ 1048576) (hm : m.length ≤ 1048576) (hok : ¬ SyOk l m lag) :
    Calls Try.prog 34 #[.slice a l.length ca, .slice b m.length cb, .int .i64 lag] w fun e w' => e = .returned (.int .i64 0) ∧ Below w.heap.size w w' := by
  by_cases h1 : (4096 : Int) < l.length
  · have x1 : decide ((4096 : Int) < l.length) = true := by simpa using h1
    have hok' := hide hok
    clear hok
    go_enter Try.func34, Try.ntmps34
    go_wp2
    go_ret
    exact ⟨rfl, Below.refl _ _⟩
  · have x1 : decide ((4096 : Int) < l.length) = false := by simpa using h1
    by_cases h2 : (4096 : Int) < m.length
    · have x2 : decide ((4096 : Int) < m.length) = true := by simpa using h2
      have hok' := hide hok
      clear hok
      go_enter Try.func34, Try.ntmps34
      go_wp2
      go_ret
      exact ⟨rfl, Below.refl _ _⟩
    · have x2 : decide ((4096 : Int) < m.length) = false := by simpa using h2
      have h3 : ¬ (0 ≤ lag ∧ lag ≤ 64) := fun h => hok ⟨by omega, by omega, h.1, h.2⟩
      have h3' := hide h3
      have hok' := hide hok
      clear hok h3
      go_enter Try.func34, Try.ntmps34
      go_wp2_with fail
      refine (in_no lag _ _ (unhide h3') _).mono ?_
      rintro e w ⟨rfl, rfl⟩
      go_wp2
      go_ret
      exact ⟨rfl, Below.refl _ _⟩

theorem ssync_any (a b : Option Addr) (ca cb : Nat) (l m : List Nat) (lag : Int) (w : World) (hl : l.length ≤ 1048576) (hm : m.length ≤ 1048576) (ha : Fls false 0 w.heap.size w a l) (hb : Fls false 0 w.heap.size w b m) :
    Calls Try.prog 34 #[.slice a l.length ca, .slice b m.length cb, .int .i64 lag] w fun e w' => ∃ v, e = .returned (.int .i64 v) ∧ SyV l m lag v ∧ Below w.heap.size w w' := by
  by_cases hok : SyOk l m lag
  · have hok' := hok
    obtain ⟨l1, m1, g0, g1⟩ := hok
    obtain ⟨n, rfl⟩ := Int.eq_ofNat_of_zero_le g0
    exact (ssync_yes a b ca cb l m n w l1 m1 (by omega) ha hb).mono fun e w' ⟨v, h1, h2, h3⟩ => ⟨v, h1, .inl ⟨hok', by rw [Int.toNat_natCast]; exact h2⟩, h3⟩
  · exact (ssync_no a b ca cb l m lag w hl hm hok).mono fun e w' ⟨h1, h3⟩ => ⟨0, h1, .inr ⟨hok, rfl⟩, h3⟩

end Go.Proofs.Ytibeipcfokngjaa
