/-
  Contract of the program's Agree; nothing is written.
-/
import Derived.Test.YtbmhllphpphmeaaAg
import Derived.Outline
namespace Go.Proofs.Ytbmhllphpphmeaa
open Go.RowKit
set_option linter.unusedVariables false
set_option linter.unusedSimpArgs false

set_option maxHeartbeats 1600000 in
theorem iagree_yes (a b : Option Addr) (ca cb : Nat) (l m : List Nat) (lag : Int) (w : World) (hok : AgOk l m lag) (ha : Fls false 0 w.heap.size w a l) (hb : Fls false 0 w.heap.size w b m) :
    Calls Try.prog 7 #[.slice a l.length ca, .slice b m.length cb, .int .i64 lag] w fun e w' => ∃ v, e = .returned (.float .f64 v) ∧ AgC l m lag l.length v ∧ Below w.heap.size w w' := by
  obtain ⟨l1, m1, g0, g1⟩ := hok
  have ha' := hide ha
  have hb' := hide hb
  clear ha hb
  have x1 : decide (lag < -4096) = false := by simp; omega
  have x2 : decide (4096 < lag) = false := by simp; omega
  go_enter Try.func7, Try.ntmps7
  go_wp2_with fail
  refine (long_no a b ca cb l.length m.length (by omega) (by omega) (by omega) _).mono ?_
  rintro e w ⟨rfl, rfl⟩
  go_upto_region 4 with fail
  go_cut [8] from 21 (fun e wx => ∃ E : Int, e = .int .i64 E ∧ (E ≤ l.length ∧ E ≤ m.length - lag ∧ (E = l.length ∨ E = m.length - lag)) ∧ wx = w)
  case first =>
    go_wp2
    all_goals
      go_meet
      exact ⟨_, rfl, ⟨by omega, by omega, by omega⟩, rfl⟩
  case rest =>
   obtain ⟨E, h8, ⟨e1, e2, e3⟩, hwc⟩ := hcut
   subst h8 hwc
   have e3' := hide e3
   clear e3
   go_upto_region 5 with fail
   go_cut [9] from 21 (fun s wx => ∃ S : Int, s = .int .i64 S ∧ (0 ≤ S ∧ -lag ≤ S ∧ (S = 0 ∨ S = -lag)) ∧ wx = wc)
   case first =>
    go_wp2
    all_goals
      go_meet
      exact ⟨_, rfl, ⟨by omega, by omega, by omega⟩, rfl⟩
   case rest =>
    obtain ⟨S, h9, ⟨s1, s2, s3⟩, hwc⟩ := hcut
    subst h9 hwc
    obtain ⟨n, rfl⟩ := Int.eq_ofNat_of_zero_le s1
    have hS : Hid (AgC l m lag n 0 ∧ ((n : Int) ≤ l.length ∨ (l.length : Int) ≤ -lag)) := hide ⟨by
      rcases s3 with h | h
      · have h0 : n = 0 := by omega
        rw [h0]; exact AgC.zero _ _ _
      · exact AgC.low (by omega), by omega⟩
    have hn9 : n ≤ 9000 := by omega
    have s3' := hide s3
    clear s3
    go_wp2
    go_loopw [7, 9] (fun s t wr => ∃ (k v : Nat), t = .int .i64 k ∧ s = .float .f64 v ∧ Hid (AgC l m lag k v) ∧ (k ≤ 9000) ∧ Hid ((k : Int) ≤ l.length ∨ ((l.length : Int) ≤ -lag ∧ v = 0)) ∧ 0 ≤ (k : Int) + lag ∧ Below wc.heap.size wc wr) (fun _ t _ => 10000 - (intOf t).toNat)
    case atStart =>
      refine ⟨n, 0, rfl, rfl, hide (unhide hS).1, by omega, hide ?_, by omega, Below.refl _ _⟩
      rcases (unhide hS).2 with h | h
      · exact .inl h
      · exact .inr ⟨h, rfl⟩
    case round =>
      clear hS
      obtain ⟨k, v, rfl, rfl, hag, hk, hor, hc, hw⟩ := hrel
      by_cases hlt : (k : Int) < E
      · have hlt1 : k < l.length := by omega
        have hd : (k : Int) + lag < m.length := by omega
        obtain ⟨b1, o1, rfl, i1, c0⟩ := fls_get (unhide ha') hlt1
        obtain ⟨q, hq⟩ := Int.eq_ofNat_of_zero_le hc
        have hqm : q < m.length := by omega
        obtain ⟨b2, o2, rfl, i2, e0⟩ := fls_get (unhide hb') hqm
        have hstep : Hid (∀ p v', Res .mul (l.getD k 0) (m.getD q 0) p → Res .add v p v' → AgC l m lag (k + 1) v') := hide fun p v' h1 h2 => (unhide hag).yes hc hd (by rw [hq, Int.toNat_natCast]; exact h1) h2
        generalize l.getD k 0 = x at *
        generalize m.getD q 0 = y at *
        have c1 : wr.cell? ⟨b1, o1 + k, none⟩ = some (.float .f64 x) := by rw [(bcell hw).1 _ _ i1]; exact c0
        have e1 : wr.cell? ⟨b2, o2 + q, none⟩ = some (.float .f64 y) := by rw [(bcell hw).1 _ _ i2]; exact e0
        have hw' := hide hw
        clear hw c0 e0
        go_wp2
        go_region
        all_goals
          go_wp2
          go_roundw
          case rel => exact ⟨k + 1, _, by go_num, rfl, hide (unhide hstep _ _ (fv_res _ _ _ _) (fv_res _ _ _ _)), by omega, hide (.inl (by omega)), by omega, below_drewN (unhide hw') _⟩
          case measure => simp [intOf]; omega
      · have hfin : Hid (AgC l m lag l.length v) := hide (by
          rcases unhide hor with h | ⟨h, hv⟩
          · refine (unhide hag).fin (by omega) ?_
            have := unhide e3'
            omega
          · rw [hv]; exact AgC.low h)
        go_wp2
        go_ret
        exact ⟨_, rfl, unhide hfin, hw⟩

set_option maxHeartbeats 800000 in
theorem iagree_no (a b : Option Addr) (ca cb : Nat) (l m : List Nat) (lag : Int) (w : World) (hl : l.length ≤ 1048576) (hm : m.length ≤ 1048576) (hok : ¬ AgOk l m lag) :
    Calls Try.prog 7 #[.slice a l.length ca, .slice b m.length cb, .int .i64 lag] w fun e w' => e = .returned (.float .f64 0) ∧ Below w.heap.size w w' := by
  by_cases h1 : 4096 < l.length ∨ 4096 < m.length
  · have h1' := hide h1
    have hok' := hide hok
    clear hok h1
    go_enter Try.func7, Try.ntmps7
    go_wp2_with fail
    refine (long_yes a b ca cb l.length m.length hl hm (unhide h1') _).mono ?_
    rintro e w ⟨rfl, rfl⟩
    go_wp2
    go_ret
    exact ⟨rfl, Below.refl _ _⟩
  · have h3 : ¬ (-4096 ≤ lag ∧ lag ≤ 4096) := fun h => hok ⟨by omega, by omega, h.1, h.2⟩
    have h1' := hide h1
    have hok' := hide hok
    clear hok h1
    by_cases h4 : lag < -4096
    · have x1 : decide (lag < -4096) = true := by simpa using h4
      go_enter Try.func7, Try.ntmps7
      go_wp2_with fail
      refine (long_no a b ca cb l.length m.length hl hm (unhide h1') _).mono ?_
      rintro e w ⟨rfl, rfl⟩
      go_wp2
      go_ret
      exact ⟨rfl, Below.refl _ _⟩
    · have x1 : decide (lag < -4096) = false := by simpa using h4
      have h5 : 4096 < lag := by omega
      have x2 : decide (4096 < lag) = true := by simpa using h5
      clear h3
      go_enter Try.func7, Try.ntmps7
      go_wp2_with fail
      refine (long_no a b ca cb l.length m.length hl hm (unhide h1') _).mono ?_
      rintro e w ⟨rfl, rfl⟩
      go_wp2
      go_ret
      exact ⟨rfl, Below.refl _ _⟩

theorem iagree_any (a b : Option Addr) (ca cb : Nat) (l m : List Nat) (lag : Int) (w : World) (hl : l.length ≤ 1048576) (hm : m.length ≤ 1048576) (ha : Fls false 0 w.heap.size w a l) (hb : Fls false 0 w.heap.size w b m) :
    Calls Try.prog 7 #[.slice a l.length ca, .slice b m.length cb, .int .i64 lag] w fun e w' => ∃ v, e = .returned (.float .f64 v) ∧ AgV l m lag v ∧ Below w.heap.size w w' := by
  by_cases hok : AgOk l m lag
  · exact (iagree_yes a b ca cb l m lag w hok ha hb).mono fun e w' ⟨v, h1, h2, h3⟩ => ⟨v, h1, .inl ⟨hok, h2⟩, h3⟩
  · exact (iagree_no a b ca cb l m lag w hl hm hok).mono fun e w' ⟨h1, h3⟩ => ⟨0, h1, .inr ⟨hok, rfl⟩, h3⟩

end Go.Proofs.Ytbmhllphpphmeaa
