/-
  Contracts of Agree, the model's and the program's: each gives the sum; nothing is written.
-/
import Derived.Test.YtibeipcfokngjaaAgP
import Derived.Deep.CutRange
import Derived.Deep.CutBlock
namespace Go.Proofs.Ytibeipcfokngjaa
open Go.RowKit
set_option linter.unusedVariables false
set_option linter.unusedSimpArgs false

set_option maxHeartbeats 400000 in
theorem in_any (x lo hi : Int) (w : World) : Calls Try.prog 44 #[.int .i64 x, .int .i64 lo, .int .i64 hi] w fun e w' => e = .returned (.bool (decide (lo ≤ x ∧ x ≤ hi))) ∧ w' = w := by
  by_cases h1 : lo ≤ x
  · go_enter Try.func44, Try.ntmps44
    go_wp2
    go_ret
    refine ⟨ret_bool ?_, rfl⟩
    simp [h1]
  · go_enter Try.func44, Try.ntmps44
    go_wp2
    go_ret
    refine ⟨ret_bool ?_, rfl⟩
    simp; omega
set_option maxHeartbeats 400000 in
theorem in_yes (x lo hi : Int) (h : lo ≤ x ∧ x ≤ hi) (w : World) : Calls Try.prog 44 #[.int .i64 x, .int .i64 lo, .int .i64 hi] w fun e w' => e = .returned (.bool true) ∧ w' = w :=
  (in_any x lo hi w).mono fun e w' ⟨h1, h2⟩ => ⟨by rw [h1]; simp [h], h2⟩
theorem in_no (x lo hi : Int) (h : ¬ (lo ≤ x ∧ x ≤ hi)) (w : World) : Calls Try.prog 44 #[.int .i64 x, .int .i64 lo, .int .i64 hi] w fun e w' => e = .returned (.bool false) ∧ w' = w :=
  (in_any x lo hi w).mono fun e w' ⟨h1, h2⟩ => ⟨by rw [h1]; simp [h], h2⟩

theorem fls_get {own : Bool} {lo hi : Nat} {w : World} {a : Option Addr} {l : List Nat} {k : Nat} (h : Fls own lo hi w a l) (hk : k < l.length) : ∃ b o, a = some ⟨b, o, none⟩ ∧ b < hi ∧ w.cell? ⟨b, o + k, none⟩ = some (.float .f64 (l.getD k 0)) := by
  obtain ⟨b, o, e, _, h2, c, _⟩ := h k (l.getD k 0) (by simp [List.getD_eq_getElem?_getD, hk])
  exact ⟨b, o, e, h2, c⟩

set_option maxHeartbeats 1600000 in
theorem sagree_yes (a b : Option Addr) (ca cb : Nat) (l m : List Nat) (lag : Int) (w : World) (hok : AgOk l m lag) (ha : Fls false 0 w.heap.size w a l) (hb : Fls false 0 w.heap.size w b m) :
    Calls Try.prog 30 #[.slice a l.length ca, .slice b m.length cb, .int .i64 lag] w fun e w' => ∃ v, e = .returned (.float .f64 v) ∧ AgC l m lag l.length v ∧ Below w.heap.size w w' := by
  obtain ⟨l1, m1, g0, g1⟩ := hok
  have ha' := hide ha
  have hb' := hide hb
  clear ha hb
  have x1 : decide ((4096 : Int) < l.length) = false := by simp; omega
  have x2 : decide ((4096 : Int) < m.length) = false := by simp; omega
  go_enter Try.func30, Try.ntmps30
  go_wp2_with fail
  refine (in_yes lag _ _ ⟨g0, g1⟩ _).mono ?_
  rintro e w ⟨rfl, rfl⟩
  go_wp2
  go_loopw [7, 8] (fun s t wr => ∃ (k v : Nat), k ≤ l.length ∧ t = .int .i64 k ∧ s = .float .f64 v ∧ Hid (AgC l m lag k v) ∧ Below w.heap.size w wr) (fun _ t _ => l.length - (intOf t).toNat)
  case atStart => exact ⟨0, 0, by omega, rfl, rfl, hide (AgC.zero _ _ _), Below.refl _ _⟩
  case round =>
    obtain ⟨k, v, hk, rfl, rfl, hag, hw⟩ := hrel
    by_cases hlt : k < l.length
    · by_cases hc : 0 ≤ (k : Int) + lag
      · by_cases hd : (k : Int) + lag < m.length
        · obtain ⟨b1, o1, rfl, i1, c0⟩ := fls_get (unhide ha') hlt
          obtain ⟨q, hq⟩ := Int.eq_ofNat_of_zero_le hc
          have hqm : q < m.length := by omega
          obtain ⟨b2, o2, rfl, i2, e0⟩ := fls_get (unhide hb') hqm
          have hstep : Hid (∀ p v', Res .mul (l.getD k 0) (m.getD q 0) p → Res .add v p v' → AgC l m lag (k + 1) v') := hide fun p v' h1 h2 => (unhide hag).yes hc hd (by rw [hq, Int.toNat_natCast]; exact h1) h2
          generalize l.getD k 0 = x at *
          generalize m.getD q 0 = y at *
          have c1 : wr.cell? ⟨b1, o1 + k, none⟩ = some (.float .f64 x) := by rw [(bcell hw).1 _ _ i1]; exact c0
          have e1 : wr.cell? ⟨b2, o2 + q, none⟩ = some (.float .f64 y) := by rw [(bcell hw).1 _ _ i2]; exact e0
          have hw' := hide hw
          clear hw c0 e0
          go_wp2
          go_region
          all_goals
            go_wp2
            go_roundw
            case rel => exact ⟨k + 1, _, by omega, by go_num, rfl, hide (unhide hstep _ _ (fv_res _ _ _ _) (fv_res _ _ _ _)), below_drewN (unhide hw') _⟩
            case measure => simp [intOf]; omega
        · have hn := hide ((unhide hag).no (by omega))
          have hd' : decide ((k : Int) + lag < m.length) = false := by simpa using hd
          clear hag hd
          go_wp2
          go_roundw
          case rel => exact ⟨k + 1, _, by omega, by go_num, rfl, hn, hw⟩
          case measure => simp [intOf]; omega
      · have hn := hide ((unhide hag).no (by omega))
        clear hag
        go_wp2
        go_roundw
        case rel => exact ⟨k + 1, _, by omega, by go_num, rfl, hn, hw⟩
        case measure => simp [intOf]; omega
    · have hke : k = l.length := by omega
      have hag2 : Hid (AgC l m lag l.length v) := hide (by have := unhide hag; rw [hke] at this; exact this)
      clear hag
      go_wp2
      go_ret
      exact ⟨_, rfl, unhide hag2, hw⟩

set_option maxHeartbeats 800000 in
theorem sagree_no (a b : Option Addr) (ca cb : Nat) (l m : List Nat) (lag : Int) (w : World) (hl : l.length ≤ 1048576) (hm : m.length ≤ 1048576) (hok : ¬ AgOk l m lag) :
    Calls Try.prog 30 #[.slice a l.length ca, .slice b m.length cb, .int .i64 lag] w fun e w' => e = .returned (.float .f64 0) ∧ Below w.heap.size w w' := by
  by_cases h1 : (4096 : Int) < l.length
  · have x1 : decide ((4096 : Int) < l.length) = true := by simpa using h1
    have hok' := hide hok
    clear hok
    go_enter Try.func30, Try.ntmps30
    go_wp2
    go_ret
    exact ⟨rfl, Below.refl _ _⟩
  · have x1 : decide ((4096 : Int) < l.length) = false := by simpa using h1
    by_cases h2 : (4096 : Int) < m.length
    · have x2 : decide ((4096 : Int) < m.length) = true := by simpa using h2
      have hok' := hide hok
      clear hok
      go_enter Try.func30, Try.ntmps30
      go_wp2
      go_ret
      exact ⟨rfl, Below.refl _ _⟩
    · have x2 : decide ((4096 : Int) < m.length) = false := by simpa using h2
      have h3 : ¬ (-4096 ≤ lag ∧ lag ≤ 4096) := fun h => hok ⟨by omega, by omega, h.1, h.2⟩
      have h3' := hide h3
      have hok' := hide hok
      clear hok h3
      go_enter Try.func30, Try.ntmps30
      go_wp2_with fail
      refine (in_no lag _ _ (unhide h3') _).mono ?_
      rintro e w ⟨rfl, rfl⟩
      go_wp2
      go_ret
      exact ⟨rfl, Below.refl _ _⟩

theorem sagree_any (a b : Option Addr) (ca cb : Nat) (l m : List Nat) (lag : Int) (w : World) (hl : l.length ≤ 1048576) (hm : m.length ≤ 1048576) (ha : Fls false 0 w.heap.size w a l) (hb : Fls false 0 w.heap.size w b m) :
    Calls Try.prog 30 #[.slice a l.length ca, .slice b m.length cb, .int .i64 lag] w fun e w' => ∃ v, e = .returned (.float .f64 v) ∧ AgV l m lag v ∧ Below w.heap.size w w' := by
  by_cases hok : AgOk l m lag
  · exact (sagree_yes a b ca cb l m lag w hok ha hb).mono fun e w' ⟨v, h1, h2, h3⟩ => ⟨v, h1, .inl ⟨hok, h2⟩, h3⟩
  · exact (sagree_no a b ca cb l m lag w hl hm hok).mono fun e w' ⟨h1, h3⟩ => ⟨0, h1, .inr ⟨hok, rfl⟩, h3⟩

set_option maxHeartbeats 400000 in
theorem long_any (a b : Option Addr) (ca cb n m : Nat) (hn : n ≤ 1048576) (hm : m ≤ 1048576) (w : World) : Calls Try.prog 45 #[.slice a n ca, .slice b m cb] w fun e w' => e = .returned (.bool (decide (4096 < n ∨ 4096 < m))) ∧ w' = w := by
  by_cases h1 : (4096 : Int) < n
  · have x1 : decide ((4096 : Int) < n) = true := by simpa using h1
    go_enter Try.func45, Try.ntmps45
    go_wp2
    go_ret
    refine ⟨ret_bool ?_, rfl⟩
    simp; omega
  · have x1 : decide ((4096 : Int) < n) = false := by simpa using h1
    by_cases h2 : (4096 : Int) < m
    · go_enter Try.func45, Try.ntmps45
      go_wp2
      go_ret
      refine ⟨ret_bool ?_, rfl⟩
      simp; omega
    · go_enter Try.func45, Try.ntmps45
      go_wp2
      go_ret
      refine ⟨ret_bool ?_, rfl⟩
      simp; omega
theorem long_yes (a b : Option Addr) (ca cb n m : Nat) (hn : n ≤ 1048576) (hm : m ≤ 1048576) (h : 4096 < n ∨ 4096 < m) (w : World) : Calls Try.prog 45 #[.slice a n ca, .slice b m cb] w fun e w' => e = .returned (.bool true) ∧ w' = w :=
  (long_any a b ca cb n m hn hm w).mono fun e w' ⟨h1, h2⟩ => ⟨by rw [h1]; simp [h], h2⟩
theorem long_no (a b : Option Addr) (ca cb n m : Nat) (hn : n ≤ 1048576) (hm : m ≤ 1048576) (h : ¬ (4096 < n ∨ 4096 < m)) (w : World) : Calls Try.prog 45 #[.slice a n ca, .slice b m cb] w fun e w' => e = .returned (.bool false) ∧ w' = w :=
  (long_any a b ca cb n m hn hm w).mono fun e w' ⟨h1, h2⟩ => ⟨by rw [h1, decide_eq_false h], h2⟩

end Go.Proofs.Ytibeipcfokngjaa
