/-
  What titles are: the contract of the model's test; nothing that was there is written.
-/
import Derived.Test.YtcpllfjhhlbmiaaDoorIOk
namespace Go.Proofs.YtcpllfjhhlbmiaaDoor
open Go.RowKit
set_option linter.unusedVariables false
set_option linter.unusedSimpArgs false

set_option maxRecDepth 100000 in
set_option maxHeartbeats 3200000 in
theorem sok_any (a : Option Addr) (cap : Nat) (l : List Kl) (v : Bool) (w : World) (hl : l.length ≤ 1048576) (hr : Kls w a l) (hsz : ∀ x ∈ l, x.2.2.size ≤ 1048576) (hv : tOk l = v) :
    Calls Tryd.prog 25 #[.slice a l.length cap] w fun e w' => e = .returned (.bool v) ∧ Below w.heap.size w w' := by
  have hr' := hide hr
  have hsz' := hide hsz
  have hv' := hide hv
  clear hr hsz hv
  by_cases h2 : 200 < l.length
  · have g2 : decide ((200 : Int) < (l.length : Int)) = true := decide_eq_true (by omega)
    go_enter Tryd.func25, Tryd.ntmps25
    go_wp2
    go_ret
    exact ⟨ret_bool (ts_long (unhide hv') h2), Below.refl _ _⟩
  have g2 : decide ((200 : Int) < (l.length : Int)) = false := decide_eq_false (by omega)
  go_enter Tryd.func25, Tryd.ntmps25
  go_wp2
  go_loopw [3] (fun t wr => ∃ k : Nat, k ≤ l.length ∧ t = .int .i64 k ∧ Hid (tsOk 0 (l.take k) = true) ∧ Hid (Below w.heap.size w wr)) (fun t _ => l.length - (intOf t).toNat)
  case atStart => exact ⟨0, by omega, rfl, hide rfl, hide (Below.refl _ _)⟩
  case round =>
    obtain ⟨k, hk, rfl, hok, hb⟩ := hrel
    by_cases hlt : k < l.length
    · have hlt2 : decide ((k : Int) < (l.length : Int)) = true := decide_eq_true (by omega)
      obtain ⟨x, hx⟩ : ∃ x, l[k]? = some x := ⟨l[k], List.getElem?_eq_getElem hlt⟩
      obtain ⟨b, o, rfl, i1, c0, c1, c2⟩ := unhide hr' k x hx
      have hxs := unhide hsz' x (List.mem_of_getElem? hx)
      obtain ⟨x, y, s⟩ := x
      simp only at c0 c1 c2 hxs
      have C := fun o => (bcell (unhide hb)).1 b o i1
      rw [← C] at c0 c1 c2
      have hst := hide (fun h => ts_stop (unhide hv') hx h)
      have hnx := hide (fun h => ts_next (unhide hok) hx h)
      have heg := hide (end_ge (l := l.take k) (e := 0) (by omega) (unhide hok))
      rw [ttOk_parts] at hst hnx
      have hsz1 := (unhide hb).size
      have hprev : Hid (∀ p, k ≠ 0 → l[k - 1]? = some p → endOf 0 (l.take k) = p.2.1) := hide (fun p h1 h2 => end_at h1 h2)
      have hp0 : Hid (k = 0 → endOf 0 (l.take k) = 0) := hide (fun h => by rw [h]; rfl)
      clear hx C
      generalize endOf 0 (l.take k) = e0 at *
      go_wp2_with fail
      have W0 := alloc_new wr (.cells #[.int .i64 x, .int .i64 y, .string s] 32)
      have B0 := hide (show Below w.heap.size w (wr.alloc (.cells #[.int .i64 x, .int .i64 y, .string s] 32)) from (unhide hb).alloc hsz1 _)
      generalize wr.alloc (.cells #[.int .i64 x, .int .i64 y, .string s] 32) = X at *
      generalize wr.heap.size = q at *
      clear c0 c1 c2 hb hsz1
      obtain ⟨c0, c1, c2⟩ := blk3 W0
      clear W0
      by_cases h3 : x < 0
      · have g3 : decide (x < 0) = true := decide_eq_true h3
        have hf := hide (unhide hst (by rw [decide_eq_false (p := e0 ≤ x) (by have := unhide heg; omega)]; rfl))
        clear hst hnx
        go_quiet (fail)
        go_wp2
        go_ret
        exact ⟨ret_bool (unhide hf), below_drewN (unhide B0) _⟩
      have g3 : decide (x < 0) = false := decide_eq_false h3
      by_cases h4 : y ≤ x
      · have g4 : decide (y ≤ x) = true := decide_eq_true h4
        have hf := hide (unhide hst (by rw [decide_eq_false (p := x < y) (by omega)]; simp))
        clear hst hnx
        go_quiet (fail)
        go_wp2
        go_ret
        exact ⟨ret_bool (unhide hf), below_drewN (unhide B0) _⟩
      have g4 : decide (y ≤ x) = false := decide_eq_false h4
      by_cases h5 : (359999999 : Int) < y
      · have g5 : decide ((359999999 : Int) < y) = true := decide_eq_true h5
        have hf := hide (unhide hst (by rw [decide_eq_false (p := y ≤ 359999999) (by omega)]; simp))
        clear hst hnx
        go_quiet (fail)
        go_wp2
        go_ret
        exact ⟨ret_bool (unhide hf), below_drewN (unhide B0) _⟩
      have g5 : decide ((359999999 : Int) < y) = false := decide_eq_false h5
      rw [decide_eq_true (p := y ≤ 359999999) (by omega), decide_eq_true (p := x < y) (by omega)] at hst hnx
      cases hu : txOk s.data.toList
      · rw [hu] at hst
        have hf := hide (unhide hst (by simp))
        have hu' := hide hu
        clear hst hnx hu
        go_quiet (exact Calls.quiet_of_same (stext_any _ _ _ (by assumption) (unhide hu')))
        go_wp2
        go_ret
        exact ⟨ret_bool (unhide hf), below_drewN (unhide B0) _⟩
      rw [hu] at hst hnx
      have hu' := hide hu
      clear hu
      by_cases hk0 : k = 0
      · have he := unhide hp0 hk0
        have g6 : decide ((0 : Int) < (k : Int)) = false := decide_eq_false (by omega)
        have g6n : decide (0 < k) = false := decide_eq_false (by omega)
        have hf := hide (unhide hnx (by rw [he, decide_eq_true (p := (0 : Int) ≤ x) (by omega)]; rfl))
        clear hst hnx he hk0
        go_quiet (exact Calls.quiet_of_same (stext_any _ _ _ (by assumption) (unhide hu')))
        go_wp2
        go_roundw
        case rel => exact ⟨k + 1, by omega, by go_num, hf, hide (below_drewN (unhide B0) _)⟩
        case measure => simp [intOf]; omega
      obtain ⟨p, hp⟩ : ∃ p, l[k - 1]? = some p := ⟨l[k - 1]'(by omega), List.getElem?_eq_getElem (by omega)⟩
      obtain ⟨b', o', hbo, i2, d0, d1, d2⟩ := unhide hr' (k - 1) p hp
      injection hbo with hbo
      injection hbo with hb1 ho1 _
      subst hb1 ho1
      have he := unhide hprev p hk0 hp
      have g6 : decide ((0 : Int) < (k : Int)) = true := decide_eq_true (by omega)
      have g6n : decide (0 < k) = true := decide_eq_true (by omega)
      have D1 : X.cell? ⟨b, o + (k - 1) * 3 + 1, none⟩ = some (.int .i64 p.2.1) := ((bcell (unhide B0)).1 _ _ i2).trans d1
      generalize p.2.1 = z at *
      have hk1 : ((k : Int) - 1) = ((k - 1 : Nat) : Int) := by omega
      clear hp d0 d1 d2
      by_cases h7 : x < z
      · have g7 : decide (x < z) = true := decide_eq_true h7
        have hf := hide (unhide hst (by rw [he, decide_eq_false (p := z ≤ x) (by omega)]; rfl))
        clear hst hnx he
        go_quiet (exact Calls.quiet_of_same (stext_any _ _ _ (by assumption) (unhide hu')))
        go_wp2
        go_ret
        exact ⟨ret_bool (unhide hf), below_drewN (unhide B0) _⟩
      · have g7 : decide (x < z) = false := decide_eq_false h7
        have hf := hide (unhide hnx (by rw [he, decide_eq_true (p := z ≤ x) (by omega)]; rfl))
        clear hst hnx he
        go_quiet (exact Calls.quiet_of_same (stext_any _ _ _ (by assumption) (unhide hu')))
        go_wp2
        go_roundw
        case rel => exact ⟨k + 1, by omega, by go_num, hf, hide (below_drewN (unhide B0) _)⟩
        case measure => simp [intOf]; omega
    · have hlt2 : decide ((k : Int) < (l.length : Int)) = false := decide_eq_false (by omega)
      have hfin := hide (ts_end (unhide hv') (by omega) (by omega) (unhide hok))
      go_wp2
      go_ret
      exact ⟨ret_bool (unhide hfin), unhide hb⟩

end Go.Proofs.YtcpllfjhhlbmiaaDoor
