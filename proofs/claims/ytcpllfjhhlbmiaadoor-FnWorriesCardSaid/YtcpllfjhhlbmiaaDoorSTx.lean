/-
  The model's test of a title's text: its contract; nothing is written.
-/
import Derived.Test.YtcpllfjhhlbmiaaDoorBas
namespace Go.Proofs.YtcpllfjhhlbmiaaDoor
open Go.RowKit
set_option linter.unusedVariables false
set_option linter.unusedSimpArgs false

theorem txOk_no1 {l : List UInt8} (h : l.length < 1) : txOk l = false := by
  have : l = [] := List.eq_nil_of_length_eq_zero (by omega)
  subst this; rfl
theorem txOk_no2 {l : List UInt8} (h : 200 < l.length) : txOk l = false := by
  unfold txOk; rw [decide_eq_false (by omega)]; rfl
theorem tx_false {l : List UInt8} (h : ¬ (l ≠ [] ∧ l[0]? ≠ some 10 ∧ l[l.length - 1]? ≠ some 10 ∧ ∀ j b, l[j]? = some b → ¬ bad (pre l j) b)) : txOk l = false := by
  cases hh : txOk l with
  | false => rfl
  | true =>
    unfold txOk at hh
    rw [Bool.and_eq_true] at hh
    exact absurd ((tx_model l).1 hh.2) h
theorem tx_true {l : List UInt8} (hl : l.length ≤ 200) (h : l ≠ [] ∧ l[0]? ≠ some 10 ∧ l[l.length - 1]? ≠ some 10 ∧ ∀ j b, l[j]? = some b → ¬ bad (pre l j) b) : txOk l = true := by
  unfold txOk
  rw [(tx_model l).2 h, decide_eq_true hl]; rfl
theorem nat10 {c : UInt8} (h : c ≠ 10) : (((c.toNat : Nat) : Int) == 10) = false := by
  rw [beq_eq_false_iff_ne]
  intro e
  have e2 : c.toNat = 10 := by omega
  exact h (UInt8.toNat_inj.1 e2)
theorem nat10b {c : UInt8} (h : c ≠ 10) : (((c.toNat : Nat) : Int) != 10) = true := by
  rw [bne, nat10 h]; rfl

set_option maxRecDepth 100000 in
set_option maxHeartbeats 1600000 in
theorem stext_any (s : ByteArray) (v : Bool) (w : World) (hs : s.size ≤ 1048576) (hv : txOk s.data.toList = v) :
    Calls Tryd.prog 34 #[.string s] w fun e w' => e = .returned (.bool v) ∧ w' = w := by
  obtain ⟨l, hl⟩ : ∃ l, s.data.toList = l := ⟨_, rfl⟩
  have hsz : s.size = l.length := by rw [Lib.size_eq, hl]
  have hl' := hide hl
  have hsz' := hide hsz
  rw [hl] at hv
  clear hl
  clear hsz
  by_cases h1 : s.size < 1
  · have hv2 := (txOk_no1 (l := l) (by rw [← unhide hsz']; exact h1)).symm.trans hv
    have g1 : decide ((s.size : Int) < 1) = true := decide_eq_true (by omega)
    clear hv
    go_enter Tryd.func34, Tryd.ntmps34
    go_wp2
    go_ret
    exact ⟨ret_bool hv2, rfl⟩
  have g1 : decide ((s.size : Int) < 1) = false := decide_eq_false (by omega)
  by_cases h2 : 200 < s.size
  · have hv2 := (txOk_no2 (l := l) (by rw [← unhide hsz']; exact h2)).symm.trans hv
    have g2 : decide ((200 : Int) < (s.size : Int)) = true := decide_eq_true (by omega)
    clear hv
    go_enter Tryd.func34, Tryd.ntmps34
    go_wp2
    go_ret
    exact ⟨ret_bool hv2, rfl⟩
  have g2 : decide ((200 : Int) < (s.size : Int)) = false := decide_eq_false (by omega)
  have hne := hide (show l ≠ [] by intro e; have := unhide hsz'; rw [e] at this; simp only [List.length_nil] at this; omega)
  obtain ⟨c0, hc0⟩ : ∃ c, l[0]? = some c := ⟨l[0]'(by have := unhide hsz'; omega), List.getElem?_eq_getElem (by have := unhide hsz'; omega)⟩
  obtain ⟨c1, hc1⟩ : ∃ c, l[l.length - 1]? = some c := ⟨l[l.length - 1]'(by have := unhide hsz'; omega), List.getElem?_eq_getElem (by have := unhide hsz'; omega)⟩
  have hi0 : ∀ w, (Instr.index 9 (.string s) (.int .i64 0)).run Tryd.prog w = .ok (.int .u8 (c0.toNat : Int)) w := fun w => idx_str (k := 0) (unhide hl') hc0 w
  have hi1 : ∀ w, (Instr.index 9 (.string s) (.int .i64 ((s.size : Int) - 1))).run Tryd.prog w = .ok (.int .u8 (c1.toNat : Int)) w := fun w => by
    have := idx_str (k := l.length - 1) (unhide hl') hc1 w
    rw [show ((l.length - 1 : Nat) : Int) = (s.size : Int) - 1 by have := unhide hsz'; omega] at this
    exact this
  by_cases h3 : c0 = 10
  · have hv2 := (tx_false (l := l) (fun h => h.2.1 (by rw [hc0, h3]))).symm.trans hv
    have g3 : (((c0.toNat : Nat) : Int) == 10) = true := by rw [h3]; rfl
    clear hv h3 hc0 hc1
    go_enter Tryd.func34, Tryd.ntmps34
    go_wp2
    go_ret
    exact ⟨ret_bool hv2, rfl⟩
  have g3 := nat10 h3
  by_cases h4 : c1 = 10
  · have hv2 := (tx_false (l := l) (fun h => h.2.2.1 (by rw [hc1, h4]))).symm.trans hv
    have g4 : (((c1.toNat : Nat) : Int) == 10) = true := by rw [h4]; rfl
    clear hv h4 hc0 hc1 h3
    go_enter Tryd.func34, Tryd.ntmps34
    go_wp2
    go_ret
    exact ⟨ret_bool hv2, rfl⟩
  have g4 := nat10 h4
  have hc0' := hide hc0
  have hc1' := hide hc1
  have h3' := hide h3
  have h4' := hide h4
  have hv' := hide hv
  clear hc0 hc1 h3 h4 hv
  go_enter Tryd.func34, Tryd.ntmps34
  go_wp2
  go_loop [4] (fun t => ∃ k : Nat, k ≤ s.size ∧ t = .int .i64 k ∧ Hid (∀ j b, j < k → l[j]? = some b → ¬ bad (pre l j) b)) (fun t => s.size - (intOf t).toNat)
  case atStart => exact ⟨0, by omega, rfl, hide (fun j b h => by omega)⟩
  case round =>
    obtain ⟨k, hk, rfl, hok⟩ := hrel
    by_cases hlt : k < s.size
    · have hlt2 : decide ((k : Int) < (s.size : Int)) = true := decide_eq_true (by omega)
      obtain ⟨c, hc⟩ : ∃ c, l[k]? = some c := ⟨l[k]'(by have := unhide hsz'; omega), List.getElem?_eq_getElem (by have := unhide hsz'; omega)⟩
      have hidx := fun w => idx_str (unhide hl') hc w
      have hstop := hide (show bad (pre l k) c → false = v from fun hb => (tx_false (l := l) (fun h => h.2.2.2 k c hc hb)).symm.trans (unhide hv'))
      have hnext := hide (show ¬ bad (pre l k) c → ∀ j b, j < k + 1 → l[j]? = some b → ¬ bad (pre l j) b from fun hb j b hj hjb => by
        rcases Nat.lt_or_ge j k with h | h
        · exact unhide hok j b h hjb
        · have : j = k := by omega
          subst this
          rw [hc] at hjb
          injection hjb with hjb
          subst hjb; exact hb)
      by_cases e10 : c = 10
      · have hk0 : k ≠ 0 := by
          intro e; subst e
          rw [unhide hc0'] at hc
          injection hc with hc
          exact unhide h3' (hc.trans e10)
        obtain ⟨p, hp⟩ : ∃ p, l[k - 1]? = some p := ⟨l[k - 1]'(by have := unhide hsz'; omega), List.getElem?_eq_getElem (by have := unhide hsz'; omega)⟩
        have hidp : ∀ w, (Instr.index 9 (.string s) (.int .i64 ((k : Int) - 1))).run Tryd.prog w = .ok (.int .u8 (p.toNat : Int)) w := fun w => by
          have := idx_str (k := k - 1) (unhide hl') hp w
          rw [show ((k - 1 : Nat) : Int) = (k : Int) - 1 by omega] at this
          exact this
        have q1 : (((c.toNat : Nat) : Int) == 10) = true := by rw [e10]; rfl
        have q1b : (((c.toNat : Nat) : Int) != 10) = false := by rw [e10]; rfl
        have q4 : (((c.toNat : Nat) : Int) == 127) = false := by rw [e10]; rfl
        have hpre : pre l k = some p := by unfold pre; rw [if_neg hk0]; exact hp
        by_cases ep : p = 10
        · have q2 : (((p.toNat : Nat) : Int) == 10) = true := by rw [ep]; rfl
          have hb := hide (unhide hstop (Or.inl ⟨e10, by rw [hpre, ep]⟩))
          clear hc e10 ep hp hpre hstop hnext
          go_wp2
          go_ret
          exact ⟨ret_bool (unhide hb), rfl⟩
        · have q2 := nat10 ep
          have hb := hide (unhide hnext (by
            rintro (⟨_, h⟩ | ⟨h, _⟩ | h)
            · rw [hpre] at h; injection h with h; exact ep h
            · exact h e10
            · rw [e10] at h; exact absurd h (by decide)))
          clear hc e10 ep hp hpre hstop hnext
          go_wp2
          go_round
          case rel => exact ⟨k + 1, by omega, by go_num, hb⟩
          case measure => simp [intOf]; omega
      · have q1 := nat10 e10
        have q1b := nat10b e10
        by_cases e32 : c.toNat < 32
        · have q3 : decide (((c.toNat : Nat) : Int) < 32) = true := decide_eq_true (by omega)
          have hb := hide (unhide hstop (Or.inr (Or.inl ⟨e10, e32⟩)))
          clear hc e10 hstop hnext
          go_wp2
          go_ret
          exact ⟨ret_bool (unhide hb), rfl⟩
        have q3 : decide (((c.toNat : Nat) : Int) < 32) = false := decide_eq_false (by omega)
        by_cases e127 : c.toNat = 127
        · have q4 : (((c.toNat : Nat) : Int) == 127) = true := by rw [beq_iff_eq]; omega
          have hb := hide (unhide hstop (Or.inr (Or.inr e127)))
          clear hc e10 hstop hnext e127
          go_wp2
          go_ret
          exact ⟨ret_bool (unhide hb), rfl⟩
        have q4 : (((c.toNat : Nat) : Int) == 127) = false := by rw [beq_eq_false_iff_ne]; omega
        have hb := hide (unhide hnext (by
          rintro (⟨h, _⟩ | ⟨_, h⟩ | h)
          · exact e10 h
          · exact e32 h
          · exact e127 h))
        clear hc e10 hstop hnext e127
        go_wp2
        go_round
        case rel => exact ⟨k + 1, by omega, by go_num, hb⟩
        case measure => simp [intOf]; omega
    · have hlt2 : decide ((k : Int) < (s.size : Int)) = false := decide_eq_false (by omega)
      have hfin := hide (show true = v from (tx_true (l := l) (by have := unhide hsz'; omega) ⟨unhide hne, by rw [unhide hc0']; intro h; injection h with h; exact unhide h3' h, by rw [unhide hc1']; intro h; injection h with h; exact unhide h4' h, fun j b hb => by
        have hj : j < l.length := (List.getElem?_eq_some_iff.1 hb).1
        exact unhide hok j b (by have := unhide hsz'; omega) hb⟩).symm.trans (unhide hv'))
      go_wp2
      go_ret
      exact ⟨ret_bool (unhide hfin), rfl⟩

end Go.Proofs.YtcpllfjhhlbmiaaDoor
