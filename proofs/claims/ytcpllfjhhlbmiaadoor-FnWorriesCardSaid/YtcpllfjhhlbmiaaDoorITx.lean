/-
  The program's test of a title's line, of its text, of its times: their contracts; nothing that was there is written.
-/
import Derived.Test.YtcpllfjhhlbmiaaDoorSTx
import Derived.Test.YtcpllfjhhlbmiaaDoorShelf
namespace Go.Proofs.YtcpllfjhhlbmiaaDoor
open Go.RowKit
set_option linter.unusedVariables false
set_option linter.unusedSimpArgs false

theorem all_take {l : List UInt8} {k : Nat} {c : UInt8} (h : (l.take k).all sgn = true) (hc : l[k]? = some c) (hs : sgn c = true) : (l.take (k + 1)).all sgn = true := by
  rw [List.take_add_one, hc, List.all_append, h]; simpa using hs
theorem all_bad {l : List UInt8} {k : Nat} {c : UInt8} (hc : l[k]? = some c) (hs : sgn c = false) : lineOk l = false := by
  have : l.all sgn = false := by
    rw [List.all_eq_false]
    exact ⟨c, List.mem_of_getElem? hc, by rw [hs]; decide⟩
  unfold lineOk; rw [this]; simp
theorem empty_of {s : ByteArray} {l : List UInt8} (h : s.data.toList = l) : s.toList = l := by rw [Lib.toList_data, h]

set_option maxRecDepth 100000 in
set_option maxHeartbeats 800000 in
theorem iline_any (s : ByteArray) (v : Bool) (w : World) (hs : s.size ≤ 1048576) (hv : lineOk s.data.toList = v) :
    Calls Tryd.prog 57 #[.string s] w fun e w' => e = .returned (.bool v) ∧ w' = w := by
  obtain ⟨l, hl⟩ : ∃ l, s.data.toList = l := ⟨_, rfl⟩
  have hsz' := hide (show s.size = l.length by rw [Lib.size_eq, hl])
  have hl' := hide hl
  rw [hl] at hv
  have hv' := hide hv
  clear hl hv
  go_enter Tryd.func57, Tryd.ntmps57
  go_wp2
  go_loop [6] (fun t => ∃ k : Nat, k ≤ s.size ∧ t = .int .i64 k ∧ Hid ((l.take k).all sgn = true)) (fun t => s.size - (intOf t).toNat)
  case atStart => exact ⟨0, by omega, rfl, hide rfl⟩
  case round =>
    obtain ⟨k, hk, rfl, hok⟩ := hrel
    by_cases hlt : k < s.size
    · have hlt2 : decide ((k : Int) < (s.size : Int)) = true := decide_eq_true (by omega)
      obtain ⟨c, hc⟩ : ∃ c, l[k]? = some c := ⟨l[k]'(by have := unhide hsz'; omega), List.getElem?_eq_getElem (by have := unhide hsz'; omega)⟩
      have hidx := fun w => idx_str (unhide hl') hc w
      by_cases e32 : c.toNat < 32
      · have q3 : decide (((c.toNat : Nat) : Int) < 32) = true := decide_eq_true (by omega)
        have hb := hide (show false = v from (all_bad (l := l) hc (by unfold sgn; rw [decide_eq_false (by omega)]; rfl)).symm.trans (unhide hv'))
        clear hc
        go_wp2
        go_ret
        exact ⟨ret_bool (unhide hb), rfl⟩
      have q3 : decide (((c.toNat : Nat) : Int) < 32) = false := decide_eq_false (by omega)
      by_cases e127 : c.toNat = 127
      · have q4 : (((c.toNat : Nat) : Int) == 127) = true := by rw [beq_iff_eq]; omega
        have hb := hide (show false = v from (all_bad (l := l) hc (by unfold sgn; rw [decide_eq_false (p := c.toNat ≠ 127) (by omega)]; simp)).symm.trans (unhide hv'))
        clear hc e127
        go_wp2
        go_ret
        exact ⟨ret_bool (unhide hb), rfl⟩
      have q4 : (((c.toNat : Nat) : Int) == 127) = false := by rw [beq_eq_false_iff_ne]; omega
      have hb := hide (all_take (unhide hok) hc (by unfold sgn; rw [decide_eq_true (p := c.toNat ≠ 127) (by omega), decide_eq_true (by omega)]; rfl))
      clear hc e127
      go_wp2
      go_round
      case rel => exact ⟨k + 1, by omega, by go_num, hb⟩
      case measure => simp [intOf]; omega
    · have hlt2 : decide ((k : Int) < (s.size : Int)) = false := decide_eq_false (by omega)
      have hall : l.all sgn = true := by
        have := unhide hok
        rwa [List.take_of_length_le (by have := unhide hsz'; omega)] at this
      have hfin := hide (show (!l.isEmpty) = v by rw [← unhide hv']; unfold lineOk; rw [hall]; simp)
      have hem := hide (empty_of (unhide hl'))
      clear hall
      go_wp2
      go_ret
      exact ⟨ret_bool (by rw [unhide hem]; exact unhide hfin), rfl⟩

set_option maxHeartbeats 800000 in
theorem turn_any (x y e0 : Int) (s : ByteArray) (v : Bool) (w : World) (hv : (decide (e0 ≤ x) && decide (x < y)) = v) :
    Calls Tryd.prog 35 #[ag3 x y s, .int .i64 e0] w fun e w' => e = .returned (.bool v) ∧ Below w.heap.size w w' := by
  subst hv
  by_cases h1 : e0 ≤ x
  · have g1 : decide (e0 ≤ x) = true := decide_eq_true h1
    by_cases h2 : x < y
    · have g2 : decide (x < y) = true := decide_eq_true h2
      go_enter Tryd.func35, Tryd.ntmps35
      go_wp2
      go_ret
      exact ⟨ret_bool (by simp [h1, h2]), ((Below.refl _ _).alloc (Nat.le_refl _) _)⟩
    · have g2 : decide (x < y) = false := decide_eq_false h2
      go_enter Tryd.func35, Tryd.ntmps35
      go_wp2
      go_ret
      exact ⟨ret_bool (by simp [h1, h2]), ((Below.refl _ _).alloc (Nat.le_refl _) _)⟩
  · have g1 : decide (e0 ≤ x) = false := decide_eq_false h1
    go_enter Tryd.func35, Tryd.ntmps35
    go_wp2
    go_ret
    exact ⟨ret_bool (by simp [h1]), ((Below.refl _ _).alloc (Nat.le_refl _) _)⟩

theorem lines_le (l : List UInt8) : ∀ x ∈ linesL l, x.length ≤ l.length := by
  induction l with
  | nil => intro x hx; have : linesL [] = [[]] := rfl; rw [this] at hx; simp at hx; subst hx; simp
  | cons b l ih =>
    intro x hx
    obtain ⟨y, ys, hy⟩ := linesL_ne l
    by_cases hb : b = 10
    · subst hb
      rw [linesL_newline] at hx
      rcases List.mem_cons.1 hx with rfl | hx
      · simp
      · have := ih x hx; simp; omega
    · rw [linesL_char hb, hy] at hx
      simp only [glue, List.singleton_append] at hx
      rcases List.mem_cons.1 hx with rfl | hx
      · have := ih y (by rw [hy]; simp); simp; omega
      · have := ih x (by rw [hy]; simp [hx]); simp; omega

/-- some whole number lies in the library's variable -/
def MaxL (w : World) : Prop := ∃ m, w.cell? ⟨0, 0, none⟩ = some (.int .i64 m)
theorem MaxL.below {w w' : World} (h : MaxL w) (hb : Below w.heap.size w w') : MaxL w' := by
  obtain ⟨m, hm⟩ := h; exact ⟨m, cell_later hb hm⟩
/-- a list of strings in a block of its own -/
theorem row_str {w : World} {b k : Nat} {L : List (List UInt8)} {x : List UInt8} (h : w.heap[b]? = some (.cells (L.map sW).toArray 9 (0, 0))) (hx : L[k]? = some x) : w.cell? ⟨b, k, none⟩ = some (.string ⟨x.toArray⟩) := by
  simp [World.cell?, h, hx]

set_option maxRecDepth 100000 in
set_option maxHeartbeats 800000 in
theorem itext_any (s : ByteArray) (v : Bool) (w : World) (hs : s.size ≤ 1048576) (hM : MaxL w) (hv : txOk s.data.toList = v) :
    Calls Tryd.prog 36 #[.string s] w fun e w' => e = .returned (.bool v) ∧ Below w.heap.size w w' := by
  by_cases h2 : 200 < s.size
  · have hv2 := (txOk_no2 (l := s.data.toList) (by rw [← Lib.size_eq]; exact h2)).symm.trans hv
    have g2 : decide ((200 : Int) < (s.size : Int)) = true := decide_eq_true (by omega)
    clear hv
    go_enter Tryd.func36, Tryd.ntmps36
    go_wp2
    go_ret
    exact ⟨ret_bool hv2, Below.refl _ _⟩
  have g2 : decide ((200 : Int) < (s.size : Int)) = false := decide_eq_false (by omega)
  obtain ⟨m, hm⟩ := hM
  have cS := hide (Tryd.strings_Split s ⟨#[10]⟩ m w (by omega) hm (by decide))
  obtain ⟨L, hL⟩ : ∃ L, linesL s.data.toList = L := ⟨_, rfl⟩
  have hn : Lib.countB s ⟨#[10]⟩ + 1 = L.length := by rw [countB_nl, ← hL, linesL_len]
  have hwl : L.length ≤ 201 := by rw [← hn, countB_nl]; have := List.count_le_length (a := (10 : UInt8)) (l := s.data.toList); rw [← Lib.size_eq] at this; omega
  have hv' : Hid (L.all lineOk = v) := hide (by
    rw [← hv, ← hL, ← tx_all]; unfold txOk; rw [decide_eq_true (by rw [← Lib.size_eq]; omega)]; rfl)
  have hsz : Hid (∀ (k : Nat) (x : List UInt8), L[k]? = some x → x.length ≤ 1048576) := hide (by
    intro k x hx
    have := lines_le s.data.toList x (by rw [hL]; exact List.mem_of_getElem? hx)
    rw [← Lib.size_eq] at this; omega)
  rw [hn, split_cells, hL] at cS
  clear hn hL hv hm
  go_enter Tryd.func36, Tryd.ntmps36
  go_wp2_with fail
  refine (unhide cS).mono ?_
  rintro e w1 ⟨rfl, hw1⟩
  have k1 := hide (show Below w.heap.size w w1 by rw [hw1]; exact (Below.refl _ _).alloc (Nat.le_refl _) _)
  have W1 := hide (show w1.heap[w.heap.size]? = some (.cells (L.map sW).toArray 9 (0, 0)) by rw [hw1]; exact alloc_new _ _)
  clear hw1 cS
  generalize hRb : w.heap.size = Rb at *
  go_wp2
  go_loopw [11] (fun t wr => ∃ k : Nat, k ≤ L.length ∧ t = .int .i64 k ∧ wr = w1 ∧ Hid ((L.take k).all lineOk = true)) (fun t _ => L.length - (intOf t).toNat)
  case atStart => exact ⟨0, by omega, rfl, rfl, hide rfl⟩
  case round =>
    obtain ⟨k, hk, rfl, rfl, hok⟩ := hrel
    by_cases hlt : k < L.length
    · have hlt2 : decide ((k : Int) < (L.length : Int)) = true := decide_eq_true (by omega)
      obtain ⟨x, hx⟩ : ∃ x, L[k]? = some x := ⟨L[k], List.getElem?_eq_getElem hlt⟩
      have hcell := row_str (unhide W1) hx
      have hxl := unhide hsz k x hx
      obtain ⟨X, hX⟩ : ∃ X, (⟨x.toArray⟩ : ByteArray) = X := ⟨_, rfl⟩
      have hXd : X.data.toList = x := by rw [← hX]
      have hXs : X.size ≤ 1048576 := by rw [Lib.size_eq, hXd]; exact hxl
      rw [hX] at hcell
      obtain ⟨u, hu⟩ : ∃ u, lineOk x = u := ⟨_, rfl⟩
      have cl := hide (fun w => iline_any X u w hXs (by rw [hXd]; exact hu))
      cases u
      · have hb := hide (show false = v by
          rw [← unhide hv']
          refine Eq.symm (List.all_eq_false.2 ⟨x, List.mem_of_getElem? hx, by rw [hu]; decide⟩))
        clear hu hx hX hXd
        go_wp2_with fail
        refine (unhide cl _).mono ?_
        rintro e w2 ⟨rfl, rfl⟩
        go_wp2
        go_ret
        exact ⟨ret_bool (unhide hb), by rw [hRb]; exact unhide k1⟩
      · have hb := hide (show (L.take (k + 1)).all lineOk = true by
          rw [List.take_add_one, hx, List.all_append, unhide hok]; simpa using hu)
        clear hu hx hX hXd
        go_wp2_with fail
        refine (unhide cl _).mono ?_
        rintro e w2 ⟨rfl, rfl⟩
        go_wp2
        go_roundw
        case rel => exact ⟨k + 1, by omega, by go_num, by first | rfl | trivial, hb⟩
        case measure => simp [intOf]; omega
    · have hlt2 : decide ((k : Int) < (L.length : Int)) = false := decide_eq_false (by omega)
      have hfin := hide (show true = v by
        have := unhide hok
        rw [List.take_of_length_le (by omega)] at this
        rw [← unhide hv', this])
      go_wp2
      go_ret
      exact ⟨ret_bool (unhide hfin), by rw [hRb]; exact unhide k1⟩

end Go.Proofs.YtcpllfjhhlbmiaaDoor
