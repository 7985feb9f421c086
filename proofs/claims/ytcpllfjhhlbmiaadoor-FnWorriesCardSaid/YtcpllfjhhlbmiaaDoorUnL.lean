/-
  What can't be read of titles: contracts of the leaves: signs of a line, lines of a text, what a style is; nothing that was there is written.
-/
import Derived.Test.YtcpllfjhhlbmiaaDoorDlS
import Derived.Test.YtcpllfjhhlbmiaaDoorCopyV
namespace Go.Proofs.YtcpllfjhhlbmiaaDoor
open Go.RowKit
set_option linter.unusedVariables false
set_option linter.unusedSimpArgs false

abbrev ag5 (s : Sy) : Value := .agg #[.int .i64 s.1, .int .i64 s.2.1, .int .i64 s.2.2.1, .int .i64 s.2.2.2.1, .int .i64 s.2.2.2.2]
theorem blkc {X : World} {b : Nat} {t : TypeId} {v0 v1 v2 v3 v4 v5 : Value} (h : X.heap[b]? = some (.cells #[v0, v1, v2, v3, v4, v5] t (0, 0))) : X.cell? ⟨b, 0, none⟩ = some v0 ∧ X.cell? ⟨b, 1, none⟩ = some v1 ∧ X.cell? ⟨b, 2, none⟩ = some v2 ∧ X.cell? ⟨b, 3, none⟩ = some v3 ∧ X.cell? ⟨b, 4, none⟩ = some v4 ∧ X.cell? ⟨b, 5, none⟩ = some v5 := by
  refine ⟨?_, ?_, ?_, ?_, ?_, ?_⟩ <;> simp [World.cell?, h]
theorem blkf {X : World} {b : Nat} {t : TypeId} {v0 v1 v2 v3 v4 v5 : Value} (h : X.heap[b]? = some (.cells #[v0, v1, v2, v3, v4, v5] t (0, 0))) : X.frozen? ⟨b, 0, none⟩ = false ∧ X.frozen? ⟨b, 1, none⟩ = false ∧ X.frozen? ⟨b, 2, none⟩ = false ∧ X.frozen? ⟨b, 3, none⟩ = false ∧ X.frozen? ⟨b, 4, none⟩ = false ∧ X.frozen? ⟨b, 5, none⟩ = false := by
  refine ⟨?_, ?_, ?_, ?_, ?_, ?_⟩ <;> exact Lib.frozen_of_heap h _
theorem putc {X : World} {q : Nat} {t : TypeId} {a0 a1 a2 a3 a4 a5 v0 v1 v2 v3 v4 v5 : Value} (h : X.heap[q]? = some (.cells #[a0, a1, a2, a3, a4, a5] t (0, 0))) : ((((((X.setCell ⟨q, 0, none⟩ v0).setCell ⟨q, 1, none⟩ v1).setCell ⟨q, 2, none⟩ v2).setCell ⟨q, 3, none⟩ v3).setCell ⟨q, 4, none⟩ v4).setCell ⟨q, 5, none⟩ v5).heap[q]? = some (.cells #[v0, v1, v2, v3, v4, v5] t (0, 0)) := by
  simp [World.setCell, h, Array.getElem?_modify]
theorem setc {w X : World} {B q : Nat} {v0 v1 v2 v3 v4 v5 : Value} (hb : Below B w X) (h : B ≤ q) : Below B w ((((((X.setCell ⟨q, 0, none⟩ v0).setCell ⟨q, 1, none⟩ v1).setCell ⟨q, 2, none⟩ v2).setCell ⟨q, 3, none⟩ v3).setCell ⟨q, 4, none⟩ v4).setCell ⟨q, 5, none⟩ v5) := ((((((hb.setCell (p := ⟨q, 0, none⟩) h _).setCell (p := ⟨q, 1, none⟩) h _).setCell (p := ⟨q, 2, none⟩) h _).setCell (p := ⟨q, 3, none⟩) h _).setCell (p := ⟨q, 4, none⟩) h _).setCell (p := ⟨q, 5, none⟩) h _)
theorem blk5 {X : World} {b : Nat} {t : TypeId} {v0 v1 v2 v3 v4 : Value} (h : X.heap[b]? = some (.cells #[v0, v1, v2, v3, v4] t (0, 0))) : X.cell? ⟨b, 0, none⟩ = some v0 ∧ X.cell? ⟨b, 1, none⟩ = some v1 ∧ X.cell? ⟨b, 2, none⟩ = some v2 ∧ X.cell? ⟨b, 3, none⟩ = some v3 ∧ X.cell? ⟨b, 4, none⟩ = some v4 := by
  refine ⟨?_, ?_, ?_, ?_, ?_⟩ <;> simp [World.cell?, h]

theorem sgs_one {l : List UInt8} {k : Nat} {c : UInt8} (h : l[k]? = some c) : sgs (l.take (k + 1)) = sgs (l.take k) + (if isS c = true then 1 else 0) := by
  rw [List.take_add_one, h]; unfold sgs; rw [List.countP_append]; simp [List.countP_cons]

set_option maxRecDepth 100000 in
set_option maxHeartbeats 800000 in
theorem signs_any (s : ByteArray) (n : Nat) (w : World) (hs : s.size ≤ 1048576) (hn : sgs s.data.toList = n) :
    Calls Tryd.prog 66 #[.string s] w fun e w' => e = .returned (.int .i64 n) ∧ w' = w := by
  obtain ⟨l, hl⟩ : ∃ l, s.data.toList = l := ⟨_, rfl⟩
  have hsz' := hide (show s.size = l.length by rw [Lib.size_eq, hl])
  have hl' := hide hl
  rw [hl] at hn
  have hn' := hide hn
  clear hl hn
  go_enter Tryd.func66, Tryd.ntmps66
  go_wp2
  go_loop [3, 7] (fun m t => ∃ (k q : Nat), k ≤ s.size ∧ t = .int .i64 k ∧ m = .int .i64 q ∧ q ≤ k ∧ Hid (sgs (l.take k) = q)) (fun _ t => s.size - (intOf t).toNat)
  case atStart => exact ⟨0, 0, by omega, rfl, rfl, by omega, hide rfl⟩
  case round =>
    obtain ⟨k, q, hk, rfl, rfl, hq, hok⟩ := hrel
    by_cases hlt : k < s.size
    · have hlt2 : decide ((k : Int) < (s.size : Int)) = true := decide_eq_true (by omega)
      obtain ⟨c, hc⟩ : ∃ c, l[k]? = some c := ⟨l[k]'(by have := unhide hsz'; omega), List.getElem?_eq_getElem (by have := unhide hsz'; omega)⟩
      have hidx := fun w => idx_str (unhide hl') hc w
      have hone := hide (sgs_one hc)
      by_cases e1 : c.toNat < 128
      · have q3 : decide (((c.toNat : Nat) : Int) < 128) = true := decide_eq_true (by omega)
        have hb := hide (show sgs (l.take (k + 1)) = q + 1 by rw [unhide hone, unhide hok, if_pos (by unfold isS; rw [decide_eq_true e1]; rfl)])
        clear hc hone
        go_wp2
        go_round
        case rel => exact ⟨k + 1, q + 1, by omega, by go_num, by go_num, by omega, hb⟩
        case measure => simp [intOf]; omega
      have q3 : decide (((c.toNat : Nat) : Int) < 128) = false := decide_eq_false (by omega)
      by_cases e2 : 191 < c.toNat
      · have q4 : decide ((191 : Int) < ((c.toNat : Nat) : Int)) = true := decide_eq_true (by omega)
        have hb := hide (show sgs (l.take (k + 1)) = q + 1 by rw [unhide hone, unhide hok, if_pos (by unfold isS; rw [decide_eq_true e2]; simp)])
        clear hc hone
        go_wp2
        go_round
        case rel => exact ⟨k + 1, q + 1, by omega, by go_num, by go_num, by omega, hb⟩
        case measure => simp [intOf]; omega
      · have q4 : decide ((191 : Int) < ((c.toNat : Nat) : Int)) = false := decide_eq_false (by omega)
        have hb := hide (show sgs (l.take (k + 1)) = q by rw [unhide hone, unhide hok, if_neg (by unfold isS; rw [decide_eq_false e1, decide_eq_false e2]; decide)]; rfl)
        clear hc hone
        go_wp2
        go_round
        case rel => exact ⟨k + 1, q, by omega, by go_num, rfl, by omega, hb⟩
        case measure => simp [intOf]; omega
    · have hlt2 : decide ((k : Int) < (s.size : Int)) = false := decide_eq_false (by omega)
      have hfin := hide (show q = n by
        have := unhide hok
        rw [List.take_of_length_le (by have := unhide hsz'; omega)] at this
        rw [← this, unhide hn'])
      go_wp2
      go_ret
      exact ⟨ret_int (by rw [unhide hfin]), rfl⟩

set_option maxRecDepth 100000 in
set_option maxHeartbeats 1600000 in
theorem meas_any (s : ByteArray) (r m x : Nat) (w : World) (hs : s.size ≤ 1048576) (hM : MaxL w) (hr : (linesL s.data.toList).length = r) (hm : sms (linesL s.data.toList) = m) (hx : mxs (linesL s.data.toList) = x) :
    Calls Tryd.prog 58 #[.string s] w fun e w' => e = .returned (.tuple #[.int .i64 r, .int .i64 m, .int .i64 x]) ∧ Below w.heap.size w w' := by
  obtain ⟨mm, hmm⟩ := hM
  have cS := hide (Tryd.strings_Split s ⟨#[10]⟩ mm w (by omega) hmm (by decide))
  obtain ⟨L, hL⟩ : ∃ L, linesL s.data.toList = L := ⟨_, rfl⟩
  have hn : Lib.countB s ⟨#[10]⟩ + 1 = L.length := by rw [countB_nl, ← hL, linesL_len]
  have hwl : L.length ≤ 1048577 := by rw [← hn, countB_nl]; have := List.count_le_length (a := (10 : UInt8)) (l := s.data.toList); rw [← Lib.size_eq] at this; omega
  have hsz : Hid (∀ (k : Nat) (x : List UInt8), L[k]? = some x → x.length ≤ 1048576) := hide (by
    intro k x hx
    have := lines_le s.data.toList x (by rw [hL]; exact List.mem_of_getElem? hx)
    rw [← Lib.size_eq] at this; omega)
  rw [hn, split_cells, hL] at cS
  rw [hL] at hr hm hx
  have hend := hide (And.intro hr (And.intro hm hx))
  clear hn hL hmm hr hm hx
  go_enter Tryd.func58, Tryd.ntmps58
  go_wp2_with fail
  refine (unhide cS).mono ?_
  rintro e w1 ⟨rfl, hw1⟩
  have k1 := hide (show Below w.heap.size w w1 by rw [hw1]; exact (Below.refl _ _).alloc (Nat.le_refl _) _)
  have W1 := hide (show w1.heap[w.heap.size]? = some (.cells (L.map sW).toArray 9 (0, 0)) by rw [hw1]; exact alloc_new _ _)
  clear hw1 cS
  generalize hRb : w.heap.size = Rb at *
  go_wp2
  go_loopw [5, 6, 7, 14] (fun a b c t wr => ∃ (k p q : Nat), k ≤ L.length ∧ t = .int .i64 k ∧ a = .int .i64 k ∧ b = .int .i64 p ∧ c = .int .i64 q ∧ p ≤ 1048576 * k ∧ q ≤ 1048576 ∧ wr = w1 ∧ Hid (sms (L.take k) = p ∧ mxs (L.take k) = q)) (fun _ _ _ t _ => L.length - (intOf t).toNat)
  case atStart => exact ⟨0, 0, 0, by omega, rfl, rfl, rfl, rfl, by omega, by omega, rfl, hide ⟨rfl, rfl⟩⟩
  case round =>
    obtain ⟨k, p, q, hk, rfl, rfl, rfl, rfl, hp, hq, rfl, hok⟩ := hrel
    by_cases hlt : k < L.length
    · have hlt2 : decide ((k : Int) < (L.length : Int)) = true := decide_eq_true (by omega)
      obtain ⟨y, hy⟩ : ∃ y, L[k]? = some y := ⟨L[k], List.getElem?_eq_getElem hlt⟩
      have hcell := row_str (unhide W1) hy
      have hxl := unhide hsz k y hy
      obtain ⟨X, hX⟩ : ∃ X, (⟨y.toArray⟩ : ByteArray) = X := ⟨_, rfl⟩
      have hXd : X.data.toList = y := by rw [← hX]
      have hXs : X.size ≤ 1048576 := by rw [Lib.size_eq, hXd]; exact hxl
      rw [hX] at hcell
      obtain ⟨u, hu⟩ : ∃ u, sgs y = u := ⟨_, rfl⟩
      have hul : u ≤ 1048576 := by rw [← hu]; exact Nat.le_trans (sgs_le y) hxl
      have cl := hide (fun w => signs_any X u w hXs (by rw [hXd]; exact hu))
      have hb := hide (show sms (L.take (k + 1)) = p + u ∧ mxs (L.take (k + 1)) = max q u by
        rw [List.take_add_one, hy]
        simp only [Option.toList_some]
        rw [sms_snoc, mxs_snoc, (unhide hok).1, (unhide hok).2, hu]
        exact ⟨rfl, rfl⟩)
      have hmx : max (q : Int) (u : Int) = ((max q u : Nat) : Int) := by omega
      clear hu hy hX hXd hok
      go_wp2_with fail
      refine (unhide cl _).mono ?_
      rintro e w2 ⟨rfl, rfl⟩
      go_wp2
      go_roundw
      case rel => exact ⟨k + 1, p + u, max q u, by omega, by go_num, by go_num, by go_num, by first | rw [hmx] | (simp; omega) | go_num, by omega, by omega, by first | rfl | trivial, hb⟩
      case measure => simp [intOf]; omega
    · have hlt2 : decide ((k : Int) < (L.length : Int)) = false := decide_eq_false (by omega)
      have hfin := hide (show k = r ∧ p = m ∧ q = x by
        have := unhide hok
        rw [List.take_of_length_le (by omega)] at this
        exact ⟨by have := (unhide hend).1; omega, by rw [← this.1, (unhide hend).2.1], by rw [← this.2, (unhide hend).2.2]⟩)
      obtain ⟨e1, e2, e3⟩ := unhide hfin
      clear hfin hok
      subst e1 e2 e3
      clear hend
      go_wp2
      exact bodyPost_ret (v := .tuple #[.int .i64 k, .int .i64 p, .int .i64 q]) (by simp [results, Tryd.results58, go_sem]) rfl ⟨rfl, by rw [hRb]; exact unhide k1⟩

set_option maxHeartbeats 400000 in
theorem max_any (a b : Int) (w : World) : Calls Tryd.prog 42 #[.int .i64 a, .int .i64 b] w fun e w' => e = .returned (.int .i64 (max a b)) ∧ w' = w := by
  by_cases h : b < a
  · have g : decide (b < a) = true := decide_eq_true h
    have e : max a b = a := by omega
    rw [e]
    go_enter Tryd.func42, Tryd.ntmps42
    go_wp2
    go_ret
    exact ⟨rfl, rfl⟩
  · have g : decide (b < a) = false := decide_eq_false h
    have e : max a b = b := by omega
    rw [e]
    go_enter Tryd.func42, Tryd.ntmps42
    go_wp2
    go_ret
    exact ⟨rfl, rfl⟩

end Go.Proofs.YtcpllfjhhlbmiaaDoor
