/-
  What titles are: the contracts of the program's test; nothing that was there is written.
-/
import Derived.Test.YtcpllfjhhlbmiaaDoorITx
import Derived.Test.YtcpllfjhhlbmiaaDoorCopyL
namespace Go.Proofs.YtcpllfjhhlbmiaaDoor
open Go.RowKit
set_option linter.unusedVariables false
set_option linter.unusedSimpArgs false

theorem below_drewN {N : Nat} {W w : World} (h : Below N W w) (n : Nat) : Below N W (w.drewN n) := ⟨h.os, h.tape, h.output, h.size, h.block⟩
theorem ttOk_parts (e : Int) (x y : Int) (s : ByteArray) : ttOk e (x, y, s) = ((decide (e ≤ x) && decide (x < y)) && (decide (y ≤ 359999999) && txOk s.data.toList)) := by
  simp [ttOk, Bool.and_assoc]
theorem end_ge {l : List Kl} : ∀ {e : Int}, 0 ≤ e → tsOk e l = true → 0 ≤ endOf e l := by
  induction l with
  | nil => intro e h _; simpa [endOf] using h
  | cons x l ih =>
    intro e he h
    simp only [tsOk, Bool.and_eq_true] at h
    obtain ⟨h1, h2⟩ := h
    obtain ⟨x0, x1, s⟩ := x
    rw [ttOk_parts] at h1
    simp only [Bool.and_eq_true, decide_eq_true_eq] at h1
    have h3 := ih (e := x1) (by omega) h2
    cases l with
    | nil => simpa [endOf] using (show (0 : Int) ≤ x1 by omega)
    | cons z l =>
      unfold endOf at h3 ⊢
      rw [List.getLast?_cons_cons]
      cases hg : (z :: l).getLast? with
      | none => simp at hg
      | some q => rw [hg] at h3; exact h3
theorem end_at {l : List Kl} {k : Nat} {p : Kl} (hk : k ≠ 0) (hp : l[k - 1]? = some p) : endOf 0 (l.take k) = p.2.1 := by
  have e : k = (k - 1) + 1 := by omega
  rw [e, take_snocK hp, endOf_snoc]
theorem end_0 (l : List Kl) : endOf 0 (l.take 0) = 0 := rfl
theorem ts_next {l : List Kl} {k : Nat} {x : Kl} (h : tsOk 0 (l.take k) = true) (hx : l[k]? = some x) (ho : ttOk (endOf 0 (l.take k)) x = true) : tsOk 0 (l.take (k + 1)) = true := by
  rw [take_snocK hx, tsOk_snoc, h, ho]; rfl
theorem ts_stop {l : List Kl} {k : Nat} {x : Kl} {v : Bool} (hv : tOk l = v) (hx : l[k]? = some x) (h : ttOk (endOf 0 (l.take k)) x = false) : false = v := by
  rw [← hv]; unfold tOk; rw [tsOk_stop hx h]; simp
theorem ts_end {l : List Kl} {k : Nat} {v : Bool} (hv : tOk l = v) (hl : l.length ≤ 200) (hk : l.length ≤ k) (h : tsOk 0 (l.take k) = true) : true = v := by
  rw [List.take_of_length_le hk] at h
  rw [← hv]; unfold tOk; rw [h, decide_eq_true hl]; rfl
theorem ts_long {l : List Kl} {v : Bool} (hv : tOk l = v) (hl : 200 < l.length) : false = v := by
  rw [← hv]; unfold tOk; rw [decide_eq_false (by omega)]; rfl

set_option maxRecDepth 100000 in
set_option maxHeartbeats 1600000 in
theorem iok_any (a : Option Addr) (cap : Nat) (l : List Kl) (v : Bool) (w : World) (hl : l.length ≤ 1048576) (hr : Kls w a l) (hsz : ∀ x ∈ l, x.2.2.size ≤ 1048576) (hM : MaxL w) (hv : tOk l = v) :
    Calls Tryd.prog 13 #[.slice a l.length cap] w fun e w' => e = .returned (.bool v) ∧ Below w.heap.size w w' := by
  have hr' := hide hr
  have hsz' := hide hsz
  have hM' := hide hM
  have hv' := hide hv
  clear hr hsz hM hv
  by_cases h2 : 200 < l.length
  · have g2 : decide ((200 : Int) < (l.length : Int)) = true := decide_eq_true (by omega)
    go_enter Tryd.func13, Tryd.ntmps13
    go_wp2
    go_ret
    exact ⟨ret_bool (ts_long (unhide hv') h2), Below.refl _ _⟩
  have g2 : decide ((200 : Int) < (l.length : Int)) = false := decide_eq_false (by omega)
  go_enter Tryd.func13, Tryd.ntmps13
  go_wp2
  go_loopw [3, 11] (fun e t wr => ∃ k : Nat, k ≤ l.length ∧ t = .int .i64 k ∧ e = .int .i64 (endOf 0 (l.take k)) ∧ Hid (tsOk 0 (l.take k) = true) ∧ Hid (Below w.heap.size w wr)) (fun _ t _ => l.length - (intOf t).toNat)
  case atStart => exact ⟨0, by omega, rfl, rfl, hide rfl, hide (Below.refl _ _)⟩
  case round =>
    obtain ⟨k, hk, rfl, rfl, hok, hb⟩ := hrel
    by_cases hlt : k < l.length
    · have hlt2 : decide ((k : Int) < (l.length : Int)) = true := decide_eq_true (by omega)
      obtain ⟨x, hx⟩ : ∃ x, l[k]? = some x := ⟨l[k], List.getElem?_eq_getElem hlt⟩
      obtain ⟨b, o, rfl, i1, c0, c1, c2⟩ := unhide hr' k x hx
      have hxs := unhide hsz' x (List.mem_of_getElem? hx)
      obtain ⟨x, y, s⟩ := x
      simp only at c0 c1 c2 hxs
      have C := fun o => (bcell (unhide hb)).1 b o i1
      rw [← C] at c0 c1 c2
      have hmw := (unhide hM').below (unhide hb)
      have hst := hide (fun h => ts_stop (unhide hv') hx h)
      have hnx := hide (fun h => ts_next (unhide hok) hx h)
      have hen := hide (show endOf 0 (l.take (k + 1)) = y by rw [take_snocK hx, endOf_snoc])
      rw [ttOk_parts] at hst hnx
      clear hx C
      generalize endOf 0 (l.take k) = e0 at *
      have hsz1 := (unhide hb).size
      obtain ⟨u, hu⟩ : ∃ u, (decide (e0 ≤ x) && decide (x < y)) = u := ⟨_, rfl⟩
      have ct := hide (fun w => turn_any x y e0 s u w hu)
      rw [hu] at hst hnx
      clear hu
      go_wp2_with fail
      have W0 := alloc_new wr (.cells #[.int .i64 x, .int .i64 y, .string s] 32)
      have B0 : Below w.heap.size w (wr.alloc (.cells #[.int .i64 x, .int .i64 y, .string s] 32)) := (unhide hb).alloc hsz1 _
      have M0 := hmw.below ((Below.refl _ wr).alloc (Nat.le_refl _) (.cells #[.int .i64 x, .int .i64 y, .string s] 32))
      generalize wr.alloc (.cells #[.int .i64 x, .int .i64 y, .string s] 32) = X at *
      generalize wr.heap.size = q at *
      clear c0 c1 c2 hb hmw hsz1 i1
      refine (unhide ct _).mono ?_
      rintro e w1 ⟨rfl, k1⟩
      replace W0 := blk_below W0 k1
      replace M0 := M0.below k1
      replace B0 := laterB B0 k1
      clear k1 ct X
      obtain ⟨c0, c1, c2⟩ := blk3 W0
      cases u
      · have hb := hide (unhide hst rfl)
        clear hst hnx
        go_wp2
        go_ret
        exact ⟨ret_bool (unhide hb), B0⟩
      by_cases h3 : (359999999 : Int) < y
      · have g3 : decide ((359999999 : Int) < y) = true := decide_eq_true h3
        have hb := hide (unhide hst (by rw [decide_eq_false (p := y ≤ 359999999) (by omega)]; rfl))
        clear hst hnx
        go_wp2
        go_ret
        exact ⟨ret_bool (unhide hb), B0⟩
      have g3 : decide ((359999999 : Int) < y) = false := decide_eq_false h3
      rw [decide_eq_true (p := y ≤ 359999999) (by omega)] at hst hnx
      obtain ⟨u, hu⟩ : ∃ u, txOk s.data.toList = u := ⟨_, rfl⟩
      have cx := hide (itext_any s u w1 hxs M0 hu)
      rw [hu] at hst hnx
      clear hu M0
      have B1 := hide B0
      clear B0
      go_wp2_with fail
      refine (unhide cx).mono ?_
      rintro e w2 ⟨rfl, k2⟩
      replace W0 := blk_below W0 k2
      have B2 := hide (laterB (unhide B1) k2)
      clear k2 cx B1 c0 c1 c2
      obtain ⟨c0, c1, c2⟩ := blk3 W0
      cases u
      · have hb := hide (unhide hst rfl)
        clear hst hnx
        go_wp2
        go_ret
        exact ⟨ret_bool (unhide hb), unhide B2⟩
      · have hb := hide (unhide hnx rfl)
        clear hst hnx
        go_wp2
        go_roundw
        case rel => exact ⟨k + 1, by omega, by go_num, by rw [unhide hen], hb, B2⟩
        case measure => simp [intOf]; omega
    · have hlt2 : decide ((k : Int) < (l.length : Int)) = false := decide_eq_false (by omega)
      have hfin := hide (ts_end (unhide hv') (by omega) (by omega) (unhide hok))
      go_wp2
      go_ret
      exact ⟨ret_bool (unhide hfin), unhide hb⟩

end Go.Proofs.YtcpllfjhhlbmiaaDoor
