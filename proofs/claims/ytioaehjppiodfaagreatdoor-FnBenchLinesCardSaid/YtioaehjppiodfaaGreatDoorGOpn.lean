/-
  Contracts of the functions, the model's and the program's, that tell whether something is a clip or a track, and how long a track is; nothing that was there is written.
  Contracts of the functions, the model's and the program's, that tell whether a list is a track, and how long it is; nothing that was there is written.
  Contracts of the program's functions that open a track, tell whether it is one, and how long it is; nothing that was there is written.
-/
import Derived.Test.YtioaehjppiodfaaGreatDoorGCopy
namespace Go.Proofs.YtioaehjppiodfaaGreatDoor
open Go.RowKit
set_option linter.unusedVariables false
set_option linter.unusedSimpArgs false

theorem cok_dec (s i n : Int) : decide (COk (s, i, n)) = (decide (1 ≤ n) && decide (n ≤ 10000000) && (decide (0 ≤ i) && decide (i + n ≤ 10000000)) && ((decide (1 ≤ s) && decide (s ≤ 500)) || (decide (s = 0) && decide (i = 0)))) := by
  rw [Bool.eq_iff_iff, decide_eq_true_iff]
  simp [COk, and_assoc]

set_option maxHeartbeats 400000 in
theorem gap_any (s i n : Int) (v : Bool) (w : World) (hv : decide (s = 0) = v) :
    Calls Tryz.prog 135 #[.agg #[.int .i64 s, .int .i64 i, .int .i64 n]] w fun e w' => e = .returned (.bool v) ∧ Below w.heap.size w w' := by
  subst hv
  go_enter Tryz.func135, Tryz.ntmps135
  go_wp2
  go_ret
  exact ⟨rfl, (Below.refl _ _).alloc (Nat.le_refl _) _⟩
set_option maxHeartbeats 400000 in
theorem isrc_any (x : Int) (v : Bool) (w : World) (hv : (decide (1 ≤ x) && decide (x ≤ 500)) = v) :
    Calls Tryz.prog 150 #[.int .i64 x] w fun e w' => e = .returned (.bool v) ∧ w' = w := by
  subst hv
  by_cases h1 : 1 ≤ x
  · by_cases h2 : x ≤ 500
    · go_enter Tryz.func150, Tryz.ntmps150
      go_wp2
      go_ret
      exact ⟨ret_bool (by simp [h1, h2]), rfl⟩
    · go_enter Tryz.func150, Tryz.ntmps150
      go_wp2
      go_ret
      exact ⟨ret_bool (by simp [h2]), rfl⟩
  · have hd : decide (1 ≤ x) = false := by simpa using h1
    go_enter Tryz.func150, Tryz.ntmps150
    go_wp2
    go_ret
    exact ⟨ret_bool (by simp), rfl⟩

set_option maxHeartbeats 1600000 in
theorem iclip_any (s i n : Int) (v : Bool) (w : World) (hv : decide (COk (s, i, n)) = v) :
    Calls Tryz.prog 129 #[.agg #[.int .i64 s, .int .i64 i, .int .i64 n]] w fun e w' => e = .returned (.bool v) ∧ Below w.heap.size w w' := by
  rw [cok_dec] at hv
  subst hv
  by_cases n0 : n < 1
  · have hn' : decide (1 ≤ n) = false := by simp; omega
    go_enter Tryz.func129, Tryz.ntmps129
    go_wp2
    go_ret
    exact ⟨ret_bool (by simp [hn']), (Below.refl _ _).alloc (Nat.le_refl _) _⟩
  have n0' : decide (n < 1) = false := by simpa using n0
  by_cases n1 : 10000000 < n
  · have hn' : decide (n ≤ 10000000) = false := by simp; omega
    go_enter Tryz.func129, Tryz.ntmps129
    go_wp2
    go_ret
    exact ⟨ret_bool (by simp [hn']), (Below.refl _ _).alloc (Nat.le_refl _) _⟩
  have n1' : decide (10000000 < n) = false := by simpa using n1
  by_cases h0 : s = 0
  · subst h0
    go_enter Tryz.func129, Tryz.ntmps129
    go_wp2_with fail
    refine (gap_any 0 i n true _ rfl).mono ?_
    rintro e w1 ⟨rfl, hb⟩
    obtain ⟨B1, B2⟩ := bcell hb
    go_wp2
    go_ret
    refine ⟨ret_bool ?_, ((Below.refl _ _).alloc (Nat.le_refl _) _).trans (hb.mono (by simp))⟩
    by_cases hi : i = 0
    · subst hi; simp; omega
    · simp [hi]
  have h0' : decide (s = 0) = false := by simpa using h0
  by_cases h1 : 1 ≤ s ∧ s ≤ 500
  · by_cases i0 : 0 ≤ i
    · go_enter Tryz.func129, Tryz.ntmps129
      go_wp2_with fail
      refine (gap_any s i n false _ h0').mono ?_
      rintro e w1 ⟨rfl, hb⟩
      obtain ⟨B1, B2⟩ := bcell hb
      go_wp2_with fail
      refine (isrc_any s true _ (by simp; omega)).mono ?_
      rintro e w1 ⟨rfl, rfl⟩
      go_wp2
      go_ret
      refine ⟨ret_bool ?_, ((Below.refl _ _).alloc (Nat.le_refl _) _).trans (hb.mono (by simp))⟩
      by_cases hs : i + n ≤ 10000000
      · have : i ≤ 10000000 - n := by omega
        simp [hs, this]; omega
      · have : ¬ i ≤ 10000000 - n := by omega
        simp [hs, this]
    · have i0' : decide (0 ≤ i) = false := by simpa using i0
      go_enter Tryz.func129, Tryz.ntmps129
      go_wp2_with fail
      refine (gap_any s i n false _ h0').mono ?_
      rintro e w1 ⟨rfl, hb⟩
      obtain ⟨B1, B2⟩ := bcell hb
      go_wp2_with fail
      refine (isrc_any s true _ (by simp; omega)).mono ?_
      rintro e w1 ⟨rfl, rfl⟩
      go_wp2
      go_ret
      exact ⟨ret_bool (by simp [i0']), ((Below.refl _ _).alloc (Nat.le_refl _) _).trans (hb.mono (by simp))⟩
  · have h1' : (decide (1 ≤ s) && decide (s ≤ 500)) = false := by simp; omega
    go_enter Tryz.func129, Tryz.ntmps129
    go_wp2_with fail
    refine (gap_any s i n false _ h0').mono ?_
    rintro e w1 ⟨rfl, hb⟩
    obtain ⟨B1, B2⟩ := bcell hb
    go_wp2_with fail
    refine (isrc_any s false _ h1').mono ?_
    rintro e w1 ⟨rfl, rfl⟩
    go_wp2
    go_ret
    exact ⟨ret_bool (by simp [h1', h0']), ((Below.refl _ _).alloc (Nat.le_refl _) _).trans (hb.mono (by simp))⟩

end Go.Proofs.YtioaehjppiodfaaGreatDoor

namespace Go.Proofs.YtioaehjppiodfaaGreatDoor
open Go.RowKit
set_option linter.unusedVariables false
set_option linter.unusedSimpArgs false

theorem kls_at {w wr : World} {a : Option Addr} {l : List Kl} {k : Nat} (h : Kls w a l) (hb : Below w.heap.size w wr) (hlt : k < l.length) :
    ∃ b o s i n, a = some ⟨b, o, none⟩ ∧ l[k]? = some (s, i, n) ∧ wr.cell? ⟨b, o + k * 3, none⟩ = some (.int .i64 s) ∧ wr.cell? ⟨b, o + k * 3 + 1, none⟩ = some (.int .i64 i) ∧ wr.cell? ⟨b, o + k * 3 + 2, none⟩ = some (.int .i64 n) := by
  obtain ⟨b, o, e, h1, c0, c1, c2⟩ := h k l[k] (List.getElem?_eq_getElem hlt)
  have C := fun o => (bcell hb).1 b o h1
  exact ⟨b, o, l[k].1, l[k].2.1, l[k].2.2, e, List.getElem?_eq_getElem hlt, (C _).trans c0, (C _).trans c1, (C _).trans c2⟩
theorem aok_take {l : List Kl} {k : Nat} {c : Kl} (h : AOk (l.take k)) (hx : l[k]? = some c) (hc : COk c) : AOk (l.take (k + 1)) := by
  rw [take_snocK hx]; exact h.append (AOk.cons hc AOk.nil)
theorem take_bd {l : List Kl} {k : Nat} (h : AOk (l.take k)) (hk : k ≤ l.length) : 0 ≤ clen (l.take k) ∧ clen (l.take k) ≤ k * 10000000 := by
  refine ⟨clen_nonneg h, ?_⟩
  have := clen_le h
  rw [List.length_take, Nat.min_eq_left hk] at this
  exact this
theorem not_tok {l : List Kl} {k : Nat} {c : Kl} (hx : l[k]? = some c) (hc : ¬ COk c) : ¬ TOk l := fun h => hc (h.2.1 c (List.mem_of_getElem? hx))

def lenOf (l : List Kl) : Int := if TOk l then clen l else -1
end Go.Proofs.YtioaehjppiodfaaGreatDoor

namespace Go.Proofs.YtioaehjppiodfaaGreatDoor
open Go.RowKit
set_option linter.unusedVariables false
set_option linter.unusedSimpArgs false

structure Opn (wr : World) (R T : Nat) (s : Value) (x : Int) : Prop where
  r0 : wr.cell? ⟨R, 0, none⟩ = some (.slice none 0 0)
  r1 : wr.cell? ⟨R, 1, none⟩ = some (.int .i64 0)
  fr0 : wr.frozen? ⟨R, 0, none⟩ = false
  fr1 : wr.frozen? ⟨R, 1, none⟩ = false
  t0 : wr.cell? ⟨T, 0, none⟩ = some s
  t1 : wr.cell? ⟨T, 1, none⟩ = some (.int .i64 x)
  ft1 : wr.frozen? ⟨T, 1, none⟩ = false
  lr : R < wr.heap.size
  lt : T < wr.heap.size
theorem ne_blk {b b' o o' : Nat} (h : b ≠ b') : (⟨b, o, none⟩ : Addr) ≠ ⟨b', o', none⟩ := by intro e; injection e with e; exact h e
theorem ne_addr {b o o' : Nat} (h : o ≠ o') : (⟨b, o, none⟩ : Addr) ≠ ⟨b, o', none⟩ := by intro e; injection e with _ e; exact h e
theorem Opn.later {wr w1 : World} {R T : Nat} {s : Value} {x : Int} (h : Opn wr R T s x) (hb : Below wr.heap.size wr w1) : Opn w1 R T s x := by
  obtain ⟨B1, B2⟩ := bcell hb
  exact ⟨(B1 _ _ h.lr).trans h.r0, (B1 _ _ h.lr).trans h.r1, (B2 _ _ h.lr).trans h.fr0, (B2 _ _ h.lr).trans h.fr1, (B1 _ _ h.lt).trans h.t0, (B1 _ _ h.lt).trans h.t1, (B2 _ _ h.lt).trans h.ft1, Nat.lt_of_lt_of_le h.lr hb.size, Nat.lt_of_lt_of_le h.lt hb.size⟩
theorem Opn.set {wr : World} {R T : Nat} {s : Value} {x : Int} (h : Opn wr R T s x) (hne : R ≠ T) (y : Int) : Opn (wr.setCell ⟨T, 1, none⟩ (.int .i64 y)) R T s y := by
  refine ⟨?_, ?_, ?_, ?_, ?_, World.cell?_setCell_same _ _ _ h.t1, ?_, by simp; exact h.lr, by simp; exact h.lt⟩
  · rw [World.cell?_setCell_other _ _ _ _ (ne_blk (by first | exact hne | exact Ne.symm hne))]; exact h.r0
  · rw [World.cell?_setCell_other _ _ _ _ (ne_blk (by first | exact hne | exact Ne.symm hne))]; exact h.r1
  · rw [World.frozen?_setCell]; exact h.fr0
  · rw [World.frozen?_setCell]; exact h.fr1
  · rw [World.cell?_setCell_other _ _ _ _ (ne_addr (by decide))]; exact h.t0
  · rw [World.frozen?_setCell]; exact h.ft1

/-- what opening answers -/
def openV (a : Option Addr) (cap : Nat) (l : List Kl) : Value := if TOk l then .tuple #[.agg #[.slice a l.length cap, .int .i64 (clen l)], .bool true] else .tuple #[.agg #[.slice none 0 0, .int .i64 0], .bool false]

set_option maxHeartbeats 1600000 in
theorem opened_any (a : Option Addr) (cap : Nat) (l : List Kl) (w : World) (hl : l.length ≤ maxLen) (hk : Kls w a l) :
    Calls Tryz.prog 110 #[.slice a l.length cap] w fun e w' => e = .returned (openV a cap l) ∧ Below w.heap.size w w' := by
  have hk' := hide hk
  clear hk
  unfold maxLen at hl
  by_cases hbig : 300 < l.length
  · have hv : openV a cap l = .tuple #[.agg #[.slice none 0 0, .int .i64 0], .bool false] := by unfold openV; rw [if_neg (fun h => by have := h.1; omega)]
    have hbig' : decide ((300 : Int) < l.length) = true := by simp; omega
    rw [hv]
    clear hv
    go_enter Tryz.func110, Tryz.ntmps110
    go_wp2
    exact bodyPost_ret (v := .tuple #[.agg #[.slice none 0 0, .int .i64 0], .bool false]) (by simp [results, Tryz.results110, go_sem]) rfl ⟨rfl, by repeat first | exact Below.refl _ _ | refine Below.setCell ?_ (by simp <;> omega) _ | refine Below.alloc ?_ (by simp <;> omega) _⟩
  have hbig' : decide ((300 : Int) < l.length) = false := by simp; omega
  have hst : Opn ((w.alloc (.cells #[.slice none 0 0, .int .i64 0] 133)).alloc (.cells #[.slice a l.length cap, .int .i64 0] 133)) w.heap.size (w.heap.size + 1) (.slice a l.length cap) 0 := by
    refine ⟨?_, ?_, ?_, ?_, ?_, ?_, ?_, ?_, ?_⟩ <;> simp [go_sem]
  have hB0 : Below w.heap.size w ((w.alloc (.cells #[.slice none 0 0, .int .i64 0] 133)).alloc (.cells #[.slice a l.length cap, .int .i64 0] 133)) := ((Below.refl _ _).alloc (Nat.le_refl _) _).alloc (by simp) _
  have hst' := hide hst
  have hB0' := hide hB0
  clear hst hB0
  go_enter Tryz.func110, Tryz.ntmps110
  go_wp2
  go_loopw [15] (fun t wr => ∃ k : Nat, k ≤ l.length ∧ t = .int .i64 k ∧ Hid (Opn wr w.heap.size (w.heap.size + 1) (.slice a l.length cap) (clen (l.take k))) ∧ Hid (AOk (l.take k)) ∧ Hid (Below w.heap.size w wr)) (fun t _ => l.length - (intOf t).toNat)
  case atStart => exact ⟨0, by omega, rfl, hst', hide (by simp; exact AOk.nil), hB0'⟩
  case round =>
    obtain ⟨k, hk, rfl, hO, hA, hw⟩ := hrel
    obtain ⟨b0, b1⟩ := take_bd (unhide hA) hk
    by_cases hlt : k < l.length
    · obtain ⟨b, o, s, i, n, rfl, hx, c0, c1, c2⟩ := kls_at (unhide hk') (unhide hw) hlt
      have hx' := hide hx
      have hcl := hide (clen_take hx)
      clear hx
      have hO1 := hide ((unhide hO).later (w1 := wr.alloc (.cells #[.int .i64 s, .int .i64 i, .int .i64 n] 94)) ((Below.refl _ _).alloc (Nat.le_refl _) _))
      have hW1 := hide (laterB (unhide hw) (w1 := wr.alloc (.cells #[.int .i64 s, .int .i64 i, .int .i64 n] 94)) ((Below.refl _ _).alloc (Nat.le_refl _) _))
      have hcc : (wr.alloc (.cells #[.int .i64 s, .int .i64 i, .int .i64 n] 94)).cell? ⟨wr.heap.size, 2, none⟩ = some (.int .i64 n) := by simp [go_sem]
      by_cases hc : COk (s, i, n)
      · have n0 := hc.1
        have n1 := hc.2.1
        have hc' := hide hc
        clear hc
        simp only at n0 n1
        go_wp2_with fail
        refine (iclip_any s i n true _ (by simpa using unhide hc')).mono ?_
        rintro e w1 ⟨rfl, hb⟩
        have d2 := cell_later hb hcc
        have hO2 := hide ((unhide hO1).later hb)
        have hw2 := hide (laterB (unhide hW1) hb)
        have x1 := (unhide hO2).t1
        have x2 := (unhide hO2).ft1
        clear hb hw c0 c1 c2 hO hO1 hW1 hcc
        go_wp2
        go_roundw
        case rel => exact ⟨k + 1, by omega, by go_num, hide (by rw [unhide hcl]; exact (unhide hO2).set (by omega) _), hide (aok_take (unhide hA) (unhide hx') (unhide hc')), hide ((unhide hw2).setCell (by simp) _)⟩
        case measure => simp [intOf]; omega
      · have hv2 : openV (some ⟨b, o, none⟩) cap l = .tuple #[.agg #[.slice none 0 0, .int .i64 0], .bool false] := by unfold openV; rw [if_neg (not_tok (unhide hx') hc)]
        have hv3 := hide hv2
        have hc2 := hide (show decide (COk (s, i, n)) = false from decide_eq_false hc)
        clear hc hv2
        go_wp2_with fail
        refine (iclip_any s i n false _ (unhide hc2)).mono ?_
        rintro e w1 ⟨rfl, hb⟩
        have hO2 := hide ((unhide hO1).later hb)
        have hw2 := hide (laterB (unhide hW1) hb)
        have x0 := (unhide hO2).r0
        have x1 := (unhide hO2).r1
        have x2 := (unhide hO2).fr0
        have x3 := (unhide hO2).fr1
        clear hb hw c0 c1 c2 hO hO1 hW1 hcc
        go_wp2
        exact bodyPost_ret (v := .tuple #[.agg #[.slice none 0 0, .int .i64 0], .bool false]) (by simp [results, Tryz.results110, go_sem, x0, x1]) rfl ⟨by rw [unhide hv3], ((unhide hw2).setCell (by simp) _).setCell (by simp) _⟩
    · have hke : k = l.length := by omega
      have hAl : AOk l := by have := unhide hA; rw [hke, List.take_length] at this; exact this
      have hcl : clen (l.take k) = clen l := by rw [hke, List.take_length]
      have hO2 : Hid (Opn wr w.heap.size (w.heap.size + 1) (.slice a l.length cap) (clen l)) := hide (by rw [← hcl]; exact unhide hO)
      rw [hcl] at b0 b1
      clear hO hA hcl
      have x0 := (unhide hO2).r0
      have x1 := (unhide hO2).r1
      have x2 := (unhide hO2).fr0
      have x3 := (unhide hO2).fr1
      have y0 := (unhide hO2).t0
      have y1 := (unhide hO2).t1
      by_cases hm : clen l ≤ 10000000
      · have hm' : decide (10000000 < clen l) = false := by simp; omega
        have hv2 : openV a cap l = .tuple #[.agg #[.slice a l.length cap, .int .i64 (clen l)], .bool true] := by unfold openV; rw [if_pos ⟨by omega, hAl, hm⟩]
        have hv3 := hide hv2
        clear hv2 hAl hm
        go_wp2
        exact bodyPost_ret (v := .tuple #[.agg #[.slice a l.length cap, .int .i64 (clen l)], .bool true]) (by simp [results, Tryz.results110, go_sem, x0, x1]) rfl ⟨by rw [unhide hv3], ((unhide hw).setCell (by simp) _).setCell (by simp) _⟩
      · have hm' : decide (10000000 < clen l) = true := by simp; omega
        have hv2 : openV a cap l = .tuple #[.agg #[.slice none 0 0, .int .i64 0], .bool false] := by unfold openV; rw [if_neg (fun h => hm h.2.2)]
        have hv3 := hide hv2
        clear hv2 hAl hm
        go_wp2
        exact bodyPost_ret (v := .tuple #[.agg #[.slice none 0 0, .int .i64 0], .bool false]) (by simp [results, Tryz.results110, go_sem, x0, x1]) rfl ⟨by rw [unhide hv3], ((unhide hw).setCell (by simp) _).setCell (by simp) _⟩

theorem openV_ok {a : Option Addr} {cap : Nat} {l : List Kl} (h : TOk l) : openV a cap l = .tuple #[.agg #[.slice a l.length cap, .int .i64 (clen l)], .bool true] := by unfold openV; rw [if_pos h]
theorem openV_no {a : Option Addr} {cap : Nat} {l : List Kl} (h : ¬ TOk l) : openV a cap l = .tuple #[.agg #[.slice none 0 0, .int .i64 0], .bool false] := by unfold openV; rw [if_neg h]
theorem opened_ok (a : Option Addr) (cap : Nat) (l : List Kl) (w : World) (h : TOk l) (hk : Kls w a l) :
    Calls Tryz.prog 110 #[.slice a l.length cap] w fun e w' => e = .returned (.tuple #[.agg #[.slice a l.length cap, .int .i64 (clen l)], .bool true]) ∧ Below w.heap.size w w' := by
  rw [← openV_ok h]; exact opened_any a cap l w (by have := h.1; unfold maxLen; omega) hk
theorem opened_no (a : Option Addr) (cap : Nat) (l : List Kl) (w : World) (hl : l.length ≤ maxLen) (h : ¬ TOk l) (hk : Kls w a l) :
    Calls Tryz.prog 110 #[.slice a l.length cap] w fun e w' => e = .returned (.tuple #[.agg #[.slice none 0 0, .int .i64 0], .bool false]) ∧ Below w.heap.size w w' := by
  rw [← openV_no h]; exact opened_any a cap l w hl hk

set_option maxHeartbeats 800000 in
theorem itrack_any (a : Option Addr) (cap : Nat) (l : List Kl) (v : Bool) (w : World) (hl : l.length ≤ maxLen) (hk : Kls w a l) (hv : decide (TOk l) = v) :
    Calls Tryz.prog 131 #[.slice a l.length cap] w fun e w' => e = .returned (.bool v) ∧ Below w.heap.size w w' := by
  subst hv
  have hk' := hide hk
  clear hk
  by_cases h : TOk l
  · rw [decide_eq_true h]
    have h' := hide h
    clear h
    go_enter Tryz.func131, Tryz.ntmps131
    go_wp2_with fail
    refine (opened_ok a cap l _ (unhide h') (unhide hk')).mono ?_
    rintro e w1 ⟨rfl, hb⟩
    go_wp2
    go_ret
    exact ⟨rfl, by first | exact hb | exact hb.alloc hb.size _⟩
  · rw [decide_eq_false h]
    have h' := hide h
    clear h
    go_enter Tryz.func131, Tryz.ntmps131
    go_wp2_with fail
    refine (opened_no a cap l _ hl (unhide h') (unhide hk')).mono ?_
    rintro e w1 ⟨rfl, hb⟩
    go_wp2
    go_ret
    exact ⟨rfl, by first | exact hb | exact hb.alloc hb.size _⟩

set_option maxHeartbeats 800000 in
theorem ilength_any (a : Option Addr) (cap : Nat) (l : List Kl) (w : World) (hl : l.length ≤ maxLen) (hk : Kls w a l) :
    Calls Tryz.prog 112 #[.slice a l.length cap] w fun e w' => e = .returned (.int .i64 (lenOf l)) ∧ Below w.heap.size w w' := by
  have hk' := hide hk
  clear hk
  by_cases h : TOk l
  · have h' := hide h
    unfold lenOf
    rw [if_pos h]
    clear h
    go_enter Tryz.func112, Tryz.ntmps112
    go_wp2_with fail
    refine (opened_ok a cap l _ (unhide h') (unhide hk')).mono ?_
    rintro e w1 ⟨rfl, hb⟩
    go_wp2
    go_ret
    exact ⟨rfl, by first | exact hb | exact hb.alloc hb.size _⟩
  · have h' := hide h
    unfold lenOf
    rw [if_neg h]
    clear h
    go_enter Tryz.func112, Tryz.ntmps112
    go_wp2_with fail
    refine (opened_no a cap l _ hl (unhide h') (unhide hk')).mono ?_
    rintro e w1 ⟨rfl, hb⟩
    go_wp2
    go_ret
    exact ⟨rfl, by first | exact hb | exact hb.alloc hb.size _⟩

end Go.Proofs.YtioaehjppiodfaaGreatDoor
