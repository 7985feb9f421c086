/-
  Contracts of the model's and the program's Turn; marks in a list of whatever kind; nothing that was there is written.
-/
import Derived.Test.YtcchgjeopmaemaaRRRSTn
import Derived.Test.YtcchgjeopmaemaaRRRAsl
namespace Go.Proofs.YtcchgjeopmaemaaRRR
open Go.RowKit
set_option linter.unusedVariables false
set_option linter.unusedSimpArgs false

set_option maxHeartbeats 800000 in
theorem markt_any {t9 : TypeId} (B g n cap : Nat) (q : Int) (xs : List Value) (w : World) (hn : n ≤ 10000000) (q0 : 0 ≤ q) (q1 : q ≤ 100000000) (h : w.ownsRow B t9 1 (.slice (some ⟨g, 0, none⟩) n cap) n xs) :
    Calls Try.prog 24 #[.slice (some ⟨g, 0, none⟩) n cap, .int .i64 q] w fun e w' => e = .returned (.int .i64 (q + n)) ∧ (∃ ys, w'.ownsRow B t9 1 (.slice (some ⟨g, 0, none⟩) n cap) n ys ∧ Mkd q n ys) ∧ w.grownBy w' (some g) := by
  have h' := hide h
  clear h
  go_enter Try.func24, Try.ntmps24
  go_wp2
  go_loopw [1, 5] (fun s t wr => ∃ k : Nat, k ≤ n ∧ t = .int .i64 k ∧ s = .int .i64 (q + k) ∧ Hid (∃ ys, wr.ownsRow B t9 1 (.slice (some ⟨g, 0, none⟩) n cap) n ys ∧ Mkd q k ys) ∧ Hid (w.grownBy wr (some g))) (fun _ t _ => n - (intOf t).toNat)
  case atStart => exact ⟨0, by omega, rfl, by simp, hide ⟨xs, unhide h', fun j hj => by omega⟩, hide (grown_refl _ _)⟩
  case round =>
    obtain ⟨k, hk, rfl, rfl, hown, hg⟩ := hrel
    by_cases hlt : k < n
    · obtain ⟨ys, hy, hm⟩ := unhide hown
      obtain ⟨v, c0, f0, _, hl⟩ := own_at (i := k) hy (by omega)
      have hnew := hide (show ∃ ys, (wr.setCell ⟨g, k, none⟩ (.int .i64 (q + k))).ownsRow B t9 1 (.slice (some ⟨g, 0, none⟩) n cap) n ys ∧ Mkd q (k + 1) ys from ⟨_, (hy.stored k (iv (q + k))).1, hm.set (by omega)⟩)
      clear hown hy hm hl
      go_wp2
      go_roundw
      case rel => exact ⟨k + 1, by omega, by go_num, by go_num, hnew, hide (grown_set (unhide hg))⟩
      case measure => simp [intOf]; omega
    · have hke : k = n := by omega
      have hf : Hid (∃ ys, wr.ownsRow B t9 1 (.slice (some ⟨g, 0, none⟩) n cap) n ys ∧ Mkd q n ys) := hide (by have := unhide hown; rw [hke] at this; exact this)
      clear hown
      go_wp2
      go_ret
      exact ⟨ret_int (by omega), unhide hf, unhide hg⟩

set_option maxHeartbeats 800000 in
theorem heldt_any {t9 : TypeId} (B g n cap : Nat) (q : Int) (xs : List Value) (w : World) (hn : n ≤ 10000000) (q0 : 0 ≤ q) (q1 : q ≤ 100000000) (h : w.ownsRow B t9 1 (.slice (some ⟨g, 0, none⟩) n cap) n xs) (hm : Mkd q n xs) :
    Calls Try.prog 25 #[.slice (some ⟨g, 0, none⟩) n cap, .int .i64 q] w fun e w' => e = .returned (.int .i64 (q + n)) ∧ w' = w := by
  have h' := hide h
  have hm' := hide hm
  clear h hm
  go_enter Try.func25, Try.ntmps25
  go_wp2
  go_loop [1, 5] (fun s t => ∃ k : Nat, k ≤ n ∧ t = .int .i64 k ∧ s = .int .i64 (q + k)) (fun _ t => n - (intOf t).toNat)
  case atStart => exact ⟨0, by omega, rfl, by simp⟩
  case round =>
    obtain ⟨k, hk, rfl, rfl⟩ := hrel
    by_cases hlt : k < n
    · obtain ⟨v, c0, f0, hv, hl⟩ := own_at (i := k) (unhide h') (by omega)
      rw [unhide hm' k hlt] at hv
      cases hv
      have c1 : w.cell? ⟨g, k, none⟩ = some (.int .i64 (q + k)) := c0
      have s0 : ((q + k) != (q + k)) = false := by simp
      clear c0 f0 hl
      go_wp2
      go_round
      case rel => exact ⟨k + 1, by omega, by go_num, by go_num⟩
      case measure => simp [intOf]; omega
    · have hke : k = n := by omega
      go_wp2
      go_ret
      exact ⟨ret_int (by omega), rfl⟩

/-- an answer that is a new list, of whatever kind of block -/
def AnX (w : World) (L : List Int) (e : Ending) (w' : World) : Prop := ∃ (t : TypeId) (G cap : Nat), e = .returned (.slice (some ⟨G, 0, none⟩) L.length cap) ∧ w.heap.size ≤ G ∧ w'.ownsRow w.heap.size t 1 (.slice (some ⟨G, 0, none⟩) L.length cap) L.length (L.map iv) ∧ Below w.heap.size w w'
theorem AnI.x {w w' : World} {L : List Int} {e : Ending} (h : AnI w L e w') : AnX w L e w' := by
  obtain ⟨G, c, h1, h2, h3, h4⟩ := h
  exact ⟨2, G, c, h1, h2, h3, h4⟩
theorem ins_ownX {w : World} {t : TypeId} {B g n cap : Nat} {l : List Int} (h : w.ownsRow B t 1 (.slice (some ⟨g, 0, none⟩) n cap) n (l.map iv)) : Ins w (some ⟨g, 0, none⟩) l := by
  intro j z hj
  have hl : (l.map iv).length = n * 1 := h.1
  have hjl : j < l.length := (List.getElem?_eq_some_iff.1 hj).1
  refine ⟨g, 0, rfl, own_lt h, ?_⟩
  rw [Nat.zero_add, h.cellAt j (by simp at hl; omega), List.getElem?_map, hj]; rfl

set_option maxHeartbeats 1600000 in
theorem sturn_any (a : Option Addr) (cap : Nat) (l : List Int) (w : World) (hl : l.length ≤ maxLen) (hk : Ins w a l) :
    Calls Try.prog 13 #[.slice a l.length cap] w (AnI w (trnOf l)) := by
  have hk' := hide hk
  clear hk
  unfold maxLen at hl
  by_cases hn : l.length = 16
  rotate_left
  · rw [trn_no (fun h => hn h.1)]
    have g0 : ((l.length : Int) != 16) = true := by simp; omega
    clear hn
    go_enter Try.func13, Try.ntmps13
    go_wp2
    go_ret
    exact an_nil w
  rw [hn]
  have hn' := hide hn
  clear hn hl
  go_enter Try.func13, Try.ntmps13
  go_wp2
  go_loop [3] (fun t => ∃ k : Nat, k ≤ 16 ∧ t = .int .i64 k ∧ Hid (NsPre By7 l k)) (fun t => 16 - (intOf t).toNat)
  case atStart => exact ⟨0, by omega, rfl, hide (NsPre.zero _ l)⟩
  case round =>
    obtain ⟨k, hk, rfl, hA⟩ := hrel
    by_cases hlt : k < 16
    · obtain ⟨b, o, x, rfl, hx, hbl, c0⟩ := ins_at (unhide hk') (Below.refl _ _) (show k < l.length by rw [unhide hn']; exact hlt)
      have hx' := hide hx
      clear hx hbl
      by_cases f0 : By7 x
      · have hS := hide ((by7_b x).symm.trans (decide_eq_true f0))
        have hnew := hide ((unhide hA).step (unhide hx') f0)
        clear f0 hA
        go_wp2_with fail
        refine (sby_any x true _ (unhide hS)).mono ?_
        rintro e w1 ⟨rfl, hw0⟩
        have hw1 := hw0.symm
        subst hw1
        go_wp2
        go_round
        case rel => exact ⟨k + 1, by omega, by go_num, hnew⟩
        case measure => simp [intOf]; omega
      · have hS := hide ((by7_b x).symm.trans (decide_eq_false f0))
        have hno := hide (trn_no (fun h => f0 (h.2 x (List.mem_of_getElem? (unhide hx')))))
        clear f0 hA
        go_wp2_with fail
        refine (sby_any x false _ (unhide hS)).mono ?_
        rintro e w1 ⟨rfl, hw0⟩
        have hw1 := hw0.symm
        subst hw1
        go_wp2
        go_ret
        rw [unhide hno]
        exact an_nil w
    · have hke : k = 16 := by omega
      subst hke
      have hT : Hid (TnOk l) := hide ⟨unhide hn', NsPre.all (by rw [unhide hn']; exact unhide hA)⟩
      clear hA
      go_wp2_with fail
      refine (strn_any a cap l _ (unhide hn') ((tn_bdd (unhide hT)).mono (by omega)) (unhide hk')).mono ?_
      intro e w1 hS
      have hS' := hide hS
      clear hS
      obtain ⟨G, c, rfl, q1, q2, q3⟩ := unhide hS'
      rw [fl_len]
      go_wp2
      go_ret
      rw [trn_yes (unhide hT)]
      refine ⟨G, c, ?_, q1, q2, q3⟩
      rw [fl_len]; rfl

set_option maxHeartbeats 1600000 in
theorem iturn_any (a : Option Addr) (cap : Nat) (l : List Int) (w : World) (hl : l.length ≤ maxLen) (hk : Ins w a l) :
    Calls Try.prog 11 #[.slice a l.length cap] w (AnX w (trnOf l)) := by
  have hk' := hide hk
  clear hk
  unfold maxLen at hl
  by_cases hn : l.length = 16
  rotate_left
  · rw [trn_no (fun h => hn h.1)]
    have g0 : ((l.length : Int) != 16) = true := by simp; omega
    clear hn
    go_enter Try.func11, Try.ntmps11
    go_wp2
    go_ret
    exact (an_nil w).x
  rw [hn]
  have hn' := hide hn
  have hA16 := arr16
  clear hn hl
  go_enter Try.func11, Try.ntmps11
  go_wp2
  go_loop [12] (fun t => ∃ k : Nat, k ≤ 16 ∧ t = .int .i64 k ∧ Hid (NsPre By7 l k)) (fun t => 16 - (intOf t).toNat)
  case atStart => exact ⟨0, by omega, rfl, hide (NsPre.zero _ l)⟩
  case round =>
    obtain ⟨k, hk, rfl, hA⟩ := hrel
    by_cases hlt : k < 16
    · obtain ⟨b, o, x, rfl, hx, hbl, c0⟩ := ins_at (unhide hk') (Below.refl _ _) (show k < l.length by rw [unhide hn']; exact hlt)
      have hx' := hide hx
      clear hx hbl
      by_cases f0 : By7 x
      · have hS := hide ((by7_b x).symm.trans (decide_eq_true f0))
        have hnew := hide ((unhide hA).step (unhide hx') f0)
        obtain ⟨f1, f2⟩ := f0
        clear hA hS
        go_wp2
        go_round
        case rel => exact ⟨k + 1, by omega, by go_num, hnew⟩
        case measure => simp [intOf]; omega
      · have hno := hide (trn_no (fun h => f0 (h.2 x (List.mem_of_getElem? (unhide hx')))))
        by_cases f1 : -10000000 ≤ x
        · have hd1 : decide (x < -10000000) = false := decide_eq_false (by omega)
          have hd2 : decide (10000000 < x) = true := decide_eq_true (by unfold By7 at f0; omega)
          clear f0 hA
          go_wp2
          go_ret
          rw [unhide hno]
          exact (an_nil w).x
        · have hd1 : decide (x < -10000000) = true := decide_eq_true (by omega)
          clear f0 hA
          go_wp2
          go_ret
          rw [unhide hno]
          exact (an_nil w).x
    · have hke : k = 16 := by omega
      subst hke
      have hT : Hid (TnOk l) := hide ⟨unhide hn', NsPre.all (by rw [unhide hn']; exact unhide hA)⟩
      clear hA
      have at16 : ∀ j, j < 16 → ∃ b o, a = some ⟨b, o, none⟩ ∧ w.cell? ⟨b, o + j, none⟩ = some (.int .i64 (nth l j)) := by
        intro j hj
        obtain ⟨b, o, e, h1, c0⟩ := unhide hk' j _ (nth_at (by rw [unhide hn']; exact hj))
        exact ⟨b, o, e, c0⟩
      obtain ⟨b, o, rfl, c0⟩ := at16 0 (by omega)
      have atB : ∀ j, j < 16 → w.cell? ⟨b, o + j, none⟩ = some (.int .i64 (nth l j)) := by
        intro j hj
        obtain ⟨b', o', e', h1⟩ := at16 j hj
        injection e' with e'; injection e' with e1 e2; subst e1 e2
        exact h1
      clear c0 at16
      have hbd := hide ((tn_bdd (unhide hT)).mono (C := 20000000) (by omega))
      have c0 := atB 0 (by omega)
      have c1 := atB 1 (by omega)
      have c2 := atB 2 (by omega)
      have c3 := atB 3 (by omega)
      have c4 := atB 4 (by omega)
      have c5 := atB 5 (by omega)
      have c6 := atB 6 (by omega)
      have c7 := atB 7 (by omega)
      have c8 := atB 8 (by omega)
      have c9 := atB 9 (by omega)
      have c10 := atB 10 (by omega)
      have c11 := atB 11 (by omega)
      have c12 := atB 12 (by omega)
      have c13 := atB 13 (by omega)
      have c14 := atB 14 (by omega)
      have c15 := atB 15 (by omega)
      rw [Nat.add_zero] at c0
      clear atB
      go_wp2_with fail
      refine (turned_any (nth l) _ (unhide hbd)).mono ?_
      rintro e w1 ⟨rfl, h1⟩
      have h1' := hide h1
      clear h1 c0 c1 c2 c3 c4 c5 c6 c7 c8 c9 c10 c11 c12 c13 c14 c15
      go_wp2
      go_ret
      rw [trn_yes (unhide hT)]
      have hz := (unhide h1').size
      refine ⟨51, w1.heap.size, 16, ?_, hz, ?_, laterB (unhide h1') ((Below.refl _ _).alloc (Nat.le_refl _) _)⟩
      · rw [fl_len]; rfl
      · rw [fl_len]
        exact World.ownsRow_lit (base := w.heap.size) (e := 51) (size := 1) w1 #[.int .i64 (trn (nth l) 0), .int .i64 (trn (nth l) 1), .int .i64 (trn (nth l) 2), .int .i64 (trn (nth l) 3), .int .i64 (trn (nth l) 4), .int .i64 (trn (nth l) 5), .int .i64 (trn (nth l) 6), .int .i64 (trn (nth l) 7), .int .i64 (trn (nth l) 8), .int .i64 (trn (nth l) 9), .int .i64 (trn (nth l) 10), .int .i64 (trn (nth l) 11), .int .i64 (trn (nth l) 12), .int .i64 (trn (nth l) 13), .int .i64 (trn (nth l) 14), .int .i64 (trn (nth l) 15)] 16 hz (by unfold maxLen; omega) rfl

end Go.Proofs.YtcchgjeopmaemaaRRR
