/-
  Contracts of what is a picture, to the model and to the program; of the law's functions that weigh, copy and hold pictures against each other; nothing that was there is written.
-/
import Derived.Test.YtdppnjafkbopiaaAp
import Derived.Test.YtdppnjafkbopiaaBuP
import Derived.Test.YtdppnjafkbopiaaMm
namespace Go.Proofs.Ytdppnjafkbopiaa
open Go.RowKit
set_option linter.unusedVariables false
set_option linter.unusedSimpArgs false

/-- a picture's value -/
abbrev pcv (W H : Int) (a : Option Addr) (n cap : Nat) : Value := .agg #[.int .i64 W, .int .i64 H, .slice a n cap]
theorem px8b (x : Int) : decide (Px8 x) = (decide (0 ≤ x) && decide (x ≤ 255)) := by
  rw [Bool.eq_iff_iff, decide_eq_true_iff]; simp [Px8]
set_option maxHeartbeats 1600000 in
theorem ipic_any (W H : Int) (a : Option Addr) (cap : Nat) (l : List Int) (v : Bool) (w : World) (hl : l.length ≤ maxLen) (hk : Ins w a l) (hv : v = true ↔ PcOk W H l) :
    Calls Try.prog 23 #[pcv W H a l.length cap] w fun e w' => e = .returned (.bool v) ∧ Below w.heap.size w w' := by
  have hbx := hide (show Below w.heap.size w (w.alloc (.cells #[.int .i64 W, .int .i64 H, .slice a l.length cap] 26)) from (Below.refl _ _).alloc (Nat.le_refl _) _)
  have hk' := hide (hk.below (unhide hbx))
  have hv' := hide hv
  clear hk hv
  unfold maxLen at hl
  have no' := hide (show (¬ PcOk W H l) → v = false from fun h => by cases v with | false => rfl | true => exact absurd ((unhide hv').1 rfl) h)
  by_cases hA : Side4 W
  rotate_left
  · have hA' := hide (decide_eq_false hA)
    have hz := hide (unhide no' (fun h => hA h.1))
    clear hA
    go_enter Try.func23, Try.ntmps23
    go_wp2_with fail
    refine (iside_any W false _ (unhide hA')).mono ?_
    rintro e w1 ⟨rfl, hw0⟩
    have hw1 := hw0.symm
    subst hw1
    go_wp2
    go_ret
    exact ⟨ret_bool (unhide hz).symm, unhide hbx⟩
  have hA' := hide (decide_eq_true hA)
  by_cases hB : Side4 H
  rotate_left
  · have hB' := hide (decide_eq_false hB)
    have hz := hide (unhide no' (fun h => hB h.2.1))
    clear hA hB
    go_enter Try.func23, Try.ntmps23
    go_wp2_with fail
    refine (iside_any W true _ (unhide hA')).mono ?_
    rintro e w1 ⟨rfl, hw0⟩
    have hw1 := hw0.symm
    subst hw1
    go_wp2_with fail
    refine (iside_any H false _ (unhide hB')).mono ?_
    rintro e w1 ⟨rfl, hw0⟩
    have hw1 := hw0.symm
    subst hw1
    go_wp2
    go_ret
    exact ⟨ret_bool (unhide hz).symm, unhide hbx⟩
  have hB' := hide (decide_eq_true hB)
  obtain ⟨M, hM⟩ : ∃ M, W * H = M := ⟨_, rfl⟩
  have hMb := mul4 hA hB
  have hMw : IntKind.i64.wrap (W * H) = M := by rw [IntKind.wrap_i64, ← hM]; omega
  by_cases hC : (l.length : Int) = M
  rotate_left
  · have hC' : ((l.length : Int) != M) = true := by simpa using hC
    have hz := hide (unhide no' (fun h => hC (by rw [← hM]; exact h.2.2.1)))
    clear hA hB hM hC hMb
    go_enter Try.func23, Try.ntmps23
    go_wp2_with fail
    refine (iside_any W true _ (unhide hA')).mono ?_
    rintro e w1 ⟨rfl, hw0⟩
    have hw1 := hw0.symm
    subst hw1
    go_wp2_with fail
    refine (iside_any H true _ (unhide hB')).mono ?_
    rintro e w1 ⟨rfl, hw0⟩
    have hw1 := hw0.symm
    subst hw1
    go_wp2
    go_ret
    exact ⟨ret_bool (unhide hz).symm, unhide hbx⟩
  have hC' : ((l.length : Int) != M) = false := by simpa using hC
  have hyes := hide (show (∀ x ∈ l, Px8 x) → v = true from fun h => (unhide hv').2 ⟨hA, hB, by rw [hM]; exact hC, h⟩)
  have hnop := hide (show ∀ j x, l[j]? = some x → ¬ Px8 x → v = false from fun j c hj hc => unhide no' (fun h => hc (h.2.2.2 c (List.mem_of_getElem? hj))))
  clear hA hB hM hC hMb
  go_enter Try.func23, Try.ntmps23
  go_wp2_with fail
  refine (iside_any W true _ (unhide hA')).mono ?_
  rintro e w1 ⟨rfl, hw0⟩
  have hw1 := hw0.symm
  subst hw1
  go_wp2_with fail
  refine (iside_any H true _ (unhide hB')).mono ?_
  rintro e w1 ⟨rfl, hw0⟩
  have hw1 := hw0.symm
  subst hw1
  go_wp2
  go_loop [29] (fun t => ∃ k : Nat, k ≤ l.length ∧ t = .int .i64 k ∧ Hid (NsPre Px8 l k)) (fun t => l.length - (intOf t).toNat)
  case atStart => exact ⟨0, by omega, rfl, hide (NsPre.zero _ l)⟩
  case round =>
    obtain ⟨k, hk, rfl, hA⟩ := hrel
    by_cases hlt : k < l.length
    · obtain ⟨b, o, x, rfl, hx, hbl, c0⟩ := ins_at (unhide hk') (Below.refl _ _) hlt
      have hx' := hide hx
      clear hx hbl
      by_cases f0 : Px8 x
      · have hS := hide ((px8b x).symm.trans (decide_eq_true f0))
        have hnew := hide ((unhide hA).step (unhide hx') f0)
        clear f0 hA
        go_wp2_with fail
        refine (ipx_any x true _ (unhide hS)).mono ?_
        rintro e w1 ⟨rfl, hw0⟩
        have hw1 := hw0.symm
        subst hw1
        go_wp2
        go_round
        case rel => exact ⟨k + 1, by omega, by go_num, hnew⟩
        case measure => simp [intOf]; omega
      · have hS := hide ((px8b x).symm.trans (decide_eq_false f0))
        have hno := hide (unhide hnop _ _ (unhide hx') f0)
        clear f0 hA
        go_wp2_with fail
        refine (ipx_any x false _ (unhide hS)).mono ?_
        rintro e w1 ⟨rfl, hw0⟩
        have hw1 := hw0.symm
        subst hw1
        go_wp2
        go_ret
        exact ⟨ret_bool (unhide hno).symm, unhide hbx⟩
    · have hke : k = l.length := by omega
      have hy := hide (unhide hyes (NsPre.all (by have := unhide hA; rw [hke] at this; exact this)))
      clear hA hke
      go_wp2
      go_ret
      exact ⟨ret_bool (unhide hy).symm, unhide hbx⟩
set_option maxHeartbeats 1600000 in
theorem spic_any (W H : Int) (a : Option Addr) (cap : Nat) (l : List Int) (v : Bool) (w : World) (hl : l.length ≤ maxLen) (hk : Ins w a l) (hv : v = true ↔ PcOk W H l) :
    Calls Try.prog 27 #[pcv W H a l.length cap] w fun e w' => e = .returned (.bool v) ∧ Below w.heap.size w w' := by
  have hbx := hide (show Below w.heap.size w (w.alloc (.cells #[.int .i64 W, .int .i64 H, .slice a l.length cap] 26)) from (Below.refl _ _).alloc (Nat.le_refl _) _)
  have hk' := hide (hk.below (unhide hbx))
  have hv' := hide hv
  clear hk hv
  unfold maxLen at hl
  have no' := hide (show (¬ PcOk W H l) → v = false from fun h => by cases v with | false => rfl | true => exact absurd ((unhide hv').1 rfl) h)
  by_cases hA : Side4 W
  rotate_left
  · have hA' := hide (decide_eq_false hA)
    have hz := hide (unhide no' (fun h => hA h.1))
    clear hA
    go_enter Try.func27, Try.ntmps27
    go_wp2_with fail
    refine (sside_any W false _ (unhide hA')).mono ?_
    rintro e w1 ⟨rfl, hw0⟩
    have hw1 := hw0.symm
    subst hw1
    go_wp2
    go_ret
    exact ⟨ret_bool (unhide hz).symm, unhide hbx⟩
  have hA' := hide (decide_eq_true hA)
  by_cases hB : Side4 H
  rotate_left
  · have hB' := hide (decide_eq_false hB)
    have hz := hide (unhide no' (fun h => hB h.2.1))
    clear hA hB
    go_enter Try.func27, Try.ntmps27
    go_wp2_with fail
    refine (sside_any W true _ (unhide hA')).mono ?_
    rintro e w1 ⟨rfl, hw0⟩
    have hw1 := hw0.symm
    subst hw1
    go_wp2_with fail
    refine (sside_any H false _ (unhide hB')).mono ?_
    rintro e w1 ⟨rfl, hw0⟩
    have hw1 := hw0.symm
    subst hw1
    go_wp2
    go_ret
    exact ⟨ret_bool (unhide hz).symm, unhide hbx⟩
  have hB' := hide (decide_eq_true hB)
  obtain ⟨M, hM⟩ : ∃ M, W * H = M := ⟨_, rfl⟩
  have hMb := mul4 hA hB
  have hMw : IntKind.i64.wrap (W * H) = M := by rw [IntKind.wrap_i64, ← hM]; omega
  by_cases hC : (l.length : Int) = M
  rotate_left
  · have hC' : ((l.length : Int) != M) = true := by simpa using hC
    have hz := hide (unhide no' (fun h => hC (by rw [← hM]; exact h.2.2.1)))
    clear hA hB hM hC hMb
    go_enter Try.func27, Try.ntmps27
    go_wp2_with fail
    refine (sside_any W true _ (unhide hA')).mono ?_
    rintro e w1 ⟨rfl, hw0⟩
    have hw1 := hw0.symm
    subst hw1
    go_wp2_with fail
    refine (sside_any H true _ (unhide hB')).mono ?_
    rintro e w1 ⟨rfl, hw0⟩
    have hw1 := hw0.symm
    subst hw1
    go_wp2
    go_ret
    exact ⟨ret_bool (unhide hz).symm, unhide hbx⟩
  have hC' : ((l.length : Int) != M) = false := by simpa using hC
  have hyes := hide (show (∀ x ∈ l, Px8 x) → v = true from fun h => (unhide hv').2 ⟨hA, hB, by rw [hM]; exact hC, h⟩)
  have hnop := hide (show ∀ j x, l[j]? = some x → ¬ Px8 x → v = false from fun j c hj hc => unhide no' (fun h => hc (h.2.2.2 c (List.mem_of_getElem? hj))))
  clear hA hB hM hC hMb
  go_enter Try.func27, Try.ntmps27
  go_wp2_with fail
  refine (sside_any W true _ (unhide hA')).mono ?_
  rintro e w1 ⟨rfl, hw0⟩
  have hw1 := hw0.symm
  subst hw1
  go_wp2_with fail
  refine (sside_any H true _ (unhide hB')).mono ?_
  rintro e w1 ⟨rfl, hw0⟩
  have hw1 := hw0.symm
  subst hw1
  go_wp2
  go_loop [3] (fun t => ∃ k : Nat, k ≤ l.length ∧ t = .int .i64 k ∧ Hid (NsPre Px8 l k)) (fun t => l.length - (intOf t).toNat)
  case atStart => exact ⟨0, by omega, rfl, hide (NsPre.zero _ l)⟩
  case round =>
    obtain ⟨k, hk, rfl, hA⟩ := hrel
    by_cases hlt : k < l.length
    · obtain ⟨b, o, x, rfl, hx, hbl, c0⟩ := ins_at (unhide hk') (Below.refl _ _) hlt
      have hx' := hide hx
      clear hx hbl
      by_cases f0 : Px8 x
      · have hS := hide ((px8b x).symm.trans (decide_eq_true f0))
        have hnew := hide ((unhide hA).step (unhide hx') f0)
        clear f0 hA
        go_wp2_with fail
        refine (sbyte_any x true _ (unhide hS)).mono ?_
        rintro e w1 ⟨rfl, hw0⟩
        have hw1 := hw0.symm
        subst hw1
        go_wp2
        go_round
        case rel => exact ⟨k + 1, by omega, by go_num, hnew⟩
        case measure => simp [intOf]; omega
      · have hS := hide ((px8b x).symm.trans (decide_eq_false f0))
        have hno := hide (unhide hnop _ _ (unhide hx') f0)
        clear f0 hA
        go_wp2_with fail
        refine (sbyte_any x false _ (unhide hS)).mono ?_
        rintro e w1 ⟨rfl, hw0⟩
        have hw1 := hw0.symm
        subst hw1
        go_wp2
        go_ret
        exact ⟨ret_bool (unhide hno).symm, unhide hbx⟩
    · have hke : k = l.length := by omega
      have hy := hide (unhide hyes (NsPre.all (by have := unhide hA; rw [hke] at this; exact this)))
      clear hA hke
      go_wp2
      go_ret
      exact ⟨ret_bool (unhide hy).symm, unhide hbx⟩

/-- two numbers and a list in the block b -/
def P3 (w : World) (b : Nat) (t : TypeId) (x y : Int) (v : Value) : Prop := w.heap[b]? = some (.cells #[.int .i64 x, .int .i64 y, v] t (0, 0))
theorem P3.lt {w : World} {b : Nat} {t : TypeId} {x y : Int} {v : Value} (h : P3 w b t x y v) : b < w.heap.size := (Array.getElem?_eq_some_iff.1 h).1
theorem P3.cells {w : World} {b : Nat} {t : TypeId} {x y : Int} {v : Value} (h : P3 w b t x y v) : w.cell? ⟨b, 0, none⟩ = some (.int .i64 x) ∧ w.cell? ⟨b, 1, none⟩ = some (.int .i64 y) ∧ w.cell? ⟨b, 2, none⟩ = some v := by
  unfold P3 at h
  refine ⟨?_, ?_, ?_⟩ <;> simp [World.cell?, h]
theorem P3.fz {w : World} {b : Nat} {t : TypeId} {x y : Int} {v : Value} (h : P3 w b t x y v) (k : Nat) : w.frozen? ⟨b, k, none⟩ = false := by
  unfold P3 at h
  simp [World.frozen?, h]
theorem P3.later {w w1 : World} {b : Nat} {t : TypeId} {x y : Int} {v : Value} (h : P3 w b t x y v) (hb : Below w.heap.size w w1) : P3 w1 b t x y v := (hb.block b h.lt).trans h
theorem P3.new (w : World) (t : TypeId) (x y : Int) (v : Value) : P3 (w.alloc (.cells #[.int .i64 x, .int .i64 y, v] t)) w.heap.size t x y v := Deep.blk_alloc_new _ _
theorem P3.set2 {w : World} {b : Nat} {t : TypeId} {x y : Int} {v : Value} (h : P3 w b t x y v) (u : Value) : P3 (w.setCell ⟨b, 2, none⟩ u) b t x y u := by
  unfold P3 at *
  simp [World.setCell, h, Array.getElem?_modify]
theorem P3.set {w : World} {b : Nat} {t : TypeId} {x y : Int} {v : Value} (h : P3 w b t x y v) (p q : Int) (u : Value) : P3 (((w.setCell ⟨b, 0, none⟩ (.int .i64 p)).setCell ⟨b, 1, none⟩ (.int .i64 q)).setCell ⟨b, 2, none⟩ u) b t p q u := by
  unfold P3 at *
  simp [World.setCell, h, Array.getElem?_modify]
theorem P3.ne {w : World} {b c o : Nat} {t : TypeId} {x y : Int} {v u : Value} (h : P3 w b t x y v) (hc : b ≠ c) : P3 (w.setCell ⟨c, o, none⟩ u) b t x y v := by
  unfold P3 at *
  rw [← h]
  simp [World.setCell, Array.getElem?_modify, Ne.symm hc]
theorem own_setne {w : World} {B g n m cap c o : Nat} {e : TypeId} {xs : List Value} {u : Value} (h : w.ownsRow B e m (.slice (some ⟨g, 0, none⟩) n cap) n xs) (hc : g ≠ c) : (w.setCell ⟨c, o, none⟩ u).ownsRow B e m (.slice (some ⟨g, 0, none⟩) n cap) n xs :=
  own_kept h (grown_set (grown_refl _ _)) hc
theorem below_st {B b o : Nat} {a w : World} {v : Value} (h : Below B a w) (hb : B ≤ b) : Below B a (w.setCell ⟨b, o, none⟩ v) := h.setCell hb _
end Go.Proofs.Ytdppnjafkbopiaa
