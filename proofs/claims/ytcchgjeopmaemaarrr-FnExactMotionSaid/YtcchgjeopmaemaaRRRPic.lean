/-
  Contracts of what is a picture, to the model and to the program; of the law's functions that weigh, copy and hold pictures against each other; nothing that was there is written.
-/
import Derived.Test.YtcchgjeopmaemaaRRRAp
import Derived.Test.YtcchgjeopmaemaaRRRBuP
import Derived.Test.YtcchgjeopmaemaaRRRMm
namespace Go.Proofs.YtcchgjeopmaemaaRRR
open Go.RowKit
set_option linter.unusedVariables false
set_option linter.unusedSimpArgs false

/-- a picture's value -/
abbrev pcv (W H : Int) (a : Option Addr) (n cap : Nat) : Value := .agg #[.int .i64 W, .int .i64 H, .slice a n cap]
theorem px8b (x : Int) : decide (Px8 x) = (decide (0 ≤ x) && decide (x ≤ 255)) := by
  rw [Bool.eq_iff_iff, decide_eq_true_iff]; simp [Px8]
set_option maxHeartbeats 1600000 in
theorem ipic_any (W H : Int) (a : Option Addr) (cap : Nat) (l : List Int) (v : Bool) (w : World) (hl : l.length ≤ maxLen) (hk : Ins w a l) (hv : v = true ↔ PcOk W H l) :
    Calls Try.prog 20 #[pcv W H a l.length cap] w fun e w' => e = .returned (.bool v) ∧ Below w.heap.size w w' := by
  have hbx := hide (show Below w.heap.size w (w.alloc (.cells #[.int .i64 W, .int .i64 H, .slice a l.length cap] 35)) from (Below.refl _ _).alloc (Nat.le_refl _) _)
  have hk' := hide (hk.below (unhide hbx))
  have hv' := hide hv
  clear hk hv
  unfold maxLen at hl
  have no' := hide (show (¬ PcOk W H l) → v = false from fun h => by cases v with | false => rfl | true => exact absurd ((unhide hv').1 rfl) h)
  by_cases hA : Side4 W
  rotate_left
  · have hA' := hide (decide_eq_false hA)
    have hz := hide (unhide no' (fun h => hA h.1))
    clear hA
    go_enter Try.func20, Try.ntmps20
    go_wp2_with fail
    refine (iside_any W false _ (unhide hA')).mono ?_
    rintro e w1 ⟨rfl, hw0⟩
    have hw1 := hw0.symm
    subst hw1
    go_wp2
    go_ret
    exact ⟨ret_bool (unhide hz).symm, unhide hbx⟩
  have hA' := hide (decide_eq_true hA)
  by_cases hB : Side4 H
  rotate_left
  · have hB' := hide (decide_eq_false hB)
    have hz := hide (unhide no' (fun h => hB h.2.1))
    clear hA hB
    go_enter Try.func20, Try.ntmps20
    go_wp2_with fail
    refine (iside_any W true _ (unhide hA')).mono ?_
    rintro e w1 ⟨rfl, hw0⟩
    have hw1 := hw0.symm
    subst hw1
    go_wp2_with fail
    refine (iside_any H false _ (unhide hB')).mono ?_
    rintro e w1 ⟨rfl, hw0⟩
    have hw1 := hw0.symm
    subst hw1
    go_wp2
    go_ret
    exact ⟨ret_bool (unhide hz).symm, unhide hbx⟩
  have hB' := hide (decide_eq_true hB)
  obtain ⟨M, hM⟩ : ∃ M, W * H = M := ⟨_, rfl⟩
  have hMb := mul4 hA hB
  have hMw : IntKind.i64.wrap (W * H) = M := by rw [IntKind.wrap_i64, ← hM]; omega
  by_cases hC : (l.length : Int) = M
  rotate_left
  · have hC' : ((l.length : Int) != M) = true := by simpa using hC
    have hz := hide (unhide no' (fun h => hC (by rw [← hM]; exact h.2.2.1)))
    clear hA hB hM hC hMb
    go_enter Try.func20, Try.ntmps20
    go_wp2_with fail
    refine (iside_any W true _ (unhide hA')).mono ?_
    rintro e w1 ⟨rfl, hw0⟩
    have hw1 := hw0.symm
    subst hw1
    go_wp2_with fail
    refine (iside_any H true _ (unhide hB')).mono ?_
    rintro e w1 ⟨rfl, hw0⟩
    have hw1 := hw0.symm
    subst hw1
    go_wp2
    go_ret
    exact ⟨ret_bool (unhide hz).symm, unhide hbx⟩
  have hC' : ((l.length : Int) != M) = false := by simpa using hC
  have hyes := hide (show (∀ x ∈ l, Px8 x) → v = true from fun h => (unhide hv').2 ⟨hA, hB, by rw [hM]; exact hC, h⟩)
  have hnop := hide (show ∀ j x, l[j]? = some x → ¬ Px8 x → v = false from fun j c hj hc => unhide no' (fun h => hc (h.2.2.2 c (List.mem_of_getElem? hj))))
  clear hA hB hM hC hMb
  go_enter Try.func20, Try.ntmps20
  go_wp2_with fail
  refine (iside_any W true _ (unhide hA')).mono ?_
  rintro e w1 ⟨rfl, hw0⟩
  have hw1 := hw0.symm
  subst hw1
  go_wp2_with fail
  refine (iside_any H true _ (unhide hB')).mono ?_
  rintro e w1 ⟨rfl, hw0⟩
  have hw1 := hw0.symm
  subst hw1
  go_wp2
  go_loop [29] (fun t => ∃ k : Nat, k ≤ l.length ∧ t = .int .i64 k ∧ Hid (NsPre Px8 l k)) (fun t => l.length - (intOf t).toNat)
  case atStart => exact ⟨0, by omega, rfl, hide (NsPre.zero _ l)⟩
  case round =>
    obtain ⟨k, hk, rfl, hA⟩ := hrel
    by_cases hlt : k < l.length
    · obtain ⟨b, o, x, rfl, hx, hbl, c0⟩ := ins_at (unhide hk') (Below.refl _ _) hlt
      have hx' := hide hx
      clear hx hbl
      by_cases f0 : Px8 x
      · have hS := hide ((px8b x).symm.trans (decide_eq_true f0))
        have hnew := hide ((unhide hA).step (unhide hx') f0)
        clear f0 hA
        go_wp2_with fail
        refine (ipx_any x true _ (unhide hS)).mono ?_
        rintro e w1 ⟨rfl, hw0⟩
        have hw1 := hw0.symm
        subst hw1
        go_wp2
        go_round
        case rel => exact ⟨k + 1, by omega, by go_num, hnew⟩
        case measure => simp [intOf]; omega
      · have hS := hide ((px8b x).symm.trans (decide_eq_false f0))
        have hno := hide (unhide hnop _ _ (unhide hx') f0)
        clear f0 hA
        go_wp2_with fail
        refine (ipx_any x false _ (unhide hS)).mono ?_
        rintro e w1 ⟨rfl, hw0⟩
        have hw1 := hw0.symm
        subst hw1
        go_wp2
        go_ret
        exact ⟨ret_bool (unhide hno).symm, unhide hbx⟩
    · have hke : k = l.length := by omega
      have hy := hide (unhide hyes (NsPre.all (by have := unhide hA; rw [hke] at this; exact this)))
      clear hA hke
      go_wp2
      go_ret
      exact ⟨ret_bool (unhide hy).symm, unhide hbx⟩
set_option maxHeartbeats 1600000 in
theorem spic_any (W H : Int) (a : Option Addr) (cap : Nat) (l : List Int) (v : Bool) (w : World) (hl : l.length ≤ maxLen) (hk : Ins w a l) (hv : v = true ↔ PcOk W H l) :
    Calls Try.prog 18 #[pcv W H a l.length cap] w fun e w' => e = .returned (.bool v) ∧ Below w.heap.size w w' := by
  have hbx := hide (show Below w.heap.size w (w.alloc (.cells #[.int .i64 W, .int .i64 H, .slice a l.length cap] 35)) from (Below.refl _ _).alloc (Nat.le_refl _) _)
  have hk' := hide (hk.below (unhide hbx))
  have hv' := hide hv
  clear hk hv
  unfold maxLen at hl
  have no' := hide (show (¬ PcOk W H l) → v = false from fun h => by cases v with | false => rfl | true => exact absurd ((unhide hv').1 rfl) h)
  by_cases hA : Side4 W
  rotate_left
  · have hA' := hide (decide_eq_false hA)
    have hz := hide (unhide no' (fun h => hA h.1))
    clear hA
    go_enter Try.func18, Try.ntmps18
    go_wp2_with fail
    refine (sside_any W false _ (unhide hA')).mono ?_
    rintro e w1 ⟨rfl, hw0⟩
    have hw1 := hw0.symm
    subst hw1
    go_wp2
    go_ret
    exact ⟨ret_bool (unhide hz).symm, unhide hbx⟩
  have hA' := hide (decide_eq_true hA)
  by_cases hB : Side4 H
  rotate_left
  · have hB' := hide (decide_eq_false hB)
    have hz := hide (unhide no' (fun h => hB h.2.1))
    clear hA hB
    go_enter Try.func18, Try.ntmps18
    go_wp2_with fail
    refine (sside_any W true _ (unhide hA')).mono ?_
    rintro e w1 ⟨rfl, hw0⟩
    have hw1 := hw0.symm
    subst hw1
    go_wp2_with fail
    refine (sside_any H false _ (unhide hB')).mono ?_
    rintro e w1 ⟨rfl, hw0⟩
    have hw1 := hw0.symm
    subst hw1
    go_wp2
    go_ret
    exact ⟨ret_bool (unhide hz).symm, unhide hbx⟩
  have hB' := hide (decide_eq_true hB)
  obtain ⟨M, hM⟩ : ∃ M, W * H = M := ⟨_, rfl⟩
  have hMb := mul4 hA hB
  have hMw : IntKind.i64.wrap (W * H) = M := by rw [IntKind.wrap_i64, ← hM]; omega
  by_cases hC : (l.length : Int) = M
  rotate_left
  · have hC' : ((l.length : Int) != M) = true := by simpa using hC
    have hz := hide (unhide no' (fun h => hC (by rw [← hM]; exact h.2.2.1)))
    clear hA hB hM hC hMb
    go_enter Try.func18, Try.ntmps18
    go_wp2_with fail
    refine (sside_any W true _ (unhide hA')).mono ?_
    rintro e w1 ⟨rfl, hw0⟩
    have hw1 := hw0.symm
    subst hw1
    go_wp2_with fail
    refine (sside_any H true _ (unhide hB')).mono ?_
    rintro e w1 ⟨rfl, hw0⟩
    have hw1 := hw0.symm
    subst hw1
    go_wp2
    go_ret
    exact ⟨ret_bool (unhide hz).symm, unhide hbx⟩
  have hC' : ((l.length : Int) != M) = false := by simpa using hC
  have hyes := hide (show (∀ x ∈ l, Px8 x) → v = true from fun h => (unhide hv').2 ⟨hA, hB, by rw [hM]; exact hC, h⟩)
  have hnop := hide (show ∀ j x, l[j]? = some x → ¬ Px8 x → v = false from fun j c hj hc => unhide no' (fun h => hc (h.2.2.2 c (List.mem_of_getElem? hj))))
  clear hA hB hM hC hMb
  go_enter Try.func18, Try.ntmps18
  go_wp2_with fail
  refine (sside_any W true _ (unhide hA')).mono ?_
  rintro e w1 ⟨rfl, hw0⟩
  have hw1 := hw0.symm
  subst hw1
  go_wp2_with fail
  refine (sside_any H true _ (unhide hB')).mono ?_
  rintro e w1 ⟨rfl, hw0⟩
  have hw1 := hw0.symm
  subst hw1
  go_wp2
  go_loop [3] (fun t => ∃ k : Nat, k ≤ l.length ∧ t = .int .i64 k ∧ Hid (NsPre Px8 l k)) (fun t => l.length - (intOf t).toNat)
  case atStart => exact ⟨0, by omega, rfl, hide (NsPre.zero _ l)⟩
  case round =>
    obtain ⟨k, hk, rfl, hA⟩ := hrel
    by_cases hlt : k < l.length
    · obtain ⟨b, o, x, rfl, hx, hbl, c0⟩ := ins_at (unhide hk') (Below.refl _ _) hlt
      have hx' := hide hx
      clear hx hbl
      by_cases f0 : Px8 x
      · have hS := hide ((px8b x).symm.trans (decide_eq_true f0))
        have hnew := hide ((unhide hA).step (unhide hx') f0)
        clear f0 hA
        go_wp2_with fail
        refine (sbyte_any x true _ (unhide hS)).mono ?_
        rintro e w1 ⟨rfl, hw0⟩
        have hw1 := hw0.symm
        subst hw1
        go_wp2
        go_round
        case rel => exact ⟨k + 1, by omega, by go_num, hnew⟩
        case measure => simp [intOf]; omega
      · have hS := hide ((px8b x).symm.trans (decide_eq_false f0))
        have hno := hide (unhide hnop _ _ (unhide hx') f0)
        clear f0 hA
        go_wp2_with fail
        refine (sbyte_any x false _ (unhide hS)).mono ?_
        rintro e w1 ⟨rfl, hw0⟩
        have hw1 := hw0.symm
        subst hw1
        go_wp2
        go_ret
        exact ⟨ret_bool (unhide hno).symm, unhide hbx⟩
    · have hke : k = l.length := by omega
      have hy := hide (unhide hyes (NsPre.all (by have := unhide hA; rw [hke] at this; exact this)))
      clear hA hke
      go_wp2
      go_ret
      exact ⟨ret_bool (unhide hy).symm, unhide hbx⟩

theorem szi_any (a : Option Addr) (len cap : Nat) (q : Int) (w : World) (hl : len ≤ maxLen) (q0 : 0 ≤ q) (q1 : q ≤ 1048576) :
    Calls Try.prog 40 #[.slice a len cap, .int .i64 q] w fun e w' => ∃ r, e = .returned (.int .i64 r) ∧ (r = -1 ∨ (0 ≤ r ∧ r ≤ q ∧ r = q - len)) ∧ w' = w := by
  unfold maxLen at hl
  by_cases h : q < len
  · have hd : decide (q - (len : Int) < 0) = true := decide_eq_true (by omega)
    go_enter Try.func40, Try.ntmps40
    go_wp2
    go_ret
    exact ⟨_, rfl, Or.inl rfl, rfl⟩
  · have hd : decide (q - (len : Int) < 0) = false := decide_eq_false (by omega)
    go_enter Try.func40, Try.ntmps40
    go_wp2
    go_ret
    exact ⟨_, rfl, Or.inr ⟨by omega, by omega, rfl⟩, rfl⟩
set_option maxHeartbeats 800000 in
theorem szp_any (W H : Int) (a : Option Addr) (len cap : Nat) (q : Int) (w : World) (hl : len ≤ maxLen) (q0 : 0 ≤ q) (q1 : q ≤ 1048576) :
    Calls Try.prog 17 #[pcv W H a len cap, .int .i64 q] w fun e w' => ∃ r, e = .returned (.int .i64 r) ∧ (r = -1 ∨ (0 ≤ r ∧ r ≤ q ∧ r = q - len)) ∧ Below w.heap.size w w' := by
  have hl' := hide hl
  clear hl
  go_enter Try.func17, Try.ntmps17
  go_wp2_with fail
  refine (szi_any a len cap q _ (unhide hl') q0 q1).mono ?_
  rintro e w1 ⟨r, rfl, hr, hw0⟩
  have hw1 := hw0.symm
  subst hw1
  rcases hr with rfl | ⟨hr0, hr1, hr2⟩
  · go_wp2
    go_ret
    exact ⟨_, rfl, Or.inl rfl, (Below.refl _ _).alloc (Nat.le_refl _) _⟩
  · have hd : decide (r < 0) = false := decide_eq_false (by omega)
    have hr3 := hide hr2
    clear hr2
    go_wp2
    go_ret
    exact ⟨_, rfl, Or.inr ⟨hr0, hr1, unhide hr3⟩, (Below.refl _ _).alloc (Nat.le_refl _) _⟩
/-- two numbers and a list in the block b -/
def P3 (w : World) (b : Nat) (t : TypeId) (x y : Int) (v : Value) : Prop := w.heap[b]? = some (.cells #[.int .i64 x, .int .i64 y, v] t (0, 0))
theorem P3.lt {w : World} {b : Nat} {t : TypeId} {x y : Int} {v : Value} (h : P3 w b t x y v) : b < w.heap.size := (Array.getElem?_eq_some_iff.1 h).1
theorem P3.cells {w : World} {b : Nat} {t : TypeId} {x y : Int} {v : Value} (h : P3 w b t x y v) : w.cell? ⟨b, 0, none⟩ = some (.int .i64 x) ∧ w.cell? ⟨b, 1, none⟩ = some (.int .i64 y) ∧ w.cell? ⟨b, 2, none⟩ = some v := by
  unfold P3 at h
  refine ⟨?_, ?_, ?_⟩ <;> simp [World.cell?, h]
theorem P3.fz {w : World} {b : Nat} {t : TypeId} {x y : Int} {v : Value} (h : P3 w b t x y v) (k : Nat) : w.frozen? ⟨b, k, none⟩ = false := by
  unfold P3 at h
  simp [World.frozen?, h]
theorem P3.later {w w1 : World} {b : Nat} {t : TypeId} {x y : Int} {v : Value} (h : P3 w b t x y v) (hb : Below w.heap.size w w1) : P3 w1 b t x y v := (hb.block b h.lt).trans h
theorem P3.new (w : World) (t : TypeId) (x y : Int) (v : Value) : P3 (w.alloc (.cells #[.int .i64 x, .int .i64 y, v] t)) w.heap.size t x y v := Deep.blk_alloc_new _ _
theorem P3.set2 {w : World} {b : Nat} {t : TypeId} {x y : Int} {v : Value} (h : P3 w b t x y v) (u : Value) : P3 (w.setCell ⟨b, 2, none⟩ u) b t x y u := by
  unfold P3 at *
  simp [World.setCell, h, Array.getElem?_modify]
theorem P3.set {w : World} {b : Nat} {t : TypeId} {x y : Int} {v : Value} (h : P3 w b t x y v) (p q : Int) (u : Value) : P3 (((w.setCell ⟨b, 0, none⟩ (.int .i64 p)).setCell ⟨b, 1, none⟩ (.int .i64 q)).setCell ⟨b, 2, none⟩ u) b t p q u := by
  unfold P3 at *
  simp [World.setCell, h, Array.getElem?_modify]
theorem P3.ne {w : World} {b c o : Nat} {t : TypeId} {x y : Int} {v u : Value} (h : P3 w b t x y v) (hc : b ≠ c) : P3 (w.setCell ⟨c, o, none⟩ u) b t x y v := by
  unfold P3 at *
  rw [← h]
  simp [World.setCell, Array.getElem?_modify, Ne.symm hc]
theorem own_setne {w : World} {B g n m cap c o : Nat} {e : TypeId} {xs : List Value} {u : Value} (h : w.ownsRow B e m (.slice (some ⟨g, 0, none⟩) n cap) n xs) (hc : g ≠ c) : (w.setCell ⟨c, o, none⟩ u).ownsRow B e m (.slice (some ⟨g, 0, none⟩) n cap) n xs :=
  own_kept h (grown_set (grown_refl _ _)) hc
theorem below_st {B b o : Nat} {a w : World} {v : Value} (h : Below B a w) (hb : B ≤ b) : Below B a (w.setCell ⟨b, o, none⟩ v) := h.setCell hb _
set_option maxHeartbeats 1600000 in
theorem top_any (W H : Int) (a : Option Addr) (cap : Nat) (l : List Int) (w : World) (hl : l.length ≤ 1048576) (hk : Ins w a l) :
    Calls Try.prog 19 #[pcv W H a l.length cap] w fun e w' => ∃ B, e = .returned (pcv W H (some ⟨B, 0, none⟩) l.length l.length) ∧ w.heap.size ≤ B ∧ OwnI w' w.heap.size B l.length l.length l ∧ Below w.heap.size w w' := by
  have hk' := hide hk
  clear hk
  go_enter Try.func19, Try.ntmps19
  go_wp2_with fail
  have s1 := Deep.nblk_alloc w (.cells #[.int .i64 W, .int .i64 H, .slice a l.length cap] 32)
  have b1 : Below w.heap.size w (w.alloc (.cells #[.int .i64 W, .int .i64 H, .slice a l.length cap] 32)) := (Below.refl _ _).alloc (Nat.le_refl _) _
  generalize w.alloc (.cells #[.int .i64 W, .int .i64 H, .slice a l.length cap] 32) = w1 at *
  have r0 := P3.new w1 35 0 0 (.slice none 0 0)
  have s2 := Deep.nblk_alloc w1 (.cells #[.int .i64 0, .int .i64 0, .slice none 0 0] 35)
  have b2 := laterB b1 ((Below.refl w1.heap.size w1).alloc (Nat.le_refl _) (.cells #[.int .i64 0, .int .i64 0, .slice none 0 0] 35))
  generalize w1.alloc (.cells #[.int .i64 0, .int .i64 0, .slice none 0 0] 35) = w2 at *
  have o0 := P3.new w2 35 W H (.slice none 0 0)
  have r1 := r0.later ((Below.refl w2.heap.size w2).alloc (Nat.le_refl _) (.cells #[.int .i64 W, .int .i64 H, .slice none 0 0] 35))
  have s3 := Deep.nblk_alloc w2 (.cells #[.int .i64 W, .int .i64 H, .slice none 0 0] 35)
  have b3 := laterB b2 ((Below.refl w2.heap.size w2).alloc (Nat.le_refl _) (.cells #[.int .i64 W, .int .i64 H, .slice none 0 0] 35))
  generalize w2.alloc (.cells #[.int .i64 W, .int .i64 H, .slice none 0 0] 35) = w3 at *
  rw [s2, s1] at o0
  rw [s1] at r1
  have s4 : w3.heap.size = w.heap.size + 1 + 1 + 1 := by omega
  clear r0 s1 s2 s3 b1 b2
  refine (toi_any a cap l _ hl ((unhide hk').below b3)).mono ?_
  rintro e w4 ⟨B, rfl, q4, n4, k4⟩
  have r2 := hide (r1.later k4)
  have o2 := hide (o0.later k4)
  have b4 := hide (laterB b3 k4)
  have n5 := hide (own_mono n4 (show w.heap.size ≤ w3.heap.size by omega))
  have hB1 : w.heap.size + 1 + 1 < B := by omega
  clear r1 o0 b3 k4 n4 s4 w1 w2
  obtain ⟨c0, c1, c2⟩ := (unhide o2).cells
  obtain ⟨d0, d1, d2⟩ := (unhide r2).cells
  have f0 := (unhide o2).fz
  have f1 := (unhide r2).fz
  go_wp2
  have P := ((unhide r2).ne (c := w.heap.size + 1 + 1) (o := 2) (u := .slice (some ⟨B, 0, none⟩) l.length l.length) (by omega)).set W H (.slice (some ⟨B, 0, none⟩) l.length l.length)
  have N := own_setne (c := w.heap.size + 1) (o := 2) (u := .slice (some ⟨B, 0, none⟩) l.length l.length) (own_setne (c := w.heap.size + 1) (o := 1) (u := .int .i64 H) (own_setne (c := w.heap.size + 1) (o := 0) (u := .int .i64 W) (own_setne (c := w.heap.size + 1 + 1) (o := 2) (u := .slice (some ⟨B, 0, none⟩) l.length l.length) (unhide n5) (by omega)) (by omega)) (by omega)) (by omega)
  have Q := below_st (b := w.heap.size + 1) (o := 2) (v := .slice (some ⟨B, 0, none⟩) l.length l.length) (below_st (b := w.heap.size + 1) (o := 1) (v := .int .i64 H) (below_st (b := w.heap.size + 1) (o := 0) (v := .int .i64 W) (below_st (b := w.heap.size + 1 + 1) (o := 2) (v := .slice (some ⟨B, 0, none⟩) l.length l.length) (unhide b4) (by omega)) (by omega)) (by omega)) (by omega)
  clear c0 c1 c2 d0 d1 d2 f0 f1
  generalize (((w4.setCell ⟨w.heap.size + 1 + 1, 2, none⟩ (.slice (some ⟨B, 0, none⟩) l.length l.length)).setCell ⟨w.heap.size + 1, 0, none⟩ (.int .i64 W)).setCell ⟨w.heap.size + 1, 1, none⟩ (.int .i64 H)).setCell ⟨w.heap.size + 1, 2, none⟩ (.slice (some ⟨B, 0, none⟩) l.length l.length) = W9 at *
  obtain ⟨c0, c1, c2⟩ := P.cells
  refine bodyPost_ret (v := pcv W H (some ⟨B, 0, none⟩) l.length l.length) (by simp [results, Try.results19, go_sem, c0, c1, c2]) rfl ⟨B, rfl, by omega, N, Q⟩
set_option maxHeartbeats 1600000 in
theorem eqp_any (W H : Int) (a b : Option Addr) (ca cb : Nat) (l : List Int) (w : World) (hl : l.length ≤ 1048576) (ha : Ins w a l) (hb : Ins w b l) :
    Calls Try.prog 21 #[pcv W H a l.length ca, pcv W H b l.length cb] w fun e w' => e = .returned (.bool true) ∧ Below w.heap.size w w' := by
  have ha' := hide ha
  have hb' := hide hb
  have e1 : (W != W) = false := by simp
  have e2 : (H != H) = false := by simp
  clear ha hb
  go_enter Try.func21, Try.ntmps21
  go_wp2_with fail
  have b2 : Below w.heap.size w ((w.alloc (.cells #[.int .i64 W, .int .i64 H, .slice a l.length ca] 35)).alloc (.cells #[.int .i64 W, .int .i64 H, .slice b l.length cb] 35)) := ((Below.refl _ _).alloc (Nat.le_refl _) _).alloc (by simp) _
  refine (eqi_any a b ca cb l _ hl ((unhide ha').below b2) ((unhide hb').below b2)).mono ?_
  rintro e w1 ⟨rfl, k1⟩
  have b3 := hide (laterB b2 k1)
  clear k1 b2
  go_wp2
  go_ret
  exact ⟨rfl, unhide b3⟩

end Go.Proofs.YtcchgjeopmaemaaRRR
