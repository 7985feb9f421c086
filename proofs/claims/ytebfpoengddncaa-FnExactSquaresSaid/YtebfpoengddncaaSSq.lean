/-
  Contract of the model's Squares.
-/
import Derived.Test.YtebfpoengddncaaSv
namespace Go.Proofs.Ytebfpoengddncaa
open Go.RowKit
set_option linter.unusedVariables false
set_option linter.unusedSimpArgs false

def sqN (l : List Nat) (n : Int) : Nat := if l.length ≤ 4096 ∧ 1 ≤ n ∧ n ≤ 4096 then l.length / n.toNat else 0
theorem sqN_le (l : List Nat) (n : Int) : sqN l n ≤ 4096 := by
  unfold sqN
  split
  · exact Nat.le_trans (Nat.div_le_self _ _) (by omega)
  · omega

set_option maxHeartbeats 3200000 in
theorem ssq_yes (a : Option Addr) (ca : Nat) (l : List Nat) (s : Nat) (w : World) (hl : l.length ≤ 4096) (h1 : 1 ≤ s) (h2 : s ≤ 4096) (ha : Fls false 0 w.heap.size w a l) :
    Calls Try.prog 4 #[.slice a l.length ca, .int .i64 s] w (Ans (sqB l s) (l.length / s) w) := by
  have ha' := hide ha
  clear ha
  obtain ⟨N, hN⟩ : ∃ N, l.length / s = N := ⟨_, rfl⟩
  rw [hN]
  have hN1 : Hid (N * s ≤ l.length ∧ l.length < N * s + s) := hide (by
    subst hN
    refine ⟨Nat.div_mul_le_self _ _, ?_⟩
    have := Nat.lt_mul_div_succ l.length (show 0 < s by omega)
    rw [Nat.mul_comm, Nat.add_mul, Nat.one_mul] at this
    exact this)
  clear hN
  have hown0 := hide (own_lit w).2
  go_enter Try.func4, Try.ntmps4
  go_wp2_with fail
  refine (sok_any a l.length ca _).mono ?_
  rintro e w1 ⟨rfl, rfl⟩
  have hd1 : decide (l.length ≤ 4096) = true := decide_eq_true hl
  simp only [hd1]
  go_wp2_with fail
  refine (l1in_any s _).mono ?_
  rintro e w1 ⟨rfl, rfl⟩
  have hd2 : decide ((1 : Int) ≤ (s : Int) ∧ (s : Int) ≤ 4096) = true := decide_eq_true (by omega)
  simp only [hd2]
  go_wp2
  go_loopw [5, 6] (fun o t wr => ∃ (k A g cap : Nat) (L : List Nat), Hid (A = k * s) ∧ A ≤ l.length ∧ t = .int .i64 A ∧ o = .slice (some ⟨g, 0, none⟩) k cap ∧ w.heap.size ≤ g ∧ k ≤ 4096 ∧ Hid (wr.ownsRow w.heap.size 30 1 (.slice (some ⟨g, 0, none⟩) k cap) k (L.map fl)) ∧ Hid (Ls (sqB l s) k L) ∧ Hid (Below w.heap.size w wr)) (fun _ t _ => l.length - (intOf t).toNat)
  case atStart => exact ⟨0, 0, w.heap.size, 0, [], hide (by simp), by omega, rfl, rfl, Nat.le_refl _, by omega, hown0, hide (Ls.nil _), hide ((Below.refl _ _).alloc (Nat.le_refl _) _)⟩
  case round =>
    clear hown0
    obtain ⟨k, A, g, cap, L, hA, hk, rfl, rfl, hg, hk4, hown, hpw, hw⟩ := hrel
    have e1 : IntKind.i64.wrap ((A : Int) + (s : Int)) = ((A + s : Nat) : Int) := by rw [IntKind.wrap_i64]; omega
    by_cases hlt : A + s ≤ l.length
    · have s5 : decide (((A + s : Nat) : Int) ≤ (l.length : Int)) = true := decide_eq_true (by omega)
      rename World => wo
      have hg2 := own_lt (unhide hown)
      go_wp2
      go_loopw [7, 8] (fun o t wq => ∃ (m B v : Nat), Hid (B = A + m) ∧ m ≤ s ∧ t = .int .i64 B ∧ o = .float .f64 v ∧ Hid (Sm v (sumV ((blkq l s k).take m))) ∧ Hid (Below wo.heap.size wo wq)) (fun _ t _ => A + s - (intOf t).toNat)
      case atStart => exact ⟨0, A, 0, hide rfl, by omega, rfl, rfl, hide Sm.rfl, hide (Below.refl _ _)⟩
      case round =>
        obtain ⟨m, B, v, hB, hm, rfl, rfl, hs, hq⟩ := hrel
        have hBA : A ≤ B := by have := unhide hB; omega
        by_cases hlt2 : m < s
        · obtain ⟨x, hx⟩ : ∃ x, l[B]? = some x := ⟨l[B]'(by have := unhide hB; omega), List.getElem?_eq_getElem (by have := unhide hB; omega)⟩
          have hstep : Hid (∀ u, Sm u (nv .mul x x) → ∀ W, Sm (fv .add v u W) (sumV ((blkq l s k).take (m + 1)))) := hide fun u hu W => by
            rw [blkq_take_snoc hlt2 (by rw [← unhide hA, ← unhide hB]; exact hx), sumV_snoc]
            exact fv_sm (unhide hs) hu
          obtain ⟨b1, o1, rfl, _, i1, c0, _⟩ := unhide ha' B x hx
          have hbw := hide (laterB (unhide hw) (unhide hq))
          have d0 : wr.cell? ⟨b1, o1 + B, none⟩ = some (.float .f64 x) := by rw [(bcell (unhide hbw)).1 _ _ i1]; exact c0
          have hBs : B < A + s := by have := unhide hB; omega
          have s6 : decide ((B : Int) < (A : Int) + (s : Int)) = true := decide_eq_true (by omega)
          have e2 : decide ((0 : Int) ≤ (B : Int)) = true := decide_eq_true (by omega)
          have e3 : decide ((B : Int) < (l.length : Int)) = true := decide_eq_true (by omega)
          have hlB : B < l.length := by omega
          clear hx c0 hs
          go_wp2
          go_region
          go_wp2
          go_roundw
          case rel => exact ⟨m + 1, B + 1, _, hide (by have := unhide hB; omega), by omega, by go_num, rfl, hide (unhide hstep _ fv_nv _), hide (below_drewN (unhide hq) _)⟩
          case measure => simp [intOf]; omega
        · have hme : m = s := by omega
          have hv : Hid (∀ W, Sm (fv .quo v (floatOfInt .f64 s) W) (sqB l s k)) := hide fun W => by
            rw [sqB_eq (by rw [← unhide hA]; exact hlt) (by omega)]
            have h := unhide hs
            rw [hme, List.take_of_length_le (by rw [blkq_len (by rw [← unhide hA]; exact hlt)]; omega)] at h
            exact fv_sm h Sm.rfl
          have o5 := hide (ownsRow_below (unhide hown) (unhide hq))
          have b5 := hide (laterB (unhide hw) (unhide hq))
          have s6 := (unhide b5).size
          have hA2 : Hid (A + s = (k + 1) * s) := hide (by rw [Nat.add_mul, Nat.one_mul, ← unhide hA])
          have hk5 : k + 1 ≤ 4096 := by
            have h := unhide hA2
            have : k + 1 ≤ (k + 1) * s := Nat.le_mul_of_pos_right _ (by omega)
            omega
          clear hs hown hw hq
          have hkg : A + s ≤ B := by have := unhide hB; omega
          have hkf : decide ((B : Int) < (A : Int) + (s : Int)) = false := decide_eq_false (by omega)
          go_wp2_with (refine wpList_flN _ _ rfl _ _ rfl w.heap.size g k cap L _ rfl (unhide o5) rfl (by omega) s6 ?_)
          intro g' cap' w' hown' hbel' hg'
          have hL := hide ((unhide hpw).snoc (unhide hv wr))
          have hown2 := hide hown'
          have hw2 := hide ((unhide b5).trans hbel')
          clear hown' hbel' o5 b5
          go_wp2
          go_roundw
          case rel => exact ⟨k + 1, A + s, g', cap', _, hA2, hlt, by go_num, rfl, hg', hk5, re_map hown2, hL, hw2⟩
          case measure => simp [intOf]; omega
    · have s5 : decide (((A + s : Nat) : Int) ≤ (l.length : Int)) = false := decide_eq_false (by omega)
      have hke : k = N := by
        obtain ⟨p1, p2⟩ := unhide hN1
        have h := unhide hA
        have q1 : k * s < (N + 1) * s := by rw [Nat.add_mul, Nat.one_mul, ← h]; omega
        have q2 : N * s < (k + 1) * s := by rw [Nat.add_mul, Nat.one_mul, ← h]; omega
        have r1 := Nat.lt_of_mul_lt_mul_right q1
        have r2 := Nat.lt_of_mul_lt_mul_right q2
        omega
      subst hke
      go_wp2
      go_ret
      exact Ans.mk hg (unhide hown) (unhide hpw) (unhide hw)

set_option maxHeartbeats 1600000 in
theorem ssq_no (a : Option Addr) (ca : Nat) (l : List Nat) (n : Int) (w : World) (h : ¬ (l.length ≤ 4096 ∧ 1 ≤ n ∧ n ≤ 4096)) (f : Nat → Nat) :
    Calls Try.prog 4 #[.slice a l.length ca, .int .i64 n] w (Ans f 0 w) := by
  have hown0 := hide (own_lit w).2
  by_cases hl : l.length ≤ 4096
  · have hd1 : decide (l.length ≤ 4096) = true := decide_eq_true hl
    have hd2 : decide ((1 : Int) ≤ n ∧ n ≤ 4096) = false := decide_eq_false (fun x => h ⟨hl, x⟩)
    clear h
    go_enter Try.func4, Try.ntmps4
    go_wp2_with fail
    refine (sok_any a l.length ca _).mono ?_
    rintro e w1 ⟨rfl, rfl⟩
    simp only [hd1]
    go_wp2_with fail
    refine (l1in_any n _).mono ?_
    rintro e w1 ⟨rfl, rfl⟩
    simp only [hd2]
    go_wp2
    go_ret
    exact Ans.mk (Nat.le_refl _) (unhide hown0) (Ls.nil _) ((Below.refl _ _).alloc (Nat.le_refl _) _)
  · have hd1 : decide (l.length ≤ 4096) = false := decide_eq_false hl
    clear h
    go_enter Try.func4, Try.ntmps4
    go_wp2_with fail
    refine (sok_any a l.length ca _).mono ?_
    rintro e w1 ⟨rfl, rfl⟩
    simp only [hd1]
    go_wp2
    go_ret
    exact Ans.mk (Nat.le_refl _) (unhide hown0) (Ls.nil _) ((Below.refl _ _).alloc (Nat.le_refl _) _)
theorem ssq_any (a : Option Addr) (ca : Nat) (l : List Nat) (n : Int) (w : World) (ha : Fls false 0 w.heap.size w a l) :
    Calls Try.prog 4 #[.slice a l.length ca, .int .i64 n] w (Ans (sqB l n.toNat) (sqN l n) w) := by
  by_cases h : l.length ≤ 4096 ∧ 1 ≤ n ∧ n ≤ 4096
  · obtain ⟨s, rfl⟩ : ∃ s : Nat, n = s := ⟨n.toNat, by omega⟩
    have e : sqN l s = l.length / s := by unfold sqN; rw [if_pos h]; rfl
    rw [e]
    exact ssq_yes a ca l s w h.1 (by omega) (by omega) ha
  · have e : sqN l n = 0 := by unfold sqN; rw [if_neg h]
    rw [e]
    exact ssq_no a ca l n w h _
end Go.Proofs.Ytebfpoengddncaa
