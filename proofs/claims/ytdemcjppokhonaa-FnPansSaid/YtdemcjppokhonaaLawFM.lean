/-
  The walk of the law FnMixed: for every code it answers true, and writes into nothing that was there.
-/
import Derived.Test.YtdemcjppokhonaaDrM
import Derived.Test.YtdemcjppokhonaaMi
import Derived.Deep.QuietTactic
import Derived.BigQuiet
import Derived.Outline
namespace Go.Proofs.Ytdemcjppokhonaa
open Go.RowKit
set_option linter.unusedVariables false
set_option linter.unusedSimpArgs false

theorem Ans.len {f : Nat → Nat} {N : Nat} {w w' : World} {e : Ending} (h : Ans f N w e w') : ∃ g cap L, e = .returned (.slice (some ⟨g, 0, none⟩) N cap) ∧ w.heap.size ≤ g ∧ w'.ownsRow w.heap.size 25 1 (.slice (some ⟨g, 0, none⟩) N cap) N (L.map fl) ∧ Ls f N L ∧ Below w.heap.size w w' := by
  obtain ⟨g, cap, L, h1, h2, h3, h4, h5⟩ := h
  have e := h4.1
  subst e
  exact ⟨g, cap, L, h1, h2, h3, h4, h5⟩
theorem mixN_comm (l m : List Nat) : mixN m l = mixN l m := by
  unfold mixN
  by_cases h : l.length ≤ 4096 ∧ m.length ≤ 4096
  · rw [if_pos h, if_pos ⟨h.2, h.1⟩, Nat.max_comm]
  · rw [if_neg h, if_neg (fun k => h ⟨k.2, k.1⟩)]
theorem mix_comm {l m : List Nat} {g h i : Nat} (hi : i < mixN l m) : mixE m l h g i = mixE l m g h i := by
  have hlt : i < max l.length m.length := by
    unfold mixN at hi
    split at hi
    · exact hi
    · omega
  unfold mixE
  by_cases h1 : l.length ≤ i
  · rw [if_pos h1, if_neg (by omega), if_pos h1]
  · rw [if_neg h1]
    by_cases h2 : m.length ≤ i
    · rw [if_pos h2, if_pos h2]
    · rw [if_neg h2, if_neg h2, if_neg h1, nv_add_comm]
theorem row_at {w : World} {B g n cap k : Nat} {L : List Nat} {f : Nat → Nat} (h : w.ownsRow B 25 1 (.slice (some ⟨g, 0, none⟩) n cap) n (L.map fl)) (hL : Ls f n L) (hk : k < n) : ∃ x, w.cell? ⟨g, k, none⟩ = some (.float .f64 x) ∧ Sm x (f k) := by
  obtain ⟨x, hx, hs⟩ := hL.at hk
  obtain ⟨b, o, hbo, _, _, hc, _⟩ := fls_of_own h k x hx
  injection hbo with hbo
  injection hbo with h1 h2
  subst h1 h2
  rw [Nat.zero_add] at hc
  exact ⟨x, hc, hs⟩
theorem later {W w w1 : World} (h : Below W.heap.size W w) (hb : Below w.heap.size w w1) : Below W.heap.size W w1 := h.trans (hb.mono h.size)

set_option maxHeartbeats 6400000 in
theorem lawFM {W : World} (a : Option Addr) (len cap : Nat) (hr : RdB W W.heap.size a len) :
    Calls Try.prog 3 #[.slice a len cap] W fun e w' => e = .returned (.bool true) ∧ Below W.heap.size W w' := by
  have hr' := hide hr
  clear hr
  have c0 := hide (big_any a len cap W)
  by_cases hb : 4096 < len
  · rw [decide_eq_true hb] at c0
    go_enter Try.func3, Try.ntmps3
    go_wp2_with fail
    refine (unhide c0).mono ?_
    rintro e w0 ⟨rfl, hw0⟩
    have hw0 := hw0.symm
    subst hw0
    clear c0
    go_wp2
    go_ret
    exact ⟨rfl, Below.refl _ _⟩
  rw [decide_eq_false hb] at c0
  go_enter Try.func3, Try.ntmps3
  go_wp2_with fail
  refine (unhide c0).mono ?_
  rintro e w0 ⟨rfl, hw0⟩
  have hw0 := hw0.symm
  subst hw0
  clear c0
  go_wp2_with fail
  refine (dmix_any a len cap _ (by omega) (unhide hr')).mono ?_
  rintro e w1 ⟨gA, cA, l, gB, cB, m, g, h, rfl, ⟨lA, qA, oA⟩, ⟨lB, qB, oB⟩, k1⟩
  have fA := hide (fls_ownB oA)
  have fB := hide (fls_ownB oB)
  have H1 := hide k1
  clear hr' oA oB k1 qA qB
  obtain ⟨N, hN⟩ : ∃ N, mixN l m = N := ⟨_, rfl⟩
  have hN4 : N ≤ 4096 := by rw [← hN]; exact mixN_le l m
  have hN' := hide hN
  clear hN
  go_wp2_with fail
  refine (imix_any _ cA l _ cB m g h _ (unhide fA) (unhide fB)).mono ?_
  intro e w2 hA
  obtain ⟨gX, cX, X, rfl, qX, oX, vX, k2⟩ := hA.len
  rw [unhide hN'] at oX vX ⊢
  have oX := hide (own_mono oX (Nat.zero_le _))
  have vX := hide vX
  have fA := hide (carry (unhide fA) k2)
  have fB := hide (carry (unhide fB) k2)
  have H2 := hide (later (unhide H1) k2)
  clear k2 H1 hA qX
  go_wp2_with fail
  refine (imix_any _ cB m _ cA l h g _ (unhide fB) (unhide fA)).mono ?_
  intro e w3 hA
  obtain ⟨gY, cY, Y, rfl, qY, oY, vY, k3⟩ := hA.len
  rw [mixN_comm, unhide hN'] at oY vY ⊢
  have oY := hide (own_mono oY (Nat.zero_le _))
  have vY := hide vY
  have oX := hide (ownsRow_below (unhide oX) k3)
  have fA := hide (carry (unhide fA) k3)
  have fB := hide (carry (unhide fB) k3)
  have H3 := hide (later (unhide H2) k3)
  clear k3 H2 hA qY
  go_wp2_with fail
  refine (smix_any _ cA l _ cB m g h _ (unhide fA) (unhide fB)).mono ?_
  intro e w4 hA
  obtain ⟨gZ, cZ, Z, rfl, qZ, oZ, vZ, k4⟩ := hA.len
  rw [unhide hN']
  have oX := hide (ownsRow_below (unhide oX) k4)
  have oY := hide (ownsRow_below (unhide oY) k4)
  have fA := hide (carry (unhide fA) k4)
  have H4 := hide (later (unhide H3) k4)
  clear k4 H3 hA qZ oZ vZ fB
  have hXY := hide (show ∀ i x y, i < N → Sm x (mixE l m g h i) → Sm y (mixE m l h g i) → Sm x y from fun i x y hi h1 h2 => by
    rw [mix_comm (by rw [unhide hN']; exact hi)] at h2
    exact h1.trans h2.symm)
  go_wp2
  go_loopw [9] (fun t wr => ∃ k : Nat, k ≤ N ∧ t = .int .i64 k ∧ Hid (Below w4.heap.size w4 wr)) (fun t _ => N - (intOf t).toNat)
  case atStart => exact ⟨0, Nat.zero_le _, rfl, hide (Below.refl _ _)⟩
  case round =>
    obtain ⟨k, hk, rfl, hq⟩ := hrel
    by_cases hlt : k < N
    · obtain ⟨x, dx, sx⟩ := row_at (ownsRow_below (unhide oX) (unhide hq)) (unhide vX) hlt
      obtain ⟨y, dy, sy⟩ := row_at (ownsRow_below (unhide oY) (unhide hq)) (unhide vY) hlt
      have hs := unhide hXY k x y hlt sx sy
      clear sx sy
      by_cases nx : NaN x
      · have ny : NaN y := by
          rcases hs with rfl | ⟨_, hy⟩
          · exact nx
          · exact hy
        have e1 := order_nan_left (y := y) nx
        have e2 := order_nan_left (y := x) nx
        have e3 := order_nan_left (y := y) ny
        clear nx ny hs
        go_wp2_with fail
        go_quiet (fail)
        go_wp2
        go_roundw
        case rel => exact ⟨k + 1, by omega, by go_num, hide (below_drewN (unhide hq) _)⟩
        case measure => simp [intOf]; omega
      · have hxy : x = y := by
          rcases hs with rfl | ⟨hx, _⟩
          · rfl
          · exact absurd hx nx
        have e1 : FloatKind.f64.format.order x y = some .eq := by rw [← hxy]; exact order_self nx
        clear nx hs hxy
        go_wp2_with fail
        go_quiet (fail)
        go_wp2
        go_roundw
        case rel => exact ⟨k + 1, by omega, by go_num, hide (below_drewN (unhide hq) _)⟩
        case measure => simp [intOf]; omega
    · have hke : k = N := by omega
      have fA := hide (carry (unhide fA) (unhide hq))
      have H5 := hide (later (unhide H4) (unhide hq))
      have hd : decide ((k : Int) < (N : Int)) = false := decide_eq_false (by omega)
      clear oX oY vX vY hXY H4 hq hke
      have c5 := hide (imix_any (some ⟨gA, 0, none⟩) cA l (some ⟨wr.heap.size, 0, none⟩) 0 [] 4607182418800017408 h (wr.alloc (.cells #[] 25)) (carry (unhide fA) ((Below.refl _ _).alloc (Nat.le_refl _) _)) Fls.nil)
      have bb := hide (show Below wr.heap.size wr (wr.alloc (.cells #[] 25)) from (Below.refl _ _).alloc (Nat.le_refl _) _)
      by_cases hl4 : l.length ≤ 4096
      · have hN1 : mixN l [] = l.length := by unfold mixN; rw [if_pos ⟨hl4, by simp⟩]; simp
        have hd2 : decide ((4096 : Int) < (l.length : Int)) = false := decide_eq_false (by omega)
        have hN1' := hide hN1
        clear hN1
        go_wp2_with fail
        refine (unhide c5).mono ?_
        intro e w6 hA
        obtain ⟨gO, cO, O, rfl, qO, oO, vO, k6⟩ := hA.len
        rw [unhide hN1'] at oO vO ⊢
        have k7 := later (unhide bb) k6
        have oO := hide (own_mono oO (Nat.zero_le _))
        have vO := hide vO
        have fA := hide (carry (unhide fA) k7)
        have H6 := hide (later (unhide H5) k7)
        clear k6 k7 H5 hA qO c5 bb hN1'
        have hlk := hide (show ∀ i y x, l[i]? = some x → Sm y (mixE l [] 4607182418800017408 h i) → Lk y x from fun i y x hx hy => by
          unfold mixE at hy
          rw [if_pos (by simp), nth_of hx] at hy
          exact Lk.sm hy (lk_one x))
        go_wp2
        go_loopw [11] (fun t wq => ∃ j : Nat, j ≤ l.length ∧ t = .int .i64 j ∧ Hid (Below w6.heap.size w6 wq)) (fun t _ => l.length - (intOf t).toNat)
        case atStart => exact ⟨0, Nat.zero_le _, rfl, hide (Below.refl _ _)⟩
        case round =>
          obtain ⟨j, hj, rfl, hq⟩ := hrel
          by_cases hjl : j < l.length
          · obtain ⟨y, dy, sy⟩ := row_at (ownsRow_below (unhide oO) (unhide hq)) (unhide vO) hjl
            obtain ⟨x, hx⟩ : ∃ x, l[j]? = some x := ⟨l[j], List.getElem?_eq_getElem hjl⟩
            obtain ⟨b1, o1, hbo, _, i1, dx, _⟩ := unhide (hide (carry (unhide fA) (unhide hq))) j x hx
            injection hbo with hbo
            injection hbo with e1 e2
            subst e1 e2
            rw [Nat.zero_add] at dx
            have hlk2 := hide (unhide hlk j y x hx sy)
            have hall : Hid (wr.cell? ⟨gO, j, none⟩ = some (.float .f64 y) ∧ wr.cell? ⟨gA, j, none⟩ = some (.float .f64 x) ∧ Below w6.heap.size w6 wr) := hide ⟨dy, dx, unhide hq⟩
            clear hx sy i1 dx dy
            go_wp2_with fail
            go_region_held3 (fun w' => w'.cell? ⟨gO, j, none⟩ = some (.float .f64 y) ∧ w'.cell? ⟨gA, j, none⟩ = some (.float .f64 x) ∧ Below w6.heap.size w6 w')
              (first | (refine keep2 ?_ hb; assumption) | (exact keep2d (unhide hall)))
              ((go_at_call 16; refine (like_any y x (unhide hlk2) _).mono ?_; rintro e w1 ⟨rfl, hb⟩))
            go_wp2
            go_roundw
            case rel => exact ⟨j + 1, by omega, by go_num, by rename_i hH; exact hide hH.2.2⟩
            case measure => simp [intOf]; omega
          · have hje : j = l.length := by omega
            subst hje
            go_wp2
            go_ret
            exact ⟨rfl, later (unhide H6) (unhide hq)⟩
      · have hN1 : mixN l [] = 0 := by unfold mixN; rw [if_neg (fun k => hl4 k.1)]
        have hd2 : decide ((4096 : Int) < (l.length : Int)) = true := decide_eq_true (by omega)
        have hN1' := hide hN1
        clear hN1
        go_wp2_with fail
        refine (unhide c5).mono ?_
        intro e w6 hA
        obtain ⟨gO, cO, O, rfl, qO, oO, vO, k6⟩ := hA.len
        rw [unhide hN1']
        have H6 := hide (later (unhide H5) (later (unhide bb) k6))
        clear k6 H5 hA qO c5 bb hN1' oO vO
        go_wp2
        go_ret
        exact ⟨rfl, unhide H6⟩
end Go.Proofs.Ytdemcjppokhonaa
