/-
  The walk of the law FnConvolved: for every code it answers true, and writes into nothing that was there.
-/
import Derived.Test.YtdemcjppokhonaaDrM
import Derived.Test.YtdemcjppokhonaaLawFM
import Derived.Test.YtdemcjppokhonaaCj
import Derived.Deep.QuietTactic
import Derived.BigQuiet
import Derived.Outline
namespace Go.Proofs.Ytdemcjppokhonaa
open Go.RowKit
set_option linter.unusedVariables false
set_option linter.unusedSimpArgs false

theorem cv_one {l : List Nat} {i x : Nat} (hx : l[i]? = some x) : cvE l [4607182418800017408] i = nv .add x 0 := by
  have hi : i < l.length := (List.getElem?_eq_some_iff.1 hx).1
  show (if 0 ≤ i ∧ i - 0 < l.length then nv .add 0 (nv .mul (nth [4607182418800017408] 0) (nth l (i - 0))) else 0) = _
  rw [if_pos ⟨Nat.zero_le _, by omega⟩, Nat.sub_zero, nth_of hx]
  show nv .add 0 (nv .mul 4607182418800017408 x) = _
  rw [nv_mul_comm, Lk.nv Lk.rfl (lk_one x), nv_add_comm]
theorem cv_two {l : List Nat} {i x : Nat} (hx : l[i]? = some x) (hf : ∀ (j y : Nat), l[j]? = some y → fin0 y = true) : FloatKind.f64.format.order (cvE l [0, 4607182418800017408] (i + 1)) x = some .eq := by
  have hi : i < l.length := (List.getElem?_eq_some_iff.1 hx).1
  have e0 : cvS l [0, 4607182418800017408] (i + 1) 1 = 0 := by
    show (if 0 ≤ i + 1 ∧ i + 1 - 0 < l.length then nv .add 0 (nv .mul (nth [0, 4607182418800017408] 0) (nth l (i + 1 - 0))) else 0) = 0
    split
    · rename_i h
      obtain ⟨y, hy⟩ : ∃ y, l[i + 1]? = some y := ⟨l[i + 1], List.getElem?_eq_getElem (by omega)⟩
      rw [Nat.sub_zero, nth_of hy]
      exact zero_mul (hf _ _ hy)
    · rfl
  have e1 : cvE l [0, 4607182418800017408] (i + 1) = nv .add 0 (nv .mul 4607182418800017408 x) := by
    show (if 1 ≤ i + 1 ∧ i + 1 - 1 < l.length then nv .add (cvS l [0, 4607182418800017408] (i + 1) 1) (nv .mul (nth [0, 4607182418800017408] 1) (nth l (i + 1 - 1))) else cvS l [0, 4607182418800017408] (i + 1) 1) = _
    rw [if_pos ⟨by omega, by omega⟩, e0, show i + 1 - 1 = i by omega, nth_of hx]
    rfl
  rw [e1]
  exact zero_add_eq (hf _ _ hx)
theorem fls_lit {w : World} (cs : List Nat) : Fls false 0 (w.alloc (.cells (cs.map fl).toArray 25)).heap.size (w.alloc (.cells (cs.map fl).toArray 25)) (some ⟨w.heap.size, 0, none⟩) cs := by
  intro j x hx
  have := World.news_of_block (heap_alloc_new w (.cells (cs.map fl).toArray 25)) j (fl x) (by simp [hx])
  rw [Addr.add_lit] at this
  exact ⟨_, _, rfl, Nat.zero_le _, by simp, this, fun h => by cases h⟩
theorem al_below {w : World} (o : Obj) : Below w.heap.size w (w.alloc o) := (Below.refl _ _).alloc (Nat.le_refl _) _

set_option maxHeartbeats 6400000 in
theorem lawFC {W : World} (a : Option Addr) (len cap : Nat) (hr : RdB W W.heap.size a len) :
    Calls Try.prog 4 #[.slice a len cap] W fun e w' => e = .returned (.bool true) ∧ Below W.heap.size W w' := by
  have hr' := hide hr
  clear hr
  have c0 := hide (big_any a len cap W)
  by_cases hb : 4096 < len
  · rw [decide_eq_true hb] at c0
    go_enter Try.func4, Try.ntmps4
    go_wp2_with fail
    refine (unhide c0).mono ?_
    rintro e w0 ⟨rfl, hw0⟩
    have hw0 := hw0.symm
    subst hw0
    clear c0
    go_wp2
    go_ret
    exact ⟨rfl, Below.refl _ _⟩
  rw [decide_eq_false hb] at c0
  go_enter Try.func4, Try.ntmps4
  go_wp2_with fail
  refine (unhide c0).mono ?_
  rintro e w0 ⟨rfl, hw0⟩
  have hw0 := hw0.symm
  subst hw0
  clear c0
  go_wp2_with fail
  refine (dcv_any a len cap _ (by omega) (unhide hr')).mono ?_
  rintro e w1 ⟨gA, cA, l, gB, cB, m, rfl, lA, lB, fA, fB, k1⟩
  have fA := hide fA
  have fB := hide fB
  have H1 := hide k1
  clear hr' k1
  obtain ⟨N, hN⟩ : ∃ N, cvN l m = N := ⟨_, rfl⟩
  have hN' := hide hN
  clear hN
  go_wp2_with fail
  refine (icv_any _ cA l _ cB m _ (by omega) (by omega) (unhide fA) (unhide fB)).mono ?_
  intro e w2 hA
  obtain ⟨gX, cX, X, rfl, qX, oX, vX, k2⟩ := hA.len
  rw [unhide hN']
  have fA := hide (carry (unhide fA) k2)
  have fB := hide (carry (unhide fB) k2)
  have H2 := hide (later (unhide H1) k2)
  clear k2 H1 hA qX oX vX
  go_wp2_with fail
  refine (scv_any _ cA l _ cB m _ (by omega) (by omega) (unhide fA) (unhide fB)).mono ?_
  intro e w3 hA
  obtain ⟨gX, cX, X, rfl, qX, oX, vX, k3⟩ := hA.len
  rw [unhide hN']
  have fA := hide (carry (unhide fA) k3)
  have H3 := hide (later (unhide H2) k3)
  clear k3 H2 hA qX oX vX fB
  by_cases hl0 : l.length = 0
  · have t1 : ((l.length : Int) == 0) = true := by rw [hl0]; rfl
    clear hl0
    go_wp2
    go_ret
    exact ⟨rfl, unhide H3⟩
  have t1 : ((l.length : Int) == 0) = false := beq_eq_false_iff_ne.2 (by omega)
  by_cases hl1 : 100 < l.length
  · have t2 : decide ((100 : Int) < (l.length : Int)) = true := decide_eq_true (by omega)
    go_wp2
    go_ret
    exact ⟨rfl, unhide H3⟩
  have t2 : decide ((100 : Int) < (l.length : Int)) = false := decide_eq_false (by omega)
  have c5 := hide (icv_any (some ⟨gA, 0, none⟩) cA l (some ⟨w3.heap.size, 0, none⟩) 1 [4607182418800017408] (w3.alloc (.cells #[.float .f64 4607182418800017408] 25)) (by omega) (by simp) (carry (unhide fA) (al_below _)) (fls_lit [4607182418800017408]))
  have hN1 : cvN l [4607182418800017408] = l.length := by unfold cvN; rw [if_neg (by simp only [List.length_cons, List.length_nil]; omega)]; simp
  have hN1' := hide hN1
  have hN2 : cvN l [0, 4607182418800017408] = l.length + 1 := by unfold cvN; rw [if_neg (by simp only [List.length_cons, List.length_nil]; omega)]; simp
  have hN2' := hide hN2
  clear hN1 hN2
  go_wp2_with fail
  refine (unhide c5).mono ?_
  intro e w6 hA
  obtain ⟨gX, cX, X, rfl, qX, oX, vX, k6⟩ := hA.len
  rw [unhide hN1'] at oX vX ⊢
  have k7 := later (al_below (.cells #[.float .f64 4607182418800017408] 25)) k6
  have oX := hide (own_mono oX (Nat.zero_le _))
  have vX := hide vX
  have fA := hide (carry (unhide fA) k7)
  have H6 := hide (later (unhide H3) k7)
  clear k6 k7 H3 hA qX c5 hN1'
  have c5 := hide (icv_any (some ⟨gA, 0, none⟩) cA l (some ⟨w6.heap.size, 0, none⟩) 2 [0, 4607182418800017408] (w6.alloc (.cells #[.float .f64 0, .float .f64 4607182418800017408] 25)) (by omega) (by simp) (carry (unhide fA) (al_below _)) (fls_lit [0, 4607182418800017408]))
  go_wp2_with fail
  refine (unhide c5).mono ?_
  intro e w8 hA
  obtain ⟨gY, cY, Y, rfl, qY, oY, vY, k8⟩ := hA.len
  rw [unhide hN2'] at oY vY ⊢
  have k7 := later (al_below (.cells #[.float .f64 0, .float .f64 4607182418800017408] 25)) k8
  have oX := hide (ownsRow_below (unhide oX) k7)
  have oY := hide (own_mono oY (Nat.zero_le _))
  have vY := hide vY
  have fA := hide (carry (unhide fA) k7)
  have H8 := hide (later (unhide H6) k7)
  clear k8 k7 H6 hA qY c5 hN2'
  have w9 : IntKind.i64.wrap ((l.length : Int) + 1) = (l.length : Int) + 1 := by rw [IntKind.wrap_i64]; omega
  go_wp2
  go_loopw [7, 8] (fun s t wr => ∃ (k : Nat) (b : Bool), k ≤ l.length ∧ t = .int .i64 k ∧ s = .bool b ∧ Hid (b = true → ∀ j y, j < k → l[j]? = some y → fin0 y = true) ∧ Hid (Below w8.heap.size w8 wr)) (fun _ t _ => l.length - (intOf t).toNat)
  case atStart => exact ⟨0, true, Nat.zero_le _, rfl, rfl, hide (fun _ j y hj _ => by omega), hide (Below.refl _ _)⟩
  case round =>
    obtain ⟨k, b, hk, rfl, rfl, hall, hq⟩ := hrel
    by_cases hlt : k < l.length
    · obtain ⟨x, dx, sx⟩ := row_at (ownsRow_below (unhide oX) (unhide hq)) (unhide vX) hlt
      obtain ⟨y, hy⟩ : ∃ y, l[k]? = some y := ⟨l[k], List.getElem?_eq_getElem hlt⟩
      obtain ⟨b1, o1, hbo, _, i1, dy, _⟩ := unhide (hide (carry (unhide fA) (unhide hq))) k y hy
      injection hbo with hbo
      injection hbo with e1 e2
      subst e1 e2
      rw [Nat.zero_add] at dy
      rw [cv_one hy] at sx
      have hs : Sm x (fv .add y 0 wr) := sx.trans fv_nv.symm
      have hstep : Hid (∀ b', (b' = true → b = true ∧ fin0 y = true) → (b' = true → ∀ j z, j < k + 1 → l[j]? = some z → fin0 z = true)) := hide fun b' h hb' j z hj hz => by
        by_cases e : j = k
        · subst e; rw [hy] at hz; injection hz with hz; rw [← hz]; exact (h hb').2
        · exact unhide hall (h hb').1 j z (by omega) hz
      clear sx i1 hy hall
      have kd := hide (show Below wr.heap.size wr (wr.drewN (fd .add y 0)) from below_drew _)
      obtain ⟨z, hz⟩ : ∃ z, fv .add y 0 wr = z := ⟨_, rfl⟩
      rw [hz] at hs
      by_cases nx : NaN x
      · have nz : NaN z := by
          rcases hs with rfl | ⟨_, hz⟩
          · exact nx
          · exact hz
        have e1 := order_nan_left (y := z) nx
        have e2 := order_nan_left (y := x) nx
        have e3 := order_nan_left (y := z) nz
        clear nx nz hs
        cases b
        · go_wp2_with fail
          go_quiet (fail)
          go_wp2_with fail
          go_quiet (fail)
          go_wp2
          go_roundw
          case rel => exact ⟨k + 1, false, by omega, by go_num, rfl, hide (unhide hstep false (fun h => by cases h)), hide (below_drewN (unhide hq) _)⟩
          case measure => simp [intOf]; omega
        · go_wp2_with fail
          go_quiet (fail)
          go_wp2_with fail
          go_region
          all_goals (
            go_wp2
            go_roundw
            case rel => exact ⟨k + 1, _, by omega, by go_num, rfl, hide (unhide hstep _ (fun h => ⟨by first | trivial | rfl, by unfold fin0; rw [← order_sm fv_nv Sm.rfl]; exact h⟩)), hide (below_drewN (unhide hq) _)⟩
            case measure => simp [intOf]; omega)
      · have hxy : x = z := by
          rcases hs with rfl | ⟨hx, _⟩
          · rfl
          · exact absurd hx nx
        have e1 : FloatKind.f64.format.order x z = some .eq := by rw [← hxy]; exact order_self nx
        clear nx hs hxy
        cases b
        · go_wp2_with fail
          go_quiet (fail)
          go_wp2_with fail
          go_quiet (fail)
          go_wp2
          go_roundw
          case rel => exact ⟨k + 1, false, by omega, by go_num, rfl, hide (unhide hstep false (fun h => by cases h)), hide (below_drewN (unhide hq) _)⟩
          case measure => simp [intOf]; omega
        · go_wp2_with fail
          go_quiet (fail)
          go_wp2_with fail
          go_region
          all_goals (
            go_wp2
            go_roundw
            case rel => exact ⟨k + 1, _, by omega, by go_num, rfl, hide (unhide hstep _ (fun h => ⟨by first | trivial | rfl, by unfold fin0; rw [← order_sm fv_nv Sm.rfl]; exact h⟩)), hide (below_drewN (unhide hq) _)⟩
            case measure => simp [intOf]; omega)
    · have hke : k = l.length := by omega
      have hd : decide ((k : Int) < (l.length : Int)) = false := decide_eq_false (by omega)
      have hq1 := hide (later (unhide H8) (unhide hq))
      have oY := hide (ownsRow_below (unhide oY) (unhide hq))
      have fA := hide (carry (unhide fA) (unhide hq))
      have hall2 := hide (show b = true → ∀ (j y : Nat), l[j]? = some y → fin0 y = true from fun hb j y hy => unhide hall hb j y (by have := (List.getElem?_eq_some_iff.1 hy).1; omega) hy)
      clear hall hke
      rename World => wo
      cases b
      · go_wp2
        go_loopw [10] (fun t wr => t = .int .i64 0 ∧ Hid (Below wo.heap.size wo wr)) (fun t _ => 0)
        case atStart => exact ⟨rfl, hide (Below.refl _ _)⟩
        case round =>
          obtain ⟨rfl, hq3⟩ := hrel
          have hl9 : decide ((0 : Int) < (l.length : Int)) = true := decide_eq_true (by omega)
          go_wp2
          go_ret
          exact ⟨rfl, later (unhide hq1) (unhide hq3)⟩
      · have hfin := hide (unhide hall2 rfl)
        clear hall2
        go_wp2
        go_loopw [10] (fun t wr => ∃ j : Nat, j ≤ l.length ∧ t = .int .i64 j ∧ Hid (Below wo.heap.size wo wr)) (fun t _ => l.length - (intOf t).toNat)
        case atStart => exact ⟨0, Nat.zero_le _, rfl, hide (Below.refl _ _)⟩
        case round =>
          obtain ⟨j, hj, rfl, hq3⟩ := hrel
          by_cases hjl : j < l.length
          · obtain ⟨x, dx, sx⟩ := row_at (k := j + 1) (ownsRow_below (unhide oY) (unhide hq3)) (unhide vY) (by omega)
            obtain ⟨y, hy⟩ : ∃ y, l[j]? = some y := ⟨l[j], List.getElem?_eq_getElem hjl⟩
            obtain ⟨b1, o1, hbo, _, i1, dy, _⟩ := unhide (hide (carry (unhide fA) (unhide hq3))) j y hy
            injection hbo with hbo
            injection hbo with e1 e2
            subst e1 e2
            rw [Nat.zero_add] at dy
            have e1 : FloatKind.f64.format.order x y = some .eq := by rw [order_sm sx Sm.rfl]; exact cv_two hy (unhide hfin)
            have e5 : IntKind.i64.wrap ((j : Int) + 1) = ((j + 1 : Nat) : Int) := by rw [IntKind.wrap_i64]; omega
            have e6 : ((j + 1 : Nat) : Int) < (l.length : Int) + 1 := by omega
            have e7 : j + 1 < l.length + 1 := by omega
            have hjl2 : (j : Int) < (l.length : Int) := by omega
            clear sx i1 hy
            generalize hj1 : j + 1 = j1 at *
            have hj1' := hide hj1
            clear hj1
            go_wp2_with fail
            go_quiet (fail)
            go_wp2
            go_roundw
            case rel => exact ⟨j + 1, by omega, by first | (go_num; done) | (rw [unhide hj1']), hide (below_drewN (unhide hq3) _)⟩
            case measure => simp [intOf]; have := unhide hj1'; omega
          · have hje : j = l.length := by omega
            subst hje
            go_wp2
            go_ret
            exact ⟨rfl, later (unhide hq1) (unhide hq3)⟩
end Go.Proofs.Ytdemcjppokhonaa
