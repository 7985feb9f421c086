/-
  Contract of the model's Convolve: a new list of sums; nothing that was there is written.
-/
import Derived.Test.YtdemcjppokhonaaKp
import Derived.Test.YtdemcjppokhonaaMx
namespace Go.Proofs.Ytdemcjppokhonaa
open Go.RowKit
set_option linter.unusedVariables false
set_option linter.unusedSimpArgs false

/-- the sum of number n, so far as the first k of h tell -/
def cvS (l h : List Nat) (n : Nat) : Nat → Nat
  | 0 => 0
  | k + 1 => if k ≤ n ∧ n - k < l.length then nv .add (cvS l h n k) (nv .mul (nth h k) (nth l (n - k))) else cvS l h n k
def cvE (l h : List Nat) (n : Nat) : Nat := cvS l h n h.length
def cvN (l h : List Nat) : Nat := if l.length = 0 ∨ h.length = 0 ∨ 4096 < l.length + h.length - 1 then 0 else l.length + h.length - 1
theorem cvN_le (l h : List Nat) : cvN l h ≤ 4096 := by unfold cvN; split <;> omega

set_option maxHeartbeats 3200000 in
theorem scv_yes (a : Option Addr) (ca : Nat) (l : List Nat) (b : Option Addr) (cb : Nat) (m : List Nat) (w : World) (h1 : l.length ≠ 0) (h2 : m.length ≠ 0) (h3 : l.length + m.length - 1 ≤ 4096) (ha : Fls false 0 w.heap.size w a l) (hb : Fls false 0 w.heap.size w b m) :
    Calls Try.prog 19 #[.slice a l.length ca, .slice b m.length cb] w (Ans (cvE l m) (l.length + m.length - 1) w) := by
  have ha' := hide ha
  have hb' := hide hb
  clear ha hb
  obtain ⟨N, hN⟩ : ∃ N, l.length + m.length - 1 = N := ⟨_, rfl⟩
  have hw1 : IntKind.i64.wrap ((l.length : Int) + (m.length : Int)) = (l.length : Int) + (m.length : Int) := by rw [IntKind.wrap_i64]; omega
  have hw2 : IntKind.i64.wrap ((l.length : Int) + (m.length : Int) - 1) = (N : Int) := by rw [IntKind.wrap_i64]; omega
  have t1 : ((l.length : Int) == 0) = false := beq_eq_false_iff_ne.2 (by omega)
  have t2 : ((m.length : Int) == 0) = false := beq_eq_false_iff_ne.2 (by omega)
  have t3 : decide ((4096 : Int) < (N : Int)) = false := decide_eq_false (by omega)
  have hN4 : N ≤ 4096 := by omega
  have hlN : l.length ≤ N + 1 := by omega
  have hmN : m.length ≤ N + 1 := by omega
  rw [hN]
  clear hN h1 h2 h3
  have hown0 := hide (own_lit w).2
  go_enter Try.func19, Try.ntmps19
  go_wp2
  go_loopw [5, 7] (fun s t wr => ∃ (k g cap : Nat) (L : List Nat), k ≤ N ∧ t = .int .i64 k ∧ s = .slice (some ⟨g, 0, none⟩) k cap ∧ w.heap.size ≤ g ∧ Hid (wr.ownsRow w.heap.size 25 1 (.slice (some ⟨g, 0, none⟩) k cap) k (L.map fl)) ∧ Hid (Ls (cvE l m) k L) ∧ Hid (Below w.heap.size w wr)) (fun _ t _ => N - (intOf t).toNat)
  case atStart => exact ⟨0, w.heap.size, 0, [], by omega, rfl, rfl, Nat.le_refl _, hown0, hide (Ls.nil _), hide ((Below.refl _ _).alloc (Nat.le_refl _) _)⟩
  case round =>
    clear hown0
    obtain ⟨n, g, cap, L, hk, rfl, rfl, hg, hown, hpw, hw⟩ := hrel
    by_cases hlt : n < N
    · have s5 : decide ((n : Int) < (N : Int)) = true := decide_eq_true (by omega)
      rename World => wo
      have hg2 := own_lt (unhide hown)
      go_wp2
      go_loopw [8, 9] (fun s t wq => ∃ (k v : Nat), k ≤ m.length ∧ t = .int .i64 k ∧ s = .float .f64 v ∧ Hid (Sm v (cvS l m n k)) ∧ Hid (Below wo.heap.size wo wq)) (fun _ t _ => m.length - (intOf t).toNat)
      case atStart => exact ⟨0, 0, by omega, rfl, rfl, hide Sm.rfl, hide (Below.refl _ _)⟩
      case round =>
        obtain ⟨k, v, hk2, rfl, rfl, hs, hq⟩ := hrel
        by_cases hlt2 : k < m.length
        · by_cases hkn : k ≤ n
          · by_cases hnl : n - k < l.length
            · obtain ⟨x, hx⟩ : ∃ x, m[k]? = some x := ⟨m[k], List.getElem?_eq_getElem hlt2⟩
              obtain ⟨y, hy⟩ : ∃ y, l[n - k]? = some y := ⟨l[n - k], List.getElem?_eq_getElem hnl⟩
              have hstep : Hid (∀ u, Sm u (nv .mul x y) → ∀ W, Sm (fv .add v u W) (cvS l m n (k + 1))) := hide fun u hu W => by
                show Sm _ (if k ≤ n ∧ n - k < l.length then nv .add (cvS l m n k) (nv .mul (nth m k) (nth l (n - k))) else cvS l m n k)
                rw [if_pos ⟨hkn, hnl⟩, nth_of hx, nth_of hy]
                exact fv_sm (unhide hs) hu
              obtain ⟨b1, o1, rfl, _, i1, c0, _⟩ := unhide ha' (n - k) y hy
              obtain ⟨b2, o2, rfl, _, i2, c2, _⟩ := unhide hb' k x hx
              have hbw := hide (laterB (unhide hw) (unhide hq))
              have d0 : wr.cell? ⟨b1, o1 + (n - k), none⟩ = some (.float .f64 y) := by rw [(bcell (unhide hbw)).1 _ _ i1]; exact c0
              have d2 : wr.cell? ⟨b2, o2 + k, none⟩ = some (.float .f64 x) := by rw [(bcell (unhide hbw)).1 _ _ i2]; exact c2
              have e1 : IntKind.i64.wrap ((n : Int) - (k : Int)) = ((n - k : Nat) : Int) := by rw [IntKind.wrap_i64]; omega
              generalize hj : n - k = j at *
              have e2 : decide ((0 : Int) ≤ (j : Int)) = true := decide_eq_true (by omega)
              have e3 : decide ((j : Int) < (l.length : Int)) = true := decide_eq_true (by omega)
              have hj' := hide hj
              clear hx hy c0 c2 hs hj
              go_wp2
              go_region
              go_wp2
              go_roundw
              case rel => exact ⟨k + 1, _, by omega, by go_num, rfl, hide (unhide hstep _ fv_nv _), hide (below_drewN (unhide hq) _)⟩
              case measure => simp [intOf]; omega
            · have hs2 := hide (show Sm v (cvS l m n (k + 1)) by
                show Sm _ (if k ≤ n ∧ n - k < l.length then nv .add (cvS l m n k) (nv .mul (nth m k) (nth l (n - k))) else cvS l m n k)
                rw [if_neg (by omega)]; exact unhide hs)
              have e1 : IntKind.i64.wrap ((n : Int) - (k : Int)) = (n : Int) - (k : Int) := by rw [IntKind.wrap_i64]; omega
              have e2 : decide ((0 : Int) ≤ (n : Int) - (k : Int)) = true := decide_eq_true (by omega)
              have e3 : decide ((n : Int) - (k : Int) < (l.length : Int)) = false := decide_eq_false (by omega)
              clear hs
              go_wp2
              go_roundw
              case rel => exact ⟨k + 1, v, by omega, by go_num, rfl, hs2, hq⟩
              case measure => simp [intOf]; omega
          · have hs2 := hide (show Sm v (cvS l m n (k + 1)) by
              show Sm _ (if k ≤ n ∧ n - k < l.length then nv .add (cvS l m n k) (nv .mul (nth m k) (nth l (n - k))) else cvS l m n k)
              rw [if_neg (by omega)]; exact unhide hs)
            have e1 : IntKind.i64.wrap ((n : Int) - (k : Int)) = (n : Int) - (k : Int) := by rw [IntKind.wrap_i64]; omega
            have e2 : decide ((0 : Int) ≤ (n : Int) - (k : Int)) = false := decide_eq_false (by omega)
            clear hs
            go_wp2
            go_roundw
            case rel => exact ⟨k + 1, v, by omega, by go_num, rfl, hs2, hq⟩
            case measure => simp [intOf]; omega
        · have hke : k = m.length := by omega
          have hL := hide (show Ls (cvE l m) (n + 1) (L ++ [v]) from (unhide hpw).snoc (by unfold cvE; rw [← hke]; exact unhide hs))
          have o5 := hide (ownsRow_below (unhide hown) (unhide hq))
          have b5 := hide (laterB (unhide hw) (unhide hq))
          have s6 := (unhide b5).size
          clear hs hpw hown hw hq
          have hkf : decide ((k : Int) < (m.length : Int)) = false := decide_eq_false (by omega)
          go_wp2_with (refine wpList_flA wr rfl _ _ rfl w.heap.size g n cap L v rfl (unhide o5) rfl (by omega) s6 ?_)
          intro g' cap' w' hown' hbel' hg'
          have hown2 := hide hown'
          have hw2 := hide ((unhide b5).trans hbel')
          clear hown' hbel' o5 b5
          go_wp2
          go_roundw
          case rel => exact ⟨n + 1, g', cap', _, by omega, by go_num, rfl, hg', re_map hown2, hL, hw2⟩
          case measure => simp [intOf]; omega
    · have hke : n = N := by omega
      have s5 : decide ((n : Int) < (N : Int)) = false := decide_eq_false (by omega)
      have hfin : Hid (Ls (cvE l m) N L) := hide (by have := unhide hpw; rw [hke] at this; exact this)
      have hoN := hide (show wr.ownsRow w.heap.size 25 1 (.slice (some ⟨g, 0, none⟩) N cap) N (L.map fl) by have := unhide hown; rw [hke] at this; exact this)
      clear hpw hown
      subst hke
      go_wp2
      go_ret
      exact Ans.mk hg (unhide hoN) (unhide hfin) (unhide hw)
end Go.Proofs.Ytdemcjppokhonaa
