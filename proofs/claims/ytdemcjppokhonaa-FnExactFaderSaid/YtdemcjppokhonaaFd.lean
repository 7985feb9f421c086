/-
  Contracts of Fader, the model's and the program's: a new list, as long as the sound; nothing that was there is written.
-/
import Derived.Test.YtdemcjppokhonaaKp
import Derived.Test.YtdemcjppokhonaaMi
import Derived.Deep.RegionLaw
import Derived.Laws.CopyOwn
namespace Go.Proofs.Ytdemcjppokhonaa
open Go.RowKit
set_option linter.unusedVariables false
set_option linter.unusedSimpArgs false

def fadE (l : List Nat) (p q : Int) (j : Nat) : Nat := if (j : Int) < p then 0 else if q ≤ (j : Int) then nth l j else nv .mul (nth l j) (nv .quo (floatOfInt .f64 (j - p)) (floatOfInt .f64 (q - p)))
abbrev fadOk (l : List Nat) (p q : Int) : Prop := l.length ≤ 4096 ∧ 0 ≤ p ∧ p < q ∧ q ≤ l.length
def fadN (l : List Nat) (p q : Int) : Nat := if fadOk l p q then l.length else 0
theorem fadN_le (l : List Nat) (p q : Int) : fadN l p q ≤ 4096 := by unfold fadN; split <;> (try unfold fadOk at *) <;> omega

set_option maxHeartbeats 3200000 in
theorem sfad_yes (a : Option Addr) (ca : Nat) (l : List Nat) (p q : Int) (w : World) (hl : l.length ≤ 4096) (h1 : 0 ≤ p) (h2 : p < q) (h3 : q ≤ l.length) (ha : Fls false 0 w.heap.size w a l) :
    Calls Try.prog 33 #[.slice a l.length ca, .int .i64 p, .int .i64 q] w (Ans (fadE l p q) l.length w) := by
  have ha' := hide ha
  clear ha
  have c1 : Hid (∀ w, Calls Try.prog 40 #[.slice a l.length ca] w fun e w' => e = .returned (.bool true) ∧ w' = w) := hide fun w => by have := sok_any a l.length ca w; rw [decide_eq_true hl] at this; exact this
  have t1 : decide (p < 0) = false := decide_eq_false (by omega)
  have t2 : decide (q ≤ p) = false := decide_eq_false (by omega)
  have t3 : decide ((l.length : Int) < q) = false := decide_eq_false (by omega)
  have hown0 := hide (own_lit w).2
  go_enter Try.func33, Try.ntmps33
  go_wp2_with fail
  refine (unhide c1 _).mono ?_
  rintro e w0 ⟨rfl, rfl⟩
  clear c1
  go_wp2
  go_loopw [7, 8] (fun s t wr => ∃ (k g cap : Nat) (L : List Nat), k ≤ l.length ∧ t = .int .i64 k ∧ s = .slice (some ⟨g, 0, none⟩) k cap ∧ w.heap.size ≤ g ∧ Hid (wr.ownsRow w.heap.size 25 1 (.slice (some ⟨g, 0, none⟩) k cap) k (L.map fl)) ∧ Hid (Ls (fadE l p q) k L) ∧ Hid (Below w.heap.size w wr)) (fun _ t _ => l.length - (intOf t).toNat)
  case atStart => exact ⟨0, w.heap.size, 0, [], by omega, rfl, rfl, Nat.le_refl _, hown0, hide (Ls.nil _), hide ((Below.refl _ _).alloc (Nat.le_refl _) _)⟩
  case round =>
    clear hown0
    obtain ⟨k, g, cap, L, hk, rfl, rfl, hg, hown, hpw, hw⟩ := hrel
    have s4 := (unhide hw).size
    by_cases hlt : k < l.length
    · have s5 : decide ((k : Int) < (l.length : Int)) = true := decide_eq_true (by omega)
      obtain ⟨x, hx⟩ : ∃ x, l[k]? = some x := ⟨l[k], List.getElem?_eq_getElem hlt⟩
      obtain ⟨b1, o1, rfl, _, i1, c0, _⟩ := unhide ha' k x hx
      have d0 : wr.cell? ⟨b1, o1 + k, none⟩ = some (.float .f64 x) := by rw [(bcell (unhide hw)).1 _ _ i1]; exact c0
      have hnx := hide (nth_of hx)
      clear hx c0
      by_cases hp : (k : Int) < p
      · have hL := hide (show Ls (fadE l p q) (k + 1) (L ++ [0]) from (unhide hpw).snoc (by unfold fadE; rw [if_pos hp]; exact Sm.rfl))
        have s6 : decide ((k : Int) < p) = true := decide_eq_true hp
        clear hpw
        go_wp2_with (refine wpList_flA wr rfl _ _ rfl w.heap.size g k cap L 0 rfl (unhide hown) rfl (by omega) s4 ?_)
        intro g' cap' w' hown' hbel' hg'
        have hown2 := hide hown'
        have hw2 := hide ((unhide hw).trans hbel')
        clear hown' hbel' hown hw
        go_wp2
        go_roundw
        case rel => exact ⟨k + 1, g', cap', _, by omega, by go_num, rfl, hg', re_map hown2, hL, hw2⟩
        case measure => simp [intOf]; omega
      · have s6 : decide ((k : Int) < p) = false := decide_eq_false hp
        by_cases hq : q ≤ (k : Int)
        · have hL := hide (show Ls (fadE l p q) (k + 1) (L ++ [x]) from (unhide hpw).snoc (by unfold fadE; rw [if_neg hp, if_pos hq, unhide hnx]; exact Sm.rfl))
          have s7 : decide (q ≤ (k : Int)) = true := decide_eq_true hq
          clear hpw
          go_wp2_with (refine wpList_flA wr rfl _ _ rfl w.heap.size g k cap L x rfl (unhide hown) rfl (by omega) s4 ?_)
          intro g' cap' w' hown' hbel' hg'
          have hown2 := hide hown'
          have hw2 := hide ((unhide hw).trans hbel')
          clear hown' hbel' hown hw
          go_wp2
          go_roundw
          case rel => exact ⟨k + 1, g', cap', _, by omega, by go_num, rfl, hg', re_map hown2, hL, hw2⟩
          case measure => simp [intOf]; omega
        · have hL : Hid (∀ v, Sm v (nv .mul x (nv .quo (floatOfInt .f64 (k - p)) (floatOfInt .f64 (q - p)))) → Ls (fadE l p q) (k + 1) (L ++ [v])) := hide fun v h => (unhide hpw).snoc (by unfold fadE; rw [if_neg hp, if_neg hq, unhide hnx]; exact h)
          have s7 : decide (q ≤ (k : Int)) = false := decide_eq_false hq
          have u1 : IntKind.i64.wrap ((k : Int) - p) = (k : Int) - p := by rw [IntKind.wrap_i64]; omega
          have u2 : IntKind.i64.wrap (q - p) = q - p := by rw [IntKind.wrap_i64]; omega
          clear hpw
          go_wp2_with (refine wpList_flN wr _ rfl _ _ rfl w.heap.size g k cap L _ rfl (unhide hown) rfl (by omega) s4 ?_)
          intro g' cap' w' hown' hbel' hg'
          have hown2 := hide hown'
          have hw2 := hide ((unhide hw).trans hbel')
          clear hown' hbel' hown hw
          go_wp2
          go_roundw
          case rel => exact ⟨k + 1, g', cap', _, by omega, by go_num, rfl, hg', re_map hown2, hide (unhide hL _ (fv_sm Sm.rfl fv_nv)), hw2⟩
          case measure => simp [intOf]; omega
    · have hke : k = l.length := by omega
      have hfin : Hid (Ls (fadE l p q) l.length L) := hide (by have := unhide hpw; rw [hke] at this; exact this)
      have hoN := hide (show wr.ownsRow w.heap.size 25 1 (.slice (some ⟨g, 0, none⟩) l.length cap) l.length (L.map fl) by have := unhide hown; rw [hke] at this; exact this)
      clear hpw hown
      subst hke
      go_wp2
      go_ret
      exact Ans.mk hg (unhide hoN) (unhide hfin) (unhide hw)
set_option maxHeartbeats 1600000 in
theorem sfad_no (a : Option Addr) (ca : Nat) (l : List Nat) (p q : Int) (w : World) (h : ¬ fadOk l p q) (f : Nat → Nat) :
    Calls Try.prog 33 #[.slice a l.length ca, .int .i64 p, .int .i64 q] w (Ans f 0 w) := by
  have hown0 := hide (own_lit w).2
  by_cases hl : l.length ≤ 4096
  · have c1 : Hid (∀ w, Calls Try.prog 40 #[.slice a l.length ca] w fun e w' => e = .returned (.bool true) ∧ w' = w) := hide fun w => by have := sok_any a l.length ca w; rw [decide_eq_true hl] at this; exact this
    by_cases h1 : p < 0
    · have t1 : decide (p < 0) = true := decide_eq_true h1
      clear h h1
      go_enter Try.func33, Try.ntmps33
      go_wp2_with fail
      refine (unhide c1 _).mono ?_
      rintro e w0 ⟨rfl, rfl⟩
      clear c1
      go_wp2
      go_ret
      exact Ans.mk (Nat.le_refl _) (unhide hown0) (Ls.nil _) ((Below.refl _ _).alloc (Nat.le_refl _) _)
    have t1 : decide (p < 0) = false := decide_eq_false h1
    by_cases h2 : q ≤ p
    · have t2 : decide (q ≤ p) = true := decide_eq_true h2
      clear h h1 h2
      go_enter Try.func33, Try.ntmps33
      go_wp2_with fail
      refine (unhide c1 _).mono ?_
      rintro e w0 ⟨rfl, rfl⟩
      clear c1
      go_wp2
      go_ret
      exact Ans.mk (Nat.le_refl _) (unhide hown0) (Ls.nil _) ((Below.refl _ _).alloc (Nat.le_refl _) _)
    have t2 : decide (q ≤ p) = false := decide_eq_false h2
    have t3 : decide ((l.length : Int) < q) = true := decide_eq_true (by unfold fadOk at h; omega)
    clear h h1 h2
    go_enter Try.func33, Try.ntmps33
    go_wp2_with fail
    refine (unhide c1 _).mono ?_
    rintro e w0 ⟨rfl, rfl⟩
    clear c1
    go_wp2
    go_ret
    exact Ans.mk (Nat.le_refl _) (unhide hown0) (Ls.nil _) ((Below.refl _ _).alloc (Nat.le_refl _) _)
  · have c1 : Hid (∀ w, Calls Try.prog 40 #[.slice a l.length ca] w fun e w' => e = .returned (.bool false) ∧ w' = w) := hide fun w => by have := sok_any a l.length ca w; rw [decide_eq_false hl] at this; exact this
    clear h
    go_enter Try.func33, Try.ntmps33
    go_wp2_with fail
    refine (unhide c1 _).mono ?_
    rintro e w0 ⟨rfl, rfl⟩
    clear c1
    go_wp2
    go_ret
    exact Ans.mk (Nat.le_refl _) (unhide hown0) (Ls.nil _) ((Below.refl _ _).alloc (Nat.le_refl _) _)
theorem sfad_any (a : Option Addr) (ca : Nat) (l : List Nat) (p q : Int) (w : World) (ha : Fls false 0 w.heap.size w a l) :
    Calls Try.prog 33 #[.slice a l.length ca, .int .i64 p, .int .i64 q] w (Ans (fadE l p q) (fadN l p q) w) := by
  unfold fadN
  split
  · rename_i h
    exact sfad_yes a ca l p q w h.1 h.2.1 h.2.2.1 h.2.2.2 ha
  · exact sfad_no a ca l p q w (by assumption) _
end Go.Proofs.Ytdemcjppokhonaa
