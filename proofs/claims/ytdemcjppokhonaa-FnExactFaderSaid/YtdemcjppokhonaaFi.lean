/-
  Contract of the program's Fader: a new list, as long as the sound; nothing that was there is written.
-/
import Derived.Test.YtdemcjppokhonaaFd
namespace Go.Proofs.Ytdemcjppokhonaa
open Go.RowKit
set_option linter.unusedVariables false
set_option linter.unusedSimpArgs false

/-- those from p up to k are faded, all else is nought -/
def fdF (l : List Nat) (p q : Int) (k j : Nat) : Nat := if p ≤ (j : Int) ∧ j < k then nv .mul (nth l j) (nv .quo (floatOfInt .f64 (j - p)) (floatOfInt .f64 (q - p))) else 0
theorem own_block {w : World} {B g n : Nat} {xs : List Value} (h : w.ownsRow B 25 1 (.slice (some ⟨g, 0, none⟩) n n) n xs) : w.heap[g]? = some (.cells xs.toArray 25 (0, 0)) := by
  obtain ⟨h1, h2⟩ := h
  rcases h2 with h2 | ⟨g', cap, cur, hv, hB, hh, hc, hm, hs, ht⟩
  · cases h2.1
  · injection hv with e1 e2 e3
    injection e1 with e1
    injection e1 with e1
    subst e1 e3
    rw [hh]
    have : cur = xs.toArray := by
      rw [← ht, List.take_of_length_le (by rw [Array.length_toList, hs]; exact Nat.le_refl _)]
    rw [this]
theorem own_of_block {w : World} {B g n : Nat} {xs : List Value} (hx : xs.length = n) (hB : B ≤ g) (hm : n ≤ maxLen) (h : w.heap[g]? = some (.cells xs.toArray 25 (0, 0))) : w.ownsRow B 25 1 (.slice (some ⟨g, 0, none⟩) n n) n xs :=
  ⟨by omega, .inr ⟨g, n, xs.toArray, rfl, hB, h, Nat.le_refl _, hm, by simpa using hx, by rw [List.take_of_length_le (by simp; omega)]⟩⟩
theorem fd_start {l : List Nat} {p q : Int} {k : Nat} (h : (k : Int) ≤ p) : Ls (fdF l p q k) l.length (List.replicate l.length 0) := by
  refine ⟨by simp, ?_⟩
  intro j v hv
  rw [List.getElem?_replicate] at hv
  split at hv
  · injection hv with hv
    subst hv
    unfold fdF
    rw [if_neg (by omega)]; exact Sm.rfl
  · cases hv
theorem fd_step {l : List Nat} {p q : Int} {k v : Nat} {X : List Nat} (h : Ls (fdF l p q k) l.length X) (hp : p ≤ (k : Int)) (hv : Sm v (nv .mul (nth l k) (nv .quo (floatOfInt .f64 (k - p)) (floatOfInt .f64 (q - p))))) : Ls (fdF l p q (k + 1)) l.length (X.set k v) := by
  refine h.set ?_ ?_
  · unfold fdF; rw [if_pos ⟨hp, by omega⟩]; exact hv
  · intro j hj
    unfold fdF
    by_cases h1 : p ≤ (j : Int) ∧ j < k
    · rw [if_pos h1, if_pos ⟨h1.1, by omega⟩]
    · rw [if_neg h1, if_neg (by omega)]
theorem map_splice {X Y : List Nat} {k : Nat} : splice (X.map fl) k (Y.map fl) = (splice X k Y).map fl := by
  unfold splice; simp
theorem fd_fin {l : List Nat} {p q : Int} {k : Nat} {X : List Nat} (h : Ls (fdF l p q k) l.length X) (hk : (k : Int) = q) (hpq : p < q) (hkl : k ≤ l.length) : Ls (fadE l p q) l.length (splice X k (l.drop k)) := by
  have hX := h.1
  refine ⟨by rw [length_splice _ _ _ (by simp; omega)]; exact hX, ?_⟩
  intro j v hv
  unfold splice at hv
  by_cases e : j < k
  · rw [List.getElem?_append_left (by simp; omega), List.getElem?_take_of_lt e] at hv
    have := h.2 j v hv
    unfold fdF at this
    unfold fadE
    by_cases e1 : (j : Int) < p
    · rw [if_pos e1]; rw [if_neg (by omega)] at this; exact this
    · rw [if_neg e1, if_neg (by omega)]; rw [if_pos ⟨by omega, e⟩] at this; exact this
  · rw [List.getElem?_append_right (by simp; omega)] at hv
    have e3 : (List.take k X).length = k := by simp; omega
    rw [e3] at hv
    have hd : X.drop (k + (l.drop k).length) = [] := List.drop_eq_nil_of_le (by simp; omega)
    rw [hd, List.append_nil, List.getElem?_drop] at hv
    rw [show k + (j - k) = j by omega] at hv
    unfold fadE
    by_cases e1 : (j : Int) < p
    · omega
    · rw [if_neg e1, if_pos (by omega), nth_of hv]; exact Sm.rfl

set_option maxHeartbeats 3200000 in
theorem ifad_yes (a : Option Addr) (ca : Nat) (l : List Nat) (p q : Int) (w : World) (hl : l.length ≤ 4096) (h1 : 0 ≤ p) (h2 : p < q) (h3 : q ≤ l.length) (hca : l.length ≤ ca) (ha : Fls false 0 w.heap.size w a l) :
    Calls Try.prog 34 #[.slice a l.length ca, .int .i64 p, .int .i64 q] w (Ans (fadE l p q) l.length w) := by
  have ha' := hide ha
  clear ha
  obtain ⟨i0, hi, hz0, hz1, hz2⟩ := info_parts info22
  have c1 : Hid (∀ w, Calls Try.prog 38 #[.slice a l.length ca] w fun e w' => e = .returned (.bool true) ∧ w' = w) := hide fun w => by have := isnd_any a l.length ca w; rw [decide_eq_true hl] at this; exact this
  have t1 : decide (p < 0) = false := decide_eq_false (by omega)
  have t2 : decide (q ≤ p) = false := decide_eq_false (by omega)
  have t3 : decide ((l.length : Int) < q) = false := decide_eq_false (by omega)
  obtain ⟨P, hP⟩ : ∃ P : Nat, (P : Int) = p := ⟨p.toNat, by omega⟩
  obtain ⟨R, hR⟩ : ∃ R : Nat, (R : Int) = q := ⟨q.toNat, by omega⟩
  subst hP hR
  have hPR : P < R := by omega
  have hRl : R ≤ l.length := by omega
  clear h1 h2 h3
  go_enter Try.func34, Try.ntmps34
  go_wp2_with fail
  refine (unhide c1 _).mono ?_
  rintro e w0 ⟨rfl, hw0⟩
  have hw0 := hw0.symm
  subst hw0
  clear c1
  go_wp2_with (refine wpList_make_full _ rfl _ _ 24 rfl w.heap.size 25 i0 (.float .f64 0) 1 Try.underlying24 hi hz0 hz1 .i64 .i64 _ _ l.length rfl rfl rfl rfl ?b2 ?b3 (Nat.le_refl _) ?_)
  case b2 => rw [hz2]; omega
  case b3 => unfold maxLen; omega
  intro w1 hown hg
  have hb1' := hide (show Below w.heap.size w w1 from (Below.refl _ _).grown hg (Nat.le_refl _) (fun k hk => by cases hk))
  have hown1 : Hid (w1.ownsRow w.heap.size 25 1 (.slice (some ⟨w.heap.size, 0, none⟩) l.length l.length) l.length ((List.replicate l.length 0).map fl)) := hide (by
    rw [toList_madeCells_one] at hown; simpa [fl] using hown)
  have h0 := hide (fd_start (l := l) (p := P) (q := R) (k := P) (Int.le_refl _))
  generalize List.replicate l.length 0 = X0 at *
  clear hown hg
  go_wp2
  go_loopw [8] (fun t wr => ∃ (k : Nat) (X : List Nat), P ≤ k ∧ k ≤ R ∧ t = .int .i64 k ∧ Hid (wr.ownsRow w.heap.size 25 1 (.slice (some ⟨w.heap.size, 0, none⟩) l.length l.length) l.length (X.map fl)) ∧ Hid (Ls (fdF l P R k) l.length X) ∧ Hid (Below w.heap.size w wr)) (fun t _ => R - (intOf t).toNat)
  case atStart => exact ⟨P, X0, Nat.le_refl _, by omega, rfl, hown1, h0, hb1'⟩
  case round =>
    clear hown1 hb1' h0
    obtain ⟨k, X, hPk, hk, rfl, hown, hX, hw⟩ := hrel
    by_cases hlt : k < R
    · have hkl : k < l.length := by omega
      obtain ⟨x, hx⟩ : ∃ x, l[k]? = some x := ⟨l[k], List.getElem?_eq_getElem hkl⟩
      have hstep : Hid (∀ v, Sm v (nv .mul x (nv .quo (floatOfInt .f64 ((k : Int) - P)) (floatOfInt .f64 ((R : Int) - P)))) → Ls (fdF l P R (k + 1)) l.length (X.set k v)) := hide fun v h => fd_step (unhide hX) (by omega) (by rw [nth_of hx]; exact h)
      obtain ⟨b1, o1, rfl, _, i1, c0, _⟩ := unhide ha' k x hx
      have d0 : wr.cell? ⟨b1, o1 + k, none⟩ = some (.float .f64 x) := by rw [(bcell (unhide hw)).1 _ _ i1]; exact c0
      obtain ⟨v0, z0, f0, _, _⟩ := own_at (i := k) (unhide hown) (by omega)
      have u1 : IntKind.i64.wrap ((k : Int) - P) = (k : Int) - P := by rw [IntKind.wrap_i64]; omega
      have u2 : IntKind.i64.wrap ((R : Int) - P) = (R : Int) - P := by rw [IntKind.wrap_i64]; omega
      clear hx c0 hX
      go_wp2
      go_roundw
      case rel => exact ⟨k + 1, _, by omega, by omega, by go_num, hide (own_setv _ (unhide hown)), hide (unhide hstep _ (fv_sm Sm.rfl fv_nv)), hide (Below.setCell (below_drewN (unhide hw) _) (Nat.le_refl _) _)⟩
      case measure => simp [intOf]; omega
    · have hke : k = R := by omega
      subst hke
      obtain ⟨x, hx⟩ : ∃ x, l[P]? = some x := ⟨l[P]'(by omega), List.getElem?_eq_getElem (by omega)⟩
      obtain ⟨b1, o1, rfl, _, i1, c0, _⟩ := unhide ha' P x hx
      have hsrc := hide (show ∀ (j : Nat) v, ((l.drop k).map fl)[j]? = some v → wr.cell? ⟨b1, o1 + k + j, none⟩ = some v by
        intro j v hv
        rw [List.getElem?_map, List.getElem?_drop] at hv
        cases hy : l[k + j]? with
        | none => rw [hy] at hv; cases hv
        | some y =>
          rw [hy] at hv
          have hv2 : fl y = v := by simpa using hv
          obtain ⟨b2, o2, hbo, _, i2, c2, _⟩ := unhide ha' (k + j) y hy
          injection hbo with hbo
          injection hbo with e1 e2
          subst e1 e2
          rw [← hv2, Nat.add_assoc, (bcell (unhide hw)).1 _ _ i2]; exact c2)
      have hf := hide (fd_fin (unhide hX) rfl (by omega) hRl)
      have hXl : X.length = l.length := (unhide hX).1
      have hblk := hide (own_block (unhide hown))
      have hRlen : ((l.drop k).map fl).length = l.length - k := by simp
      have hones : ∀ v ∈ (l.drop k).map fl, v.oneCell' = true := by
        intro v hv
        simp only [List.mem_map] at hv
        obtain ⟨z, _, rfl⟩ := hv
        rfl
      have hfit : k + ((l.drop k).map fl).length ≤ (X.map fl).length := by simp; omega
      have hspl := hide (show ∀ w' : World, w'.heap[w.heap.size]? = some (.cells (splice (X.map fl) k ((l.drop k).map fl)).toArray 25 (0, 0)) → w'.ownsRow w.heap.size 25 1 (.slice (some ⟨w.heap.size, 0, none⟩) l.length l.length) l.length ((splice X k (l.drop k)).map fl) from fun w' h => by
        rw [map_splice] at h
        exact own_of_block (by rw [List.length_map]; exact (unhide hf).1) (Nat.le_refl _) (by unfold maxLen; omega) h)
      have hRlen' := hide hRlen
      have hones' := hide hones
      have hfit' := hide hfit
      clear hX hown hx c0 hRlen hones hfit hXl
      generalize (l.drop k).map fl = C at *
      generalize X.map fl = XX at *
      have hlk : decide ((k : Int) < (k : Int)) = false := decide_eq_false (by omega)
      have hsize := (unhide hw).size
      by_cases hkn : l.length = k
      · subst hkn
        by_cases hcn : ca = l.length
        · subst hcn
          go_wp2_with fail
          go_region_law (refine step_copy_splice (by rfl) _ _ 24 24 (by rfl) 25 Try.underlying24 (by kernel_rfl) _ _ _ _ _ _ (by rfl) (by rfl) w.heap.size l.length XX 25 (unhide hblk) C (by rw [unhide hRlen']; simp) (fun h => by rw [unhide hRlen'] at h; omega) (unhide hfit') (unhide hones') w.heap.size w (unhide hw).drew (Nat.le_refl _) ?_; intro w4 hg4 hb4)
          all_goals (
            have hb4' := hide hb4
            have ho4 := hide (unhide hspl w4 (unhide hg4))
            clear hb4 hg4 hspl hblk hsrc
            go_wp2
            go_ret
            exact Ans.mk (Nat.le_refl _) (unhide ho4) (unhide hf) (unhide hb4'))
        · go_wp2_with fail
          go_region_law (refine step_copy_splice (by rfl) _ _ 24 24 (by rfl) 25 Try.underlying24 (by kernel_rfl) _ _ _ _ _ _ (by rfl) (by rfl) w.heap.size l.length XX 25 (unhide hblk) C (by rw [unhide hRlen']; simp) (fun h => by rw [unhide hRlen'] at h; omega) (unhide hfit') (unhide hones') w.heap.size w (unhide hw).drew (Nat.le_refl _) ?_; intro w4 hg4 hb4)
          all_goals (
            have hb4' := hide hb4
            have ho4 := hide (unhide hspl w4 (unhide hg4))
            clear hb4 hg4 hspl hblk hsrc
            go_wp2
            go_ret
            exact Ans.mk (Nat.le_refl _) (unhide ho4) (unhide hf) (unhide hb4'))
      · have hcn : ¬ ca = k := by omega
        go_wp2_with fail
        go_region_law (refine step_copy_splice (by rfl) _ _ 24 24 (by rfl) 25 Try.underlying24 (by kernel_rfl) _ _ _ _ _ _ (by rfl) (by rfl) w.heap.size k XX 25 (unhide hblk) C (by rw [unhide hRlen']; simp) (fun _ => ⟨by first | rfl | simp, _, rfl, fun j v h => by rw [Addr.add_lit]; exact unhide hsrc j v h⟩) (unhide hfit') (unhide hones') w.heap.size w (unhide hw).drew (Nat.le_refl _) ?_; intro w4 hg4 hb4)
        all_goals (
          have hb4' := hide hb4
          have ho4 := hide (unhide hspl w4 (unhide hg4))
          clear hb4 hg4 hspl hblk hsrc
          go_wp2
          go_ret
          exact Ans.mk (Nat.le_refl _) (unhide ho4) (unhide hf) (unhide hb4'))
end Go.Proofs.Ytdemcjppokhonaa
