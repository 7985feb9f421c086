/-
  Contract of the insertion sort of samples; all blocks but the list's own stand.
-/
import Derived.Test.YtmpbcmpjfcddoaaCm
namespace Go.Proofs.Ytmpbcmpjfcddoaa
open Go.RowKit
set_option linter.unusedVariables false
set_option linter.unusedSimpArgs false
namespace D

/-- ordered from a up to i, but for what lies ahead of the place j -/
def Gap (l : List Kl) (a i j : Nat) : Prop := ∀ p q x y, a ≤ p → p < q → q ≤ i → q ≠ j → l[p]? = some x → l[q]? = some y → x.1 ≤ y.1
theorem Gap.start {l : List Kl} {a i : Nat} (h : SrtdIn l a i) : Gap l a i i := fun p q x y h1 h2 h3 h4 => h p q x y h1 h2 (by omega)
theorem Gap.stop {l : List Kl} {a i j : Nat} (h : Gap l a i j) (hj : ∀ x y, a < j → l[j - 1]? = some x → l[j]? = some y → x.1 ≤ y.1) (hl : j ≤ i) (hi : i < l.length) : SrtdIn l a (i + 1) := by
  intro p q x y h1 h2 h3 hx hy
  by_cases e : q = j
  · subst e
    by_cases e2 : p = q - 1
    · subst e2; exact hj x y (by omega) hx hy
    · obtain ⟨z, hz⟩ : ∃ z, l[q - 1]? = some z := ⟨l[q - 1]'(by omega), List.getElem?_eq_getElem (by omega)⟩
      have h4 := h p (q - 1) x z h1 (by omega) (by omega) (by omega) hx hz
      have h5 := hj z y (by omega) hz hy
      omega
  · exact h p q x y h1 h2 (by omega) e hx hy
theorem Gap.step {l : List Kl} {a i j : Nat} {x y : Kl} (h : Gap l a i (j + 1)) (ha : a ≤ j) (hj : j + 1 ≤ i) (hx : l[j]? = some x) (hy : l[j + 1]? = some y) (hlt : y.1 < x.1) : Gap (swp l j (j + 1) x y) a i j := by
  intro p q u v h1 h2 h3 h4 hu hv
  rw [swp_at hx hy] at hu hv
  by_cases q1 : q = j + 1
  · subst q1
    rw [if_pos rfl] at hv
    cases hv
    by_cases p1 : p = j
    · subst p1
      rw [if_neg (by omega), if_pos rfl] at hu
      cases hu
      omega
    · rw [if_neg (by omega), if_neg p1] at hu
      exact h p j u x h1 (by omega) (by omega) (by omega) hu hx
  · rw [if_neg q1, if_neg h4] at hv
    by_cases p1 : p = j + 1
    · subst p1
      rw [if_pos rfl] at hu
      cases hu
      exact h j q x v ha (by omega) h3 (by omega) hx hv
    · rw [if_neg p1] at hu
      by_cases p2 : p = j
      · subst p2
        rw [if_pos rfl] at hu
        cases hu
        exact h (p + 1) q y v (by omega) (by omega) h3 q1 hy hv
      · rw [if_neg p2] at hu
        exact h p q u v h1 h2 h3 q1 hu hv
theorem swp_out {l : List Kl} {a b j : Nat} {x y : Kl} (hx : l[j]? = some x) (hy : l[j + 1]? = some y) (ha : a ≤ j) (hb : j + 1 < b) : Out l (swp l j (j + 1) x y) a b := by
  intro k hk
  rw [swp_at hx hy, if_neg (by omega), if_neg (by omega)]
/-- what is done to a list in place -/
def Dn (w : World) (B gg n cap : Nat) (L L' : List Kl) (w' : World) : Prop := Own w' B gg n cap L' ∧ Alk L L' ∧ w.grownBy w' (some gg)
theorem Dn.start {w : World} {B gg n cap : Nat} {L : List Kl} (h : Own w B gg n cap L) : Dn w B gg n cap L L w := ⟨h, Alk.rfl, grown_refl _ _⟩
theorem Dn.later {w wr w1 : World} {B gg n cap : Nat} {L L' : List Kl} (h : Dn w B gg n cap L L' wr) (hb : Below wr.heap.size wr w1) : Dn w B gg n cap L L' w1 := ⟨ownsRow_below h.1 hb, h.2.1, grown_trans h.2.2 ⟨hb.os, hb.tape, hb.output, hb.size, fun j hj _ => hb.block j hj⟩⟩
theorem Dn.next {w wr w1 : World} {B gg n cap : Nat} {L L' L2 : List Kl} (h : Dn w B gg n cap L L' wr) (k : Dn wr B gg n cap L' L2 w1) : Dn w B gg n cap L L2 w1 := ⟨k.1, h.2.1.trans k.2.1, grown_trans h.2.2 k.2.2⟩
theorem Dn.len {w w1 : World} {B gg n cap : Nat} {L L' : List Kl} (h : Dn w B gg n cap L L' w1) : L'.length = n := own_len h.1

theorem own_swp {w : World} {B gg n cap i j : Nat} {L : List Kl} {x0 x1 x2 x3 x4 y0 y1 y2 y3 y4 : Int} (hx : L[i]? = some (x0, x1, x2, x3, x4)) (hy : L[j]? = some (y0, y1, y2, y3, y4)) (hij : i ≠ j) (h : Own w B gg n cap L) :
    Own ((((((((((w.setCell ⟨gg, j * 5, none⟩ (.int .i64 x0)).setCell ⟨gg, j * 5 + 1, none⟩ (.int .i64 x1)).setCell ⟨gg, j * 5 + 2, none⟩ (.int .i64 x2)).setCell ⟨gg, j * 5 + 3, none⟩ (.int .i64 x3)).setCell ⟨gg, j * 5 + 4, none⟩ (.int .i64 x4)).setCell ⟨gg, i * 5, none⟩ (.int .i64 y0)).setCell ⟨gg, i * 5 + 1, none⟩ (.int .i64 y1)).setCell ⟨gg, i * 5 + 2, none⟩ (.int .i64 y2)).setCell ⟨gg, i * 5 + 3, none⟩ (.int .i64 y3)).setCell ⟨gg, i * 5 + 4, none⟩ (.int .i64 y4)) B gg n cap (swp L i j (x0, x1, x2, x3, x4) (y0, y1, y2, y3, y4)) := by
  have hil := (List.getElem?_eq_some_iff.1 hx).1
  have hjl := (List.getElem?_eq_some_iff.1 hy).1
  unfold swp
  rw [List.set_comm _ _ hij]
  exact own_put (x := (y0, y1, y2, y3, y4)) (by simpa using hil) (own_put (x := (x0, x1, x2, x3, x4)) hjl h)
theorem below_drew1 (w : World) : Below w.heap.size w w.drew := ⟨rfl, rfl, rfl, Nat.le_refl _, fun _ _ => rfl⟩
theorem grown_set10 {w w1 : World} {gg : Nat} (h : w.grownBy w1 (some gg)) {o0 o1 o2 o3 o4 o5 o6 o7 o8 o9 : Nat} {v0 v1 v2 v3 v4 v5 v6 v7 v8 v9 : Value} : w.grownBy ((((((((((w1.setCell ⟨gg, o0, none⟩ v0).setCell ⟨gg, o1, none⟩ v1).setCell ⟨gg, o2, none⟩ v2).setCell ⟨gg, o3, none⟩ v3).setCell ⟨gg, o4, none⟩ v4).setCell ⟨gg, o5, none⟩ v5).setCell ⟨gg, o6, none⟩ v6).setCell ⟨gg, o7, none⟩ v7).setCell ⟨gg, o8, none⟩ v8).setCell ⟨gg, o9, none⟩ v9) (some gg) := by
  exact grown_set (grown_set (grown_set (grown_set (grown_set (grown_set (grown_set (grown_set (grown_set (grown_set (h))))))))))

set_option maxHeartbeats 6400000 in
theorem isort_any (B gg n cap a e : Nat) (L : List Kl) (w : World) (hO : Own w B gg n cap L) (hn : n ≤ 1000) (hae : a ≤ e) (hen : e ≤ n) :
    Calls Try.prog 53 #[.slice (some ⟨gg, 0, none⟩) n cap, .int .i64 a, .int .i64 e, (.func (.func 34) #[] #[])] w fun en w' => en = .returned (.tuple #[]) ∧ ∃ L', Dn w B gg n cap L L' w' ∧ Out L L' a e ∧ SrtdIn L' a e := by
  have hD0 := hide (Dn.start hO)
  clear hO
  go_enter Try.func53, Try.ntmps53
  go_wp2
  go_loopw [8] (fun s wr => ∃ (i : Nat) (L1 : List Kl), a + 1 ≤ i ∧ (i ≤ e ∨ i = a + 1) ∧ s = .int .i64 i ∧ Hid (Dn w B gg n cap L L1 wr) ∧ Hid (Out L L1 a e) ∧ Hid (SrtdIn L1 a i)) (fun s _ => e - (intOf s).toNat)
  case atStart => exact ⟨a + 1, L, by omega, Or.inr rfl, by go_num, hD0, hide Out.rfl, hide (fun p q x y h1 h2 h3 => by omega)⟩
  case round =>
    clear hD0
    obtain ⟨i, L1, hai, hie, rfl, hD, hU, hS⟩ := hrel
    by_cases hlt : i < e
    rotate_left
    · have tl : decide ((i : Int) < e) = false := by simp; omega
      have hfin : Hid (SrtdIn L1 a e) := hide ((unhide hS).mono (Nat.le_refl _) (by omega))
      go_wp2
      refine bodyPost_end (results_none rfl _ _ _) rfl ?_
      exact ⟨rfl, L1, unhide hD, unhide hU, unhide hfin⟩
    have hLn : L1.length = n := (unhide hD).len
    go_wp2
    go_loopw [9] (fun s wr => ∃ (j : Nat) (L2 : List Kl), a ≤ j ∧ j ≤ i ∧ s = .int .i64 j ∧ Hid (Dn w B gg n cap L L2 wr) ∧ Hid (Out L L2 a e) ∧ Hid (Gap L2 a i j)) (fun s _ => (intOf s).toNat)
    case atStart => exact ⟨i, L1, by omega, by omega, rfl, hD, hU, hide (Gap.start (unhide hS))⟩
    case round =>
      clear hD hU hS hLn
      obtain ⟨j, L2, haj, hji, rfl, hD, hU, hG⟩ := hrel
      have hLn : L2.length = n := (unhide hD).len
      by_cases hj : a < j
      rotate_left
      · have tl : decide ((a : Int) < j) = false := by simp; omega
        have hnew : Hid (SrtdIn L2 a (i + 1)) := hide (Gap.stop (unhide hG) (fun x y h => by omega) hji (by omega))
        have hD2 : Hid (Dn w B gg n cap L L2 wr.drew) := hide ((unhide hD).later ⟨rfl, rfl, rfl, Nat.le_refl _, fun _ _ => rfl⟩)
        clear hG hD
        go_wp2_with fail
        go_region
        go_wp2
        go_roundw
        case rel => exact ⟨i + 1, L2, by omega, by omega, by go_num, hD2, hU, hnew⟩
        case measure => simp [intOf]; omega
      obtain ⟨K, hK⟩ : ∃ k, j = k + 1 := ⟨j - 1, by omega⟩
      obtain ⟨⟨x0, x1, x2, x3, x4⟩, hx⟩ : ∃ x, L2[K]? = some x := ⟨L2[K]'(by omega), List.getElem?_eq_getElem (by omega)⟩
      obtain ⟨⟨y0, y1, y2, y3, y4⟩, hy⟩ : ∃ y, L2[j]? = some y := ⟨L2[j]'(by omega), List.getElem?_eq_getElem (by omega)⟩
      obtain ⟨c0, c1, c2, c3, c4⟩ := own_cells hx (unhide hD).1
      obtain ⟨d0, d1, d2, d3, d4⟩ := own_cells hy (unhide hD).1
      obtain ⟨c, hc⟩ : ∃ c, cmpI y0 x0 = c := ⟨_, rfl⟩
      have hc' := hide hc
      have hx' := hide hx
      have hy' := hide hy
      have hK' := hide hK
      have hall : Hid (wr.cell? ⟨gg, j * 5, none⟩ = some (.int .i64 y0) ∧ wr.cell? ⟨gg, j * 5 + 1, none⟩ = some (.int .i64 y1) ∧ wr.cell? ⟨gg, j * 5 + 2, none⟩ = some (.int .i64 y2) ∧ wr.cell? ⟨gg, j * 5 + 3, none⟩ = some (.int .i64 y3) ∧ wr.cell? ⟨gg, j * 5 + 4, none⟩ = some (.int .i64 y4) ∧ wr.cell? ⟨gg, K * 5, none⟩ = some (.int .i64 x0) ∧ wr.cell? ⟨gg, K * 5 + 1, none⟩ = some (.int .i64 x1) ∧ wr.cell? ⟨gg, K * 5 + 2, none⟩ = some (.int .i64 x2) ∧ wr.cell? ⟨gg, K * 5 + 3, none⟩ = some (.int .i64 x3) ∧ wr.cell? ⟨gg, K * 5 + 4, none⟩ = some (.int .i64 x4) ∧ Below wr.heap.size wr wr) := hide ⟨d0, d1, d2, d3, d4, c0, c1, c2, c3, c4, Below.refl _ _⟩
      have tK : IntKind.i64.wrap ((j : Int) - 1) = K := by rw [IntKind.wrap_i64]; omega
      have b1 : (j : Int) < n := by omega
      have b2 : (0 : Int) ≤ j := by omega
      have b3 : (K : Int) < n := by omega
      have b4 : (0 : Int) ≤ K := by omega
      have b5 : (a : Int) < j := by omega
      clear hc c0 c1 c2 c3 c4 d0 d1 d2 d3 d4 hK hx hy
      go_wp2_with fail
      go_region_held3 (fun w' => w'.cell? ⟨gg, j * 5, none⟩ = some (.int .i64 y0) ∧ w'.cell? ⟨gg, j * 5 + 1, none⟩ = some (.int .i64 y1) ∧ w'.cell? ⟨gg, j * 5 + 2, none⟩ = some (.int .i64 y2) ∧ w'.cell? ⟨gg, j * 5 + 3, none⟩ = some (.int .i64 y3) ∧ w'.cell? ⟨gg, j * 5 + 4, none⟩ = some (.int .i64 y4) ∧ w'.cell? ⟨gg, K * 5, none⟩ = some (.int .i64 x0) ∧ w'.cell? ⟨gg, K * 5 + 1, none⟩ = some (.int .i64 x1) ∧ w'.cell? ⟨gg, K * 5 + 2, none⟩ = some (.int .i64 x2) ∧ w'.cell? ⟨gg, K * 5 + 3, none⟩ = some (.int .i64 x3) ∧ w'.cell? ⟨gg, K * 5 + 4, none⟩ = some (.int .i64 x4) ∧ Below wr.heap.size wr w')
        (first | (with_reducible refine keepN ?_ hb; with_reducible assumption) | (with_reducible exact keepNd (unhide hall)))
        ((go_at_call 34; refine (by_any y0 y1 y2 y3 y4 x0 x1 x2 x3 x4 c _ (unhide hc')).mono ?_; rintro en w1 ⟨rfl, hb⟩))
      all_goals
        rename_i hH
        have hB := hide hH.2.2.2.2.2.2.2.2.2.2
        have hD1 := hide ((unhide hD).later (unhide hB))
        clear hH hB hD hall
        by_cases hlt2 : y0 < x0
        · have hcc : c = -1 := by rw [← unhide hc']; unfold cmpI; rw [if_pos hlt2]
          subst hcc
          obtain ⟨c0, c1, c2, c3, c4⟩ := own_cells (unhide hx') (unhide hD1).1
          obtain ⟨d0, d1, d2, d3, d4⟩ := own_cells (unhide hy') (unhide hD1).1
          have f0 := (unhide hD1).1.frozenAt (K * 5)
          have g0 := (unhide hD1).1.frozenAt (j * 5)
          have f1 := (unhide hD1).1.frozenAt (K * 5 + 1)
          have g1 := (unhide hD1).1.frozenAt (j * 5 + 1)
          have f2 := (unhide hD1).1.frozenAt (K * 5 + 2)
          have g2 := (unhide hD1).1.frozenAt (j * 5 + 2)
          have f3 := (unhide hD1).1.frozenAt (K * 5 + 3)
          have g3 := (unhide hD1).1.frozenAt (j * 5 + 3)
          have f4 := (unhide hD1).1.frozenAt (K * 5 + 4)
          have g4 := (unhide hD1).1.frozenAt (j * 5 + 4)
          have hO1 := own_put (x := (x0, x1, x2, x3, x4)) (k := j) (by have := unhide hD1; rw [this.len]; omega) (unhide hD1).1
          obtain ⟨m0, m1, m2, m3, m4⟩ := own_cells (k := K) (x := (x0, x1, x2, x3, x4)) (by rw [List.getElem?_set_ne (by have := unhide hK'; omega)]; exact unhide hx') hO1
          have p0 := hO1.frozenAt (K * 5)
          have p1 := hO1.frozenAt (K * 5 + 1)
          have p2 := hO1.frozenAt (K * 5 + 2)
          have p3 := hO1.frozenAt (K * 5 + 3)
          have p4 := hO1.frozenAt (K * 5 + 4)
          clear hO1
          have hO2 := hide (own_swp (unhide hx') (unhide hy') (by have := unhide hK'; omega) (unhide hD1).1)
          have hg3 := hide (unhide hD1).2.2
          have hal : Hid (Alk L2 (swp L2 K j (x0, x1, x2, x3, x4) (y0, y1, y2, y3, y4))) := hide (by have := unhide hy'; rw [unhide hK'] at this ⊢; exact swp_alk (unhide hx') this hlt2)
          have hU2 : Hid (Out L (swp L2 K j (x0, x1, x2, x3, x4) (y0, y1, y2, y3, y4)) a e) := hide ((unhide hU).trans (by have := unhide hy'; rw [unhide hK'] at this ⊢; exact swp_out (unhide hx') this (by have := unhide hK'; omega) (by have := unhide hK'; omega)))
          have hG2 : Hid (Gap (swp L2 K j (x0, x1, x2, x3, x4) (y0, y1, y2, y3, y4)) a i K) := hide (by have := unhide hy'; have hg := unhide hG; rw [unhide hK'] at this hg ⊢; exact hg.step (by have := unhide hK'; omega) (by have := unhide hK'; omega) (unhide hx') this hlt2)
          have hal3 := hide ((unhide hD1).2.1.trans (unhide hal))
          clear hG hU hD1 hal
          go_wp2_with fail
          go_region
          go_wp2
          go_roundw
          case rel => exact ⟨K, _, by have := unhide hK'; omega, by have := unhide hK'; omega, by go_num, hide (Dn.later ⟨unhide hO2, unhide hal3, grown_set10 (unhide hg3)⟩ (below_drew1 _)), hU2, hG2⟩
          case measure => have := unhide hK'; simp [intOf]; omega
        · have hcc : c = 0 ∨ c = 1 := by rw [← unhide hc']; unfold cmpI; rw [if_neg hlt2]; split <;> simp
          have hnew : Hid (SrtdIn L2 a (i + 1)) := hide (Gap.stop (unhide hG) (fun x y h hx hy => by
            have h1 := unhide hx'
            have h2 := unhide hy'
            have h3 := unhide hK'
            rw [show j - 1 = K by omega, h1] at hx
            rw [h2] at hy
            cases hx
            cases hy
            show x0 ≤ y0
            omega) hji (by omega))
          clear hG
          rcases hcc with rfl | rfl
          · go_wp2
            go_roundw
            case rel => exact ⟨i + 1, L2, by omega, by omega, by go_num, hD1, hU, hnew⟩
            case measure => simp [intOf]; omega
          · go_wp2
            go_roundw
            case rel => exact ⟨i + 1, L2, by omega, by omega, by go_num, hD1, hU, hnew⟩
            case measure => simp [intOf]; omega

end D
end Go.Proofs.Ytmpbcmpjfcddoaa
