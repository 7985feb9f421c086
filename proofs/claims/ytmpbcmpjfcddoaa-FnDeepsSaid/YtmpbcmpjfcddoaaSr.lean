/-
  Contract of the exchange of two parts of a list of samples, as long as each other; all blocks but the list's own stand.
-/
import Derived.Test.YtmpbcmpjfcddoaaIs
import Derived.Test.YtmpbcmpjfcddoaaQT
namespace Go.Proofs.Ytmpbcmpjfcddoaa
open Go.RowKit
set_option linter.unusedVariables false
set_option linter.unusedSimpArgs false
namespace D

theorem below_dN (w : World) (n : Nat) : Below w.heap.size w (w.drewN n) := ⟨rfl, rfl, rfl, Nat.le_refl _, fun _ _ => rfl⟩
theorem dn_drewN {w w1 : World} {B gg n cap : Nat} {L L' : List Kl} (h : Own w1 B gg n cap L' ∧ w.grownBy w1 (some gg)) (q : Nat) : Own (w1.drewN q) B gg n cap L' ∧ w.grownBy (w1.drewN q) (some gg) := ⟨ownsRow_below h.1 (below_dN _ _), grown_trans h.2 ⟨rfl, rfl, rfl, Nat.le_refl _, fun _ _ _ => rfl⟩⟩
theorem own_swp2 {w : World} {B gg n cap i j : Nat} {L : List Kl} {x0 x1 x2 x3 x4 y0 y1 y2 y3 y4 : Int} (hx : L[i]? = some (x0, x1, x2, x3, x4)) (hy : L[j]? = some (y0, y1, y2, y3, y4)) (h : Own w B gg n cap L) :
    Own ((((((((((w.setCell ⟨gg, i * 5, none⟩ (.int .i64 y0)).setCell ⟨gg, i * 5 + 1, none⟩ (.int .i64 y1)).setCell ⟨gg, i * 5 + 2, none⟩ (.int .i64 y2)).setCell ⟨gg, i * 5 + 3, none⟩ (.int .i64 y3)).setCell ⟨gg, i * 5 + 4, none⟩ (.int .i64 y4)).setCell ⟨gg, j * 5, none⟩ (.int .i64 x0)).setCell ⟨gg, j * 5 + 1, none⟩ (.int .i64 x1)).setCell ⟨gg, j * 5 + 2, none⟩ (.int .i64 x2)).setCell ⟨gg, j * 5 + 3, none⟩ (.int .i64 x3)).setCell ⟨gg, j * 5 + 4, none⟩ (.int .i64 x4)) B gg n cap (swp L i j (x0, x1, x2, x3, x4) (y0, y1, y2, y3, y4)) := by
  have hil := (List.getElem?_eq_some_iff.1 hx).1
  have hjl := (List.getElem?_eq_some_iff.1 hy).1
  exact own_put (x := (x0, x1, x2, x3, x4)) (by simpa using hjl) (own_put (x := (y0, y1, y2, y3, y4)) hil h)
theorem grown_drew {w w1 : World} {g : Option Nat} (h : w.grownBy w1 g) : w.grownBy w1.drew g := grown_trans h ⟨rfl, rfl, rfl, Nat.le_refl _, fun _ _ _ => rfl⟩
theorem own_drew {w : World} {B gg n cap : Nat} {L : List Kl} (h : Own w B gg n cap L) : Own w.drew B gg n cap L := ownsRow_below h (below_drew1 _)
theorem fin_swp {w wr : World} {B gg n cap i j : Nat} {L : List Kl} {x0 x1 x2 x3 x4 y0 y1 y2 y3 y4 : Int} (hx : L[i]? = some (x0, x1, x2, x3, x4)) (hy : L[j]? = some (y0, y1, y2, y3, y4)) (h : Own wr B gg n cap L ∧ w.grownBy wr (some gg)) :
    Own (((((((((((wr.setCell ⟨gg, i * 5, none⟩ (.int .i64 y0)).setCell ⟨gg, i * 5 + 1, none⟩ (.int .i64 y1)).setCell ⟨gg, i * 5 + 2, none⟩ (.int .i64 y2)).setCell ⟨gg, i * 5 + 3, none⟩ (.int .i64 y3)).setCell ⟨gg, i * 5 + 4, none⟩ (.int .i64 y4)).setCell ⟨gg, j * 5, none⟩ (.int .i64 x0)).setCell ⟨gg, j * 5 + 1, none⟩ (.int .i64 x1)).setCell ⟨gg, j * 5 + 2, none⟩ (.int .i64 x2)).setCell ⟨gg, j * 5 + 3, none⟩ (.int .i64 x3)).setCell ⟨gg, j * 5 + 4, none⟩ (.int .i64 x4)).drew) B gg n cap (swp L i j (x0, x1, x2, x3, x4) (y0, y1, y2, y3, y4)) ∧ w.grownBy (((((((((((wr.setCell ⟨gg, i * 5, none⟩ (.int .i64 y0)).setCell ⟨gg, i * 5 + 1, none⟩ (.int .i64 y1)).setCell ⟨gg, i * 5 + 2, none⟩ (.int .i64 y2)).setCell ⟨gg, i * 5 + 3, none⟩ (.int .i64 y3)).setCell ⟨gg, i * 5 + 4, none⟩ (.int .i64 y4)).setCell ⟨gg, j * 5, none⟩ (.int .i64 x0)).setCell ⟨gg, j * 5 + 1, none⟩ (.int .i64 x1)).setCell ⟨gg, j * 5 + 2, none⟩ (.int .i64 x2)).setCell ⟨gg, j * 5 + 3, none⟩ (.int .i64 x3)).setCell ⟨gg, j * 5 + 4, none⟩ (.int .i64 x4)).drew) (some gg) :=
  ⟨own_drew (own_swp2 hx hy h.1), grown_drew (grown_set10 h.2)⟩
/-- where what lies at k comes from when two parts change places -/
def swi (a b m k : Nat) : Nat := if a ≤ k ∧ k < a + m then b + (k - a) else if b ≤ k ∧ k < b + m then a + (k - b) else k
def SwR (L L' : List Kl) (a b m : Nat) : Prop := ∀ k : Nat, L'[k]? = L[swi a b m k]?
theorem SwR.zero (L : List Kl) (a b : Nat) : SwR L L a b 0 := by
  intro k
  unfold swi
  rw [if_neg (by omega), if_neg (by omega)]
theorem SwR.step {L L1 : List Kl} {a b i : Nat} {x y : Kl} (h : SwR L L1 a b i) (hab : a + i < b) (hx : L1[a + i]? = some x) (hy : L1[b + i]? = some y) : SwR L (swp L1 (a + i) (b + i) x y) a b (i + 1) := by
  intro k
  rw [swp_at hx hy]
  by_cases h1 : k = b + i
  · subst h1
    rw [if_pos rfl, ← hx, h (a + i)]
    congr 1
    unfold swi
    rw [if_neg (by omega), if_neg (by omega), if_neg (by omega), if_pos (by omega)]
    omega
  · rw [if_neg h1]
    by_cases h2 : k = a + i
    · subst h2
      rw [if_pos rfl, ← hy, h (b + i)]
      congr 1
      unfold swi
      rw [if_neg (by omega), if_neg (by omega), if_pos (by omega)]
      omega
    · rw [if_neg h2, h k]
      congr 1
      unfold swi
      by_cases h3 : a ≤ k ∧ k < a + i
      · rw [if_pos h3, if_pos (by omega)]
      · rw [if_neg h3, if_neg (by omega : ¬ (a ≤ k ∧ k < a + (i + 1)))]
        by_cases h4 : b ≤ k ∧ k < b + i
        · rw [if_pos h4, if_pos (by omega)]
        · rw [if_neg h4, if_neg (by omega)]

set_option maxHeartbeats 6400000 in
theorem swr_any (B gg n cap a b m : Nat) (L : List Kl) (w : World) (hO : Own w B gg n cap L) (hn : n ≤ 1000) (hab : a + m ≤ b) (hbn : b + m ≤ n) :
    Calls Try.prog 61 #[.slice (some ⟨gg, 0, none⟩) n cap, .int .i64 a, .int .i64 b, .int .i64 m, (.func (.func 34) #[] #[])] w fun en w' => en = .returned (.tuple #[]) ∧ ∃ L', (Own w' B gg n cap L' ∧ w.grownBy w' (some gg)) ∧ SwR L L' a b m := by
  have hO' := hide hO
  clear hO
  go_enter Try.func61, Try.ntmps61
  go_wp2
  go_loopw [10] (fun s wr => ∃ (i : Nat) (L1 : List Kl), i ≤ m ∧ s = .int .i64 i ∧ Hid (Own wr B gg n cap L1 ∧ w.grownBy wr (some gg)) ∧ Hid (SwR L L1 a b i)) (fun s _ => m - (intOf s).toNat)
  case atStart => exact ⟨0, L, by omega, rfl, hide ⟨unhide hO', grown_refl _ _⟩, hide (SwR.zero L a b)⟩
  case round =>
    clear hO'
    obtain ⟨i, L1, him, rfl, hD, hR⟩ := hrel
    by_cases hlt : i < m
    · have hLn : L1.length = n := own_len (unhide hD).1
      obtain ⟨p, hp⟩ : ∃ p, a + i = p := ⟨_, rfl⟩
      obtain ⟨q, hq⟩ : ∃ q, b + i = q := ⟨_, rfl⟩
      obtain ⟨⟨x0, x1, x2, x3, x4⟩, hx⟩ : ∃ x, L1[p]? = some x := ⟨L1[p]'(by omega), List.getElem?_eq_getElem (by omega)⟩
      obtain ⟨⟨y0, y1, y2, y3, y4⟩, hy⟩ : ∃ y, L1[q]? = some y := ⟨L1[q]'(by omega), List.getElem?_eq_getElem (by omega)⟩
      obtain ⟨c0, c1, c2, c3, c4⟩ := own_cells hx (unhide hD).1
      obtain ⟨d0, d1, d2, d3, d4⟩ := own_cells hy (unhide hD).1
      have hx' := hide hx
      have hy' := hide hy
      have hpq : Hid (p ≠ q) := hide (by omega)
      have hnew : Hid (SwR L (swp L1 p q (x0, x1, x2, x3, x4) (y0, y1, y2, y3, y4)) a b (i + 1)) := hide (by rw [← hp] at hx ⊢; rw [← hq] at hy ⊢; exact (unhide hR).step (by omega) hx hy)
      have t1 : IntKind.i64.wrap ((a : Int) + i) = p := by rw [IntKind.wrap_i64]; omega
      have t2 : IntKind.i64.wrap ((b : Int) + i) = q := by rw [IntKind.wrap_i64]; omega
      have b1 : (p : Int) < n := by omega
      have b2 : (0 : Int) ≤ p := by omega
      have b3 : (q : Int) < n := by omega
      have b4 : (0 : Int) ≤ q := by omega
      clear hx hy hp hq hR hLn
      have hN := hD
      have f0 := (unhide hN).1.frozenAt (p * 5)
      have g0 := (unhide hN).1.frozenAt (q * 5)
      have f1 := (unhide hN).1.frozenAt (p * 5 + 1)
      have g1 := (unhide hN).1.frozenAt (q * 5 + 1)
      have f2 := (unhide hN).1.frozenAt (p * 5 + 2)
      have g2 := (unhide hN).1.frozenAt (q * 5 + 2)
      have f3 := (unhide hN).1.frozenAt (p * 5 + 3)
      have g3 := (unhide hN).1.frozenAt (q * 5 + 3)
      have f4 := (unhide hN).1.frozenAt (p * 5 + 4)
      have g4 := (unhide hN).1.frozenAt (q * 5 + 4)
      have hO1 := own_put (x := (y0, y1, y2, y3, y4)) (k := p) (by rw [own_len (unhide hN).1]; omega) (unhide hN).1
      obtain ⟨m0, m1, m2, m3, m4⟩ := own_cells (k := q) (x := (y0, y1, y2, y3, y4)) (by rw [List.getElem?_set_ne (unhide hpq)]; exact unhide hy') hO1
      have s0 := hO1.frozenAt (q * 5)
      have s1 := hO1.frozenAt (q * 5 + 1)
      have s2 := hO1.frozenAt (q * 5 + 2)
      have s3 := hO1.frozenAt (q * 5 + 3)
      have s4 := hO1.frozenAt (q * 5 + 4)
      clear hO1
      have hfin := hide (fin_swp (unhide hx') (unhide hy') (unhide hN))
      clear hD hN
      go_wp2_with fail
      go_region
      go_wp2
      go_roundw
      case rel => exact ⟨i + 1, _, by omega, by go_num, hfin, hnew⟩
      case measure => simp [intOf]; omega
    · have hie : i = m := by omega
      have tl : decide ((i : Int) < m) = false := by simp; omega
      have hf : Hid (SwR L L1 a b m) := hide (by have := unhide hR; rw [hie] at this; exact this)
      go_wp2
      refine bodyPost_end (results_none rfl _ _ _) rfl ?_
      exact ⟨rfl, L1, unhide hD, unhide hf⟩

end D
end Go.Proofs.Ytmpbcmpjfcddoaa
