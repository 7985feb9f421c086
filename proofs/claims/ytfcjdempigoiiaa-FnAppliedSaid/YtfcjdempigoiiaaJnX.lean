/-
  The model's join of clips of any numbers: it answers some list of no more clips, in memory of its own; nothing that was there is written.
-/
import Derived.Test.YtfcjdempigoiiaaJn
namespace Go.Proofs.Ytfcjdempigoiiaa
open Go.RowKit
set_option linter.unusedVariables false
set_option linter.unusedSimpArgs false

def JX (w : World) (M : List Kl) (k : Nat) (wr : World) (g c : Nat) : Prop := w.heap.size ≤ g ∧ M.length ≤ k ∧ Own wr w.heap.size g M.length c M ∧ Below w.heap.size w wr
theorem jx_last {w X : World} {o : List Kl} {p1 p2 p3 : Int} {k m g cp : Nat} {n : Int} (hm : m = o.length) (hg0 : w.heap.size ≤ g) (hk : m + 1 ≤ k + 1) (hown : Own X w.heap.size g (m + 1) cp (o ++ [(p1, p2, p3)])) (hXw : Below w.heap.size w X) (q : Nat) :
    JX w (o ++ [(p1, p2, n)]) (k + 1) ((X.drewN q).setCell ⟨g, m * 3 + 2, none⟩ (.int .i64 n)) g cp := by
  have h1 : Own (X.drewN q) w.heap.size g (m + 1) cp (o ++ [(p1, p2, p3)]) := hown
  have h2 := own_last h1 n
  subst hm
  have e : (o ++ [(p1, p2, n)]).length = o.length + 1 := by simp
  refine ⟨hg0, by rw [e]; exact hk, ?_, (below_drewN hXw _).setCell hg0 _⟩
  rw [e]
  exact h2

set_option maxHeartbeats 3200000 in
theorem sjoinX_any (a : Option Addr) (cap : Nat) (l : List Kl) (w : World) (hl : l.length ≤ 100000) (hk : Kls w a l) :
    Calls Try.prog 33 #[.slice a l.length cap] w fun e w' => ∃ g c M, e = .returned (.slice (some ⟨g, 0, none⟩) M.length c) ∧ M.length ≤ l.length ∧ w.heap.size ≤ g ∧ Own w' w.heap.size g M.length c M ∧ Below w.heap.size w w' := by
  have hk' := hide hk
  clear hk
  have h0 := hide (show JX w [] 0 (w.alloc (.cells #[] 63)) w.heap.size 0 from ⟨Nat.le_refl _, Nat.le_refl _, own_lit0 w (Nat.le_refl _), (Below.refl _ _).alloc (Nat.le_refl _) _⟩)
  go_enter Try.func33, Try.ntmps33
  go_wp2
  go_loopw [3, 4] (fun s t wr => ∃ (k g c : Nat) (M : List Kl), k ≤ l.length ∧ t = .int .i64 k ∧ s = .slice (some ⟨g, 0, none⟩) M.length c ∧ Hid (JX w M k wr g c)) (fun _ t _ => l.length - (intOf t).toNat)
  case atStart => exact ⟨0, w.heap.size, 0, [], by omega, rfl, rfl, h0⟩
  case round =>
    clear h0
    obtain ⟨k, g, cp, M, hk, rfl, rfl, hJ⟩ := hrel
    by_cases hlt : k < l.length
    · obtain ⟨b, o', s, i, n, rfl, hx, c0, c1, c2⟩ := kls_at (unhide hk') (unhide hJ).2.2.2 hlt
      have hMk := (unhide hJ).2.1
      obtain ⟨X, hX⟩ : ∃ X, X = wr.alloc (.cells #[.int .i64 s, .int .i64 i, .int .i64 n] 63) := ⟨_, rfl⟩
      have d0 : X.cell? ⟨wr.heap.size, 0, none⟩ = some (.int .i64 s) := by rw [hX]; simp [go_sem]
      have d1 : X.cell? ⟨wr.heap.size, 1, none⟩ = some (.int .i64 i) := by rw [hX]; simp [go_sem]
      have d2 : X.cell? ⟨wr.heap.size, 2, none⟩ = some (.int .i64 n) := by rw [hX]; simp [go_sem]
      have hXb : Below wr.heap.size wr X := by rw [hX]; exact (Below.refl _ _).alloc (Nat.le_refl _) _
      have hXs : X.heap.size = wr.heap.size + 1 := by rw [hX]; simp
      have hown := hide (ownsRow_below (unhide hJ).2.2.1 hXb)
      have hXw := hide (laterB (unhide hJ).2.2.2 hXb)
      have hg0 := (unhide hJ).1
      have hglt : g < wr.heap.size := own_lt (unhide hJ).2.2.1
      have hX' := hide hX
      clear hJ hXb hX hx
      rcases List.eq_nil_or_concat M with rfl | ⟨o, p, rfl⟩
      · go_wp2_with fail
        rw [← unhide hX']
        go_quiet (fail)
        go_wp2_with (at_builtin; refine wpList_kN Try.underlying24 (B := w.heap.size) (g := g) (n := 0) (cap := cp) (L := []) rfl _ _ rfl rfl (unhide hown) (hX := by first | exact Below.refl X.heap.size X | exact below_drewN (Below.refl X.heap.size X) _) (by omega) (wr.heap.size + 1) (by first | exact hXs | simp [hXs]) rfl (by omega) (by omega) (by omega) ?_)
        intro g' cap' w' hown' hbel' hg' hlt'
        have hJ' := hide (show JX w [(s, i, n)] (k + 1) w' g' cap' from ⟨hg', by simp, hown', (unhide hXw).trans hbel'⟩)
        have hsl := hide (show ([(s, i, n)] : List Kl).length = 1 by rfl)
        clear hown' hbel' hown hXw
        go_wp2
        go_roundw
        case rel => exact ⟨k + 1, g', cap', [(s, i, n)], by omega, by go_num, by rw [unhide hsl], hJ'⟩
        case measure => simp [intOf]; omega
      · rw [List.concat_eq_append] at hown hMk ⊢
        obtain ⟨p1, p2, p3⟩ := p
        have hlen : (o ++ [((p1, p2, p3) : Kl)]).length = o.length + 1 := by simp
        rw [hlen] at hown hMk ⊢
        have hmk : o.length + 1 ≤ 100000 := by omega
        obtain ⟨x0, x1, x2⟩ := own_cells (last_get o (p1, p2, p3)) (unhide hown)
        have f2 := (unhide hown).frozenAt (o.length * 3 + 2)
        obtain ⟨m, hm⟩ : ∃ m, m = o.length := ⟨_, rfl⟩
        rw [← hm] at hown x0 x1 x2 f2 hmk hMk ⊢
        have hm' := hide hm
        clear hm hlen
        by_cases g1 : p1 = s
        · subst g1
          by_cases g3 : p1 = 0
          · subst g3
            skip
            go_wp2_with fail
            rw [← unhide hX']
            go_quiet (fail)
            go_wp2_with fail
            go_region
            go_wp2
            go_roundw
            case rel => exact ⟨k + 1, g, cp, o ++ [(0, p2, wrap64 (p3 + n))], by omega, by go_num, by rw [List.length_append, List.length_singleton, ← unhide hm'], hide (jx_last (unhide hm') hg0 (by omega) (unhide hown) (unhide hXw) _)⟩
            case measure => simp [intOf]; omega
          · have g3' : (p1 == 0) = false := by simpa using g3
            clear g3
            by_cases g4 : wrap64 (p2 + p3) = i
            · have g5 : (wrap64 (p2 + p3) == i) = true := by simpa using g4
              clear g4
              go_wp2_with fail
              rw [← unhide hX']
              go_quiet (fail)
              go_wp2_with fail
              go_region
              go_wp2
              go_roundw
              case rel => exact ⟨k + 1, g, cp, o ++ [(p1, p2, wrap64 (p3 + n))], by omega, by go_num, by rw [List.length_append, List.length_singleton, ← unhide hm'], hide (jx_last (unhide hm') hg0 (by omega) (unhide hown) (unhide hXw) _)⟩
              case measure => simp [intOf]; omega
            · have g5 : (wrap64 (p2 + p3) == i) = false := by simpa using g4
              clear g4
              go_wp2_with fail
              rw [← unhide hX']
              go_quiet (fail)
              go_wp2_with (at_builtin; refine wpList_kN Try.underlying24 (B := w.heap.size) (g := g) (n := m + 1) (cap := cp) (L := o ++ [(p1, p2, p3)]) rfl _ _ rfl rfl (unhide hown) (hX := by first | exact Below.refl X.heap.size X | exact below_drewN (Below.refl X.heap.size X) _) (by omega) (wr.heap.size + 1) (by first | exact hXs | simp [hXs]) rfl (by omega) (by omega) (by omega) ?_)
              intro g' cap' w' hown' hbel' hg' hlt'
              have hJ' := hide (show JX w (o ++ [(p1, p2, p3), (p1, i, n)]) (k + 1) w' g' cap' from ⟨hg', by have := unhide hm'; simp; omega, by rw [show (o ++ [(p1, p2, p3), (p1, i, n)]).length = m + 1 + 1 by simp [unhide hm']]; first | exact hown' | (rw [List.append_assoc] at hown'; exact hown'), (unhide hXw).trans hbel'⟩)
              have hsl := hide (show (o ++ [(p1, p2, p3), (p1, i, n)]).length = m + 1 + 1 by simp [unhide hm'])
              clear hown' hbel' hown hXw
              go_wp2
              go_roundw
              case rel => exact ⟨k + 1, g', cap', o ++ [(p1, p2, p3), (p1, i, n)], by omega, by go_num, by rw [unhide hsl], hJ'⟩
              case measure => simp [intOf]; omega
        · have g1' : (p1 == s) = false := by simpa using g1
          clear g1
          go_wp2_with fail
          rw [← unhide hX']
          go_quiet (fail)
          go_wp2_with (at_builtin; refine wpList_kN Try.underlying24 (B := w.heap.size) (g := g) (n := m + 1) (cap := cp) (L := o ++ [(p1, p2, p3)]) rfl _ _ rfl rfl (unhide hown) (hX := by first | exact Below.refl X.heap.size X | exact below_drewN (Below.refl X.heap.size X) _) (by omega) (wr.heap.size + 1) (by first | exact hXs | simp [hXs]) rfl (by omega) (by omega) (by omega) ?_)
          intro g' cap' w' hown' hbel' hg' hlt'
          have hJ' := hide (show JX w (o ++ [(p1, p2, p3), (s, i, n)]) (k + 1) w' g' cap' from ⟨hg', by have := unhide hm'; simp; omega, by rw [show (o ++ [(p1, p2, p3), (s, i, n)]).length = m + 1 + 1 by simp [unhide hm']]; first | exact hown' | (rw [List.append_assoc] at hown'; exact hown'), (unhide hXw).trans hbel'⟩)
          have hsl := hide (show (o ++ [(p1, p2, p3), (s, i, n)]).length = m + 1 + 1 by simp [unhide hm'])
          clear hown' hbel' hown hXw
          go_wp2
          go_roundw
          case rel => exact ⟨k + 1, g', cap', o ++ [(p1, p2, p3), (s, i, n)], by omega, by go_num, by rw [unhide hsl], hJ'⟩
          case measure => simp [intOf]; omega
    · go_wp2
      go_ret
      exact ⟨g, cp, M, rfl, by have := (unhide hJ).2.1; omega, (unhide hJ).1, (unhide hJ).2.2.1, (unhide hJ).2.2.2⟩
end Go.Proofs.Ytfcjdempigoiiaa
