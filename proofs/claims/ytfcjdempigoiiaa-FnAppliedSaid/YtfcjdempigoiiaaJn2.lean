/-
  The program's joining; the answer is new memory, nothing that was there is written.
-/
import Derived.Test.YtfcjdempigoiiaaJn
namespace Go.Proofs.Ytfcjdempigoiiaa
open Go.RowKit
set_option linter.unusedVariables false
set_option linter.unusedSimpArgs false

set_option maxHeartbeats 3200000 in
theorem ijoin_any (a : Option Addr) (cap : Nat) (l : List Kl) (w : World) (hl : l.length ≤ 100000) (hA : AOk l) (hk : Kls w a l) :
    Calls Try.prog 41 #[.slice a l.length cap] w fun e w' => ∃ g c, e = .returned (.slice (some ⟨g, 0, none⟩) (join l).length c) ∧ w.heap.size ≤ g ∧ Own w' w.heap.size g (join l).length c (join l) ∧ Below w.heap.size w w' := by
  have hk' := hide hk
  have hA' := hide hA
  clear hk hA
  have h0 := hide (show JR w l 0 (w.alloc (.cells #[] 63)) w.heap.size 0 from ⟨Nat.le_refl _, own_lit0 w (Nat.le_refl _), (Below.refl _ _).alloc (Nat.le_refl _) _⟩)
  go_enter Try.func41, Try.ntmps41
  go_wp2
  go_loopw [3, 10] (fun s t wr => ∃ k g c : Nat, k ≤ l.length ∧ t = .int .i64 k ∧ s = .slice (some ⟨g, 0, none⟩) (join (l.take k)).length c ∧ Hid (JR w l k wr g c)) (fun _ t _ => l.length - (intOf t).toNat)
  case atStart => exact ⟨0, w.heap.size, 0, by omega, rfl, rfl, h0⟩
  case round =>
    clear h0
    obtain ⟨k, g, cp, hk, rfl, rfl, hJ⟩ := hrel
    by_cases hlt : k < l.length
    · obtain ⟨b, o', s, i, n, rfl, hx, c0, c1, c2⟩ := kls_at (unhide hk') (unhide hJ).2.2 hlt
      have hcA := (unhide hA') _ (List.mem_of_getElem? hx)
      have hjt := hide (join_take hx)
      have hx' := hide hx
      clear hx
      obtain ⟨X, hX⟩ : ∃ X, X = wr.alloc (.cells #[.int .i64 s, .int .i64 i, .int .i64 n] 63) := ⟨_, rfl⟩
      have d0 : X.cell? ⟨wr.heap.size, 0, none⟩ = some (.int .i64 s) := by rw [hX]; simp [go_sem]
      have d1 : X.cell? ⟨wr.heap.size, 1, none⟩ = some (.int .i64 i) := by rw [hX]; simp [go_sem]
      have d2 : X.cell? ⟨wr.heap.size, 2, none⟩ = some (.int .i64 n) := by rw [hX]; simp [go_sem]
      have hXb : Below wr.heap.size wr X := by rw [hX]; exact (Below.refl _ _).alloc (Nat.le_refl _) _
      have hXs : X.heap.size = wr.heap.size + 1 := by rw [hX]; simp
      have hown := hide (ownsRow_below (unhide hJ).2.1 hXb)
      have hXw := hide (laterB (unhide hJ).2.2 hXb)
      have hg0 := (unhide hJ).1
      have hglt : g < wr.heap.size := own_lt (unhide hJ).2.1
      have hX' := hide hX
      clear hJ hXb hX
      rcases List.eq_nil_or_concat (join (l.take k)) with he | ⟨o, p, he⟩
      · rw [he] at hown hjt ⊢
        rw [jstep_nil] at hjt
        go_wp2_with fail
        rw [← unhide hX']
        go_quiet (fail)
        go_wp2_with (at_builtin; refine wpList_kN Try.underlying47 (B := w.heap.size) (g := g) (n := 0) (cap := cp) (L := []) rfl _ _ rfl rfl (unhide hown) (hX := by first | exact Below.refl X.heap.size X | exact below_drewN (Below.refl X.heap.size X) _) (by omega) (wr.heap.size + 1) (by first | exact hXs | simp [hXs]) rfl (by omega) (by omega) (by omega) ?_)
        intro g' cap' w' hown' hbel' hg' hlt'
        have hJ' := hide (show JR w l (k + 1) w' g' cap' from ⟨hg', by rw [unhide hjt]; exact hown', (unhide hXw).trans hbel'⟩)
        have hsl := hide (show (join (l.take (k + 1))).length = 1 by rw [unhide hjt]; rfl)
        clear hown' hbel' hown hXw
        go_wp2
        go_roundw
        case rel => exact ⟨k + 1, g', cap', by omega, by go_num, by rw [unhide hsl], hJ'⟩
        case measure => simp [intOf]; omega
      · rw [List.concat_eq_append] at he
        obtain ⟨q1, q2, q3, q4⟩ := bd_last (unhide hA') hk he
        obtain ⟨p1, p2, p3⟩ := p
        have hlen : (join (l.take k)).length = o.length + 1 := by rw [he]; simp
        have hmk : o.length + 1 ≤ 100000 := by have := len_join (l.take k); rw [List.length_take] at this; omega
        rw [hlen] at hown ⊢
        rw [he] at hown hjt
        rw [jstep_snoc] at hjt
        obtain ⟨x0, x1, x2⟩ := own_cells (last_get o (p1, p2, p3)) (unhide hown)
        have f2 := (unhide hown).frozenAt (o.length * 3 + 2)
        obtain ⟨m, hm⟩ : ∃ m, m = o.length := ⟨_, rfl⟩
        rw [← hm] at hown x0 x1 x2 f2 hmk ⊢
        have hm' := hide hm
        clear hm hlen he
        have hall : Hid (X.cell? ⟨g, m * 3, none⟩ = some (.int .i64 p1) ∧ X.cell? ⟨g, m * 3 + 1, none⟩ = some (.int .i64 p2) ∧ X.cell? ⟨g, m * 3 + 2, none⟩ = some (.int .i64 p3) ∧ X.cell? ⟨wr.heap.size, 0, none⟩ = some (.int .i64 s) ∧ X.cell? ⟨wr.heap.size, 1, none⟩ = some (.int .i64 i) ∧ X.cell? ⟨wr.heap.size, 2, none⟩ = some (.int .i64 n) ∧ Below X.heap.size X X) := hide ⟨x0, x1, x2, d0, d1, d2, Below.refl _ _⟩
        have n0 := hcA.1
        have n1 := hcA.2.1
        simp only at n0 n1 q1 q2 q3 q4
        have hm1 : (0 : Int) ≤ (m : Int) := by omega
        have hm2 : (m : Int) < (m : Int) + 1 := by omega
        have hm3 : (m : Int) < ((m + 1 : Nat) : Int) := by omega
        by_cases hgo : goes (p1, p2, p3) (s, i, n)
        · rw [if_pos hgo] at hjt
          have hsl := hide (show (join (l.take (k + 1))).length = m + 1 by rw [unhide hjt]; simp [unhide hm'])
          have hv := hide (decide_eq_true hgo)
          clear hgo
          go_wp2_with fail
          rw [← unhide hX']
          go_region_held3 (fun w' => w'.cell? ⟨g, m * 3, none⟩ = some (.int .i64 p1) ∧ w'.cell? ⟨g, m * 3 + 1, none⟩ = some (.int .i64 p2) ∧ w'.cell? ⟨g, m * 3 + 2, none⟩ = some (.int .i64 p3) ∧ w'.cell? ⟨wr.heap.size, 0, none⟩ = some (.int .i64 s) ∧ w'.cell? ⟨wr.heap.size, 1, none⟩ = some (.int .i64 i) ∧ w'.cell? ⟨wr.heap.size, 2, none⟩ = some (.int .i64 n) ∧ Below X.heap.size X w')
            (first | (refine keep6 ?_ hb; assumption) | (exact keep6d (unhide hall)))
            ((go_at_call 62; refine (goes_any p1 p2 p3 s i n true _ ⟨q1, q2⟩ ⟨q3, by omega⟩ (unhide hv)).mono ?_; rintro e w1 ⟨rfl, hb⟩))
          rename_i hH
          obtain ⟨y0, y1, y2, y3, y4, y5, yb⟩ := hH
          have oY := hide (ownsRow_below (unhide hown) yb)
          have yw := hide (laterB (unhide hXw) yb)
          have hgY : g < w1.heap.size := by have := yb.size; omega
          have fY : w1.frozen? ⟨g, m * 3 + 2, none⟩ = false := (unhide oY).frozenAt (m * 3 + 2)
          have hsY := yb.size
          clear hown hXw yb x0 x1 x2 f2 d0 d1 d2
          go_wp2_with fail
          go_region
          go_wp2
          go_roundw
          case rel => exact ⟨k + 1, g, cp, by omega, by go_num, by rw [unhide hsl], hide (jr_last (unhide hjt) (unhide hm') hg0 (unhide oY) (unhide yw) _)⟩
          case measure => simp [intOf]; omega
        · rw [if_neg hgo] at hjt
          have hv := hide (decide_eq_false hgo)
          clear hgo
          go_wp2_with fail
          rw [← unhide hX']
          go_region_held3 (fun w' => w'.cell? ⟨g, m * 3, none⟩ = some (.int .i64 p1) ∧ w'.cell? ⟨g, m * 3 + 1, none⟩ = some (.int .i64 p2) ∧ w'.cell? ⟨g, m * 3 + 2, none⟩ = some (.int .i64 p3) ∧ w'.cell? ⟨wr.heap.size, 0, none⟩ = some (.int .i64 s) ∧ w'.cell? ⟨wr.heap.size, 1, none⟩ = some (.int .i64 i) ∧ w'.cell? ⟨wr.heap.size, 2, none⟩ = some (.int .i64 n) ∧ Below X.heap.size X w')
            (first | (refine keep6 ?_ hb; assumption) | (exact keep6d (unhide hall)))
            ((go_at_call 62; refine (goes_any p1 p2 p3 s i n false _ ⟨q1, q2⟩ ⟨q3, by omega⟩ (unhide hv)).mono ?_; rintro e w1 ⟨rfl, hb⟩))
          rename_i hH
          obtain ⟨y0, y1, y2, y3, y4, y5, yb⟩ := hH
          have oY := hide (ownsRow_below (unhide hown) yb)
          have yw := hide (laterB (unhide hXw) yb)
          have hgY : g < w1.heap.size := by have := yb.size; omega
          have fY : w1.frozen? ⟨g, m * 3 + 2, none⟩ = false := (unhide oY).frozenAt (m * 3 + 2)
          have hsY := yb.size
          clear hown hXw yb x0 x1 x2 f2 d0 d1 d2
          go_wp2_with (at_builtin; refine wpList_kN Try.underlying47 (B := w.heap.size) (g := g) (n := m + 1) (cap := cp) (L := o ++ [(p1, p2, p3)]) rfl _ _ rfl rfl (unhide oY) (hX := by first | exact Below.refl w1.heap.size w1 | exact below_drewN (Below.refl w1.heap.size w1) _) hgY w1.heap.size (by first | rfl | simp) rfl (by omega) (by omega) (by omega) ?_)
          intro g' cap' w' hown' hbel' hg' hlt'
          have hJ' := hide (show JR w l (k + 1) w' g' cap' from jr_app (unhide hjt) (unhide hm') hg' (by first | exact hown' | (rw [List.append_assoc] at hown'; exact hown')) ((unhide yw).trans hbel'))
          have hsl := hide (show (join (l.take (k + 1))).length = m + 1 + 1 by rw [unhide hjt]; simp [unhide hm'])
          clear hown' hbel' oY yw
          go_wp2
          go_roundw
          case rel => exact ⟨k + 1, g', cap', by omega, by go_num, by rw [unhide hsl], hJ'⟩
          case measure => simp [intOf]; omega
    · have hke : k = l.length := by omega
      have hlj := hide (show join (l.take k) = join l by rw [hke, List.take_length])
      rw [unhide hlj]
      have hJ2 : Hid (w.heap.size ≤ g ∧ Own wr w.heap.size g (join l).length cp (join l) ∧ Below w.heap.size w wr) := hide (by have := unhide hJ; unfold JR at this; rw [unhide hlj] at this; exact this)
      clear hJ
      go_wp2
      go_ret
      exact ⟨g, cp, rfl, (unhide hJ2).1, (unhide hJ2).2.1, (unhide hJ2).2.2⟩
end Go.Proofs.Ytfcjdempigoiiaa
