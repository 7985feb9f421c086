/-
  The contract of a search by halves in a package; nothing that was there is written.
-/
import Derived.Test.YtcgdcabmjihijaaUp2
namespace Go.Proofs.Ytcgdcabmjihijaa
open Go.RowKit
set_option linter.unusedVariables false
set_option linter.unusedSimpArgs false

set_option maxRecDepth 100000 in
set_option maxHeartbeats 3200000 in
theorem bs_any (a : Option Addr) (cap : Nat) (l : List Kl) (s : ByteArray) (p q : Int) (w : World) (hl : l.length ≤ 100) (hp : pOk l = true) (hk : Kls w a l) :
    Calls Try.prog 14 #[.slice a l.length cap, ag3 s p q, .func (.func 15) #[] #[]] w fun e w' => ∃ r : Int, e = .returned (.tuple #[.int .i64 r, .bool (hasN l s)]) ∧ Below w.heap.size w w' := by
  have hb0 : Below w.heap.size w (w.alloc (.cells #[.string s, .int .i64 p, .int .i64 q] 35)) := (Below.refl _ _).alloc (Nat.le_refl _) _
  have hk' := hide (hk.below hb0)
  have hb0' := hide hb0
  have hp' := hide hp
  obtain ⟨x0, x1, x2⟩ := @cel3 w (.string s) (.int .i64 p) (.int .i64 q) 35
  clear hk hb0 hp
  go_enter Try.func14, Try.ntmps14
  go_wp2
  generalize w.alloc (.cells #[.string s, .int .i64 p, .int .i64 q] 35) = X at *
  go_loopw [9, 10] (fun t u wr => ∃ i j : Nat, i ≤ j ∧ j ≤ l.length ∧ t = .int .i64 i ∧ u = .int .i64 j ∧ Hid (∀ (m : Nat) (y : Kl), m < i → l[m]? = some y → bef y.1 s = true) ∧ Hid (∀ (m : Nat) (y : Kl), j ≤ m → l[m]? = some y → bef y.1 s = false) ∧ Hid (Below X.heap.size X wr)) (fun t u _ => ((intOf u) - (intOf t)).toNat)
  case atStart => exact ⟨0, l.length, by omega, by omega, rfl, rfl, hide (fun m y h => by omega), hide (fun m y h hy => by have := (List.getElem?_eq_some_iff.1 hy).1; omega), hide (Below.refl _ _)⟩
  case round =>
    obtain ⟨i, j, hij, hj, rfl, rfl, h1, h2, hB⟩ := hrel
    by_cases hlt : i < j
    · obtain ⟨m, hm⟩ : ∃ m : Nat, ((i : Int) + j) / 2 = m ∧ i ≤ m ∧ m < j := ⟨(i + j) / 2, by omega, by omega, by omega⟩
      obtain ⟨hm, hm1, hm2⟩ := hm
      obtain ⟨y, hy⟩ : ∃ y, l[m]? = some y := ⟨l[m], List.getElem?_eq_getElem (by omega)⟩
      obtain ⟨b, o, rfl, i1, c0, c1, c2⟩ := unhide hk' m y hy
      obtain ⟨sy, py, qy⟩ := y
      simp only at c0 c1 c2
      have C := fun o => (bcell (unhide hB)).1 b o i1
      rw [← C] at c0 c1 c2
      have z0 := cell_later (unhide hB) x0
      have z1 := cell_later (unhide hB) x1
      have z2 := cell_later (unhide hB) x2
      have hml : m < l.length := by omega
      have hmI : (m : Int) < l.length := by omega
      have hm0 : (0 : Int) ≤ m := by omega
      have g1 : decide ((i : Int) < j) = true := by simp; omega
      have g1n : decide (i < j) = true := by simp; omega
      have hyy := hide hy
      have hcon := hide (fun w => bnm_any sy s py qy p q w)
      have hall := hide (show wr.cell? ⟨b, o + m * 3, none⟩ = some (.string sy) ∧ wr.cell? ⟨b, o + m * 3 + 1, none⟩ = some (.int .i64 py) ∧ wr.cell? ⟨b, o + m * 3 + 2, none⟩ = some (.int .i64 qy) ∧ wr.cell? ⟨w.heap.size, 0, none⟩ = some (.string s) ∧ wr.cell? ⟨w.heap.size, 1, none⟩ = some (.int .i64 p) ∧ wr.cell? ⟨w.heap.size, 2, none⟩ = some (.int .i64 q) ∧ Below X.heap.size X wr from ⟨c0, c1, c2, z0, z1, z2, unhide hB⟩)
      obtain ⟨v, hv⟩ : ∃ v, bef sy s = v := ⟨_, rfl⟩
      have hv' := hide hv
      clear hy C hv
      cases v with
      | true =>
        rw [cmp_lt (unhide hv')] at hcon
        have hn := hide (show ∀ (k : Nat) (y : Kl), k < m + 1 → l[k]? = some y → bef y.1 s = true from fun k y hk hy => by
          rcases Nat.lt_or_ge k m with h | h
          · exact bef_trans (rise (unhide hp') h hy (unhide hyy)) (unhide hv')
          · have : k = m := by omega
            subst this
            rw [unhide hyy] at hy; injection hy with hy; subst hy; exact unhide hv')
        clear h1
        go_wp2_with fail
        go_region_held3 (fun w' => w'.cell? ⟨b, o + m * 3, none⟩ = some (.string sy) ∧ w'.cell? ⟨b, o + m * 3 + 1, none⟩ = some (.int .i64 py) ∧ w'.cell? ⟨b, o + m * 3 + 2, none⟩ = some (.int .i64 qy) ∧ w'.cell? ⟨w.heap.size, 0, none⟩ = some (.string s) ∧ w'.cell? ⟨w.heap.size, 1, none⟩ = some (.int .i64 p) ∧ w'.cell? ⟨w.heap.size, 2, none⟩ = some (.int .i64 q) ∧ Below X.heap.size X w')
          (first | (refine keepN ?_ hb; assumption) | (exact keepNd (unhide hall)))
          ((go_at_call 15; refine (unhide hcon _).mono ?_; rintro e w1 ⟨rfl, hb⟩))
        rename_i hH
        have hB2 := hide hH.2.2.2.2.2.2
        clear hH
        go_wp2
        go_roundw
        case rel => exact ⟨m + 1, j, by omega, by omega, by go_num, rfl, hn, h2, hB2⟩
        case measure => simp [intOf]; omega
      | false =>
        have hge : 0 ≤ cmpV sy s := by unfold cmpV; rw [unhide hv']; simp; split <;> omega
        have g2 : decide (cmpV sy s < 0) = false := by simp; omega
        have hn := hide (show ∀ (k : Nat) (y : Kl), m ≤ k → l[k]? = some y → bef y.1 s = false from fun k y hk hy => by
          rcases Nat.lt_or_ge m k with h | h
          · cases hz : bef y.1 s with
            | false => rfl
            | true =>
              have := bef_trans (rise (unhide hp') h (unhide hyy) hy) hz
              rw [unhide hv'] at this; cases this
          · have : k = m := by omega
            subst this
            rw [unhide hyy] at hy; injection hy with hy; subst hy; exact unhide hv')
        clear h2 hge
        generalize cmpV sy s = cv at *
        go_wp2_with fail
        go_region_held3 (fun w' => w'.cell? ⟨b, o + m * 3, none⟩ = some (.string sy) ∧ w'.cell? ⟨b, o + m * 3 + 1, none⟩ = some (.int .i64 py) ∧ w'.cell? ⟨b, o + m * 3 + 2, none⟩ = some (.int .i64 qy) ∧ w'.cell? ⟨w.heap.size, 0, none⟩ = some (.string s) ∧ w'.cell? ⟨w.heap.size, 1, none⟩ = some (.int .i64 p) ∧ w'.cell? ⟨w.heap.size, 2, none⟩ = some (.int .i64 q) ∧ Below X.heap.size X w')
          (first | (refine keepN ?_ hb; assumption) | (exact keepNd (unhide hall)))
          ((go_at_call 15; refine (unhide hcon _).mono ?_; rintro e w1 ⟨rfl, hb⟩))
        rename_i hH
        have hB2 := hide hH.2.2.2.2.2.2
        clear hH
        go_wp2
        go_roundw
        case rel => exact ⟨i, m, by omega, by omega, rfl, by go_num, h1, hn, hB2⟩
        case measure => simp [intOf]; omega
    · have hije : i = j := by omega
      subst hije
      have g1 : decide ((i : Int) < i) = false := by simp
      obtain ⟨f1, f2⟩ := bs_found (unhide hp') (unhide h1) (unhide h2)
      by_cases hil : i < l.length
      · obtain ⟨y, hy⟩ : ∃ y, l[i]? = some y := ⟨l[i], List.getElem?_eq_getElem hil⟩
        have hfn := hide (f1 hil y hy)
        obtain ⟨b, o, rfl, i1, c0, c1, c2⟩ := unhide hk' i y hy
        have hge := unhide h2 i y (Nat.le_refl _) hy
        obtain ⟨sy, py, qy⟩ := y
        simp only at c0 c1 c2 hge hfn
        have C := fun o => (bcell (unhide hB)).1 b o i1
        rw [← C] at c0 c1 c2
        have z0 := cell_later (unhide hB) x0
        have z1 := cell_later (unhide hB) x1
        have z2 := cell_later (unhide hB) x2
        have g3 : decide ((i : Int) < l.length) = true := by simp; omega
        have g3n : decide (i < l.length) = true := by simp; omega
        have hcon := hide (fun w => bnm_any sy s py qy p q w)
        have hcv := hide (show (cmpV sy s == 0) = hasN l s by
          rw [unhide hfn]
          have ht := bef_le sy s
          have hb1 : Op.bytesLess sy.toList s.toList = false := hge
          rw [hb1] at ht
          unfold cmpV
          rw [hge]
          cases hz : bef s sy <;> (rw [hz] at ht; simp at ht; simp [ht]))
        clear f1 f2 hy C h1 h2 hfn
        have hall := hide (show wr.cell? ⟨b, o + i * 3, none⟩ = some (.string sy) ∧ wr.cell? ⟨b, o + i * 3 + 1, none⟩ = some (.int .i64 py) ∧ wr.cell? ⟨b, o + i * 3 + 2, none⟩ = some (.int .i64 qy) ∧ wr.cell? ⟨w.heap.size, 0, none⟩ = some (.string s) ∧ wr.cell? ⟨w.heap.size, 1, none⟩ = some (.int .i64 p) ∧ wr.cell? ⟨w.heap.size, 2, none⟩ = some (.int .i64 q) ∧ Below X.heap.size X wr from ⟨c0, c1, c2, z0, z1, z2, unhide hB⟩)
        have hm0 : (0 : Int) ≤ i := by omega
        generalize cmpV sy s = cv at *
        go_wp2_with fail
        go_region_held3 (fun w' => w'.cell? ⟨b, o + i * 3, none⟩ = some (.string sy) ∧ w'.cell? ⟨b, o + i * 3 + 1, none⟩ = some (.int .i64 py) ∧ w'.cell? ⟨b, o + i * 3 + 2, none⟩ = some (.int .i64 qy) ∧ w'.cell? ⟨w.heap.size, 0, none⟩ = some (.string s) ∧ w'.cell? ⟨w.heap.size, 1, none⟩ = some (.int .i64 p) ∧ w'.cell? ⟨w.heap.size, 2, none⟩ = some (.int .i64 q) ∧ Below X.heap.size X w')
          (first | (refine keepN ?_ hb; assumption) | (exact keepNd (unhide hall)))
          ((go_at_call 15; refine (unhide hcon _).mono ?_; rintro e w1 ⟨rfl, hb⟩))
        rename_i hH
        have hB2 := hide hH.2.2.2.2.2.2
        clear hH
        go_wp2
        go_ret2
        exact ⟨(i : Int), by rw [unhide hcv]; rfl, laterB (unhide hb0') (unhide hB2)⟩
      · have g3 : decide ((i : Int) < l.length) = false := by simp; omega
        have g3n : decide (i < l.length) = false := by simp; omega
        have hfn := hide (f2 hil)
        clear f1 f2 h1 h2
        go_wp2_with fail
        go_quiet (fail)
        go_wp2
        go_ret2
        exact ⟨(i : Int), by rw [unhide hfn]; rfl, laterB (unhide hb0') (below_drewN (unhide hB) _)⟩

end Go.Proofs.Ytcgdcabmjihijaa
