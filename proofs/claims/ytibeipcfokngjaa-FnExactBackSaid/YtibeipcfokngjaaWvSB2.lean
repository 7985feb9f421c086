/-
  Contract of the model's sums, there and back: a new list of them; nothing that was there is written.
-/
import Derived.Test.YtibeipcfokngjaaWvP
import Derived.Outline
import Derived.Deep.CutRange
import Derived.Deep.CutBlock
namespace Go.Proofs.Ytibeipcfokngjaa
open Go.RowKit
set_option linter.unusedVariables false
set_option linter.unusedSimpArgs false

set_option maxHeartbeats 3200000 in
theorem ssumB2 (a : Option Addr) (ca : Nat) (l : List (Nat × Nat)) (w : World) (hl : l.length = 2) (ha : Cxs false 0 w.heap.size w a l) :
    Calls Try.prog 42 #[.slice a l.length ca, .bool true] w fun e w' => ∃ g cap L, e = .returned (.slice (some ⟨g, 0, none⟩) L.length cap) ∧ w.heap.size ≤ g ∧ w'.ownsRow w.heap.size 25 2 (.slice (some ⟨g, 0, none⟩) L.length cap) L.length (flC L) ∧ WvL true l l.length L ∧ Below w.heap.size w w' := by
  have ha' := hide ha
  clear ha
  have hn1 : 1 ≤ l.length := by omega
  have hn2 : l.length ≤ 8 := by omega
  have m1 : ((l.length : Int) != 1) = true := by simp; omega
  have m2 : ((l.length : Int) != 2) = false := by simp; omega
  have hq : (8 : Int) / l.length = 4 := by rw [hl]; rfl
  have hl' := hide hl
  clear hl
  have hown0 := hide (World.ownsRow_lit (base := w.heap.size) (e := 25) (size := 2) w #[] 0 (Nat.le_refl _) (by unfold maxLen; omega) rfl)
  go_enter Try.func42, Try.ntmps42
  go_wp2
  go_loopw [5, 7] (fun s t wr => ∃ (j g cap : Nat) (L : List (Nat × Nat)), j ≤ l.length ∧ t = .int .i64 j ∧ s = .slice (some ⟨g, 0, none⟩) j cap ∧ w.heap.size ≤ g ∧ g < wr.heap.size ∧ Hid (wr.ownsRow w.heap.size 25 2 (.slice (some ⟨g, 0, none⟩) j cap) j (flC L)) ∧ Hid (WvL true l j L) ∧ Hid (Below w.heap.size w wr)) (fun _ t _ => l.length - (intOf t).toNat)
  case atStart => exact ⟨0, w.heap.size, 0, [], by omega, rfl, rfl, by omega, by simp, hown0, hide (WvL.nil _ l), hide ((Below.refl _ _).alloc (Nat.le_refl _) _)⟩
  case round =>
    clear hown0
    obtain ⟨j, g, cap, L, hj, rfl, rfl, hg, hgs, hown, hwv, hw⟩ := hrel
    obtain ⟨wo, rfl⟩ : ∃ x, x = wr := ⟨wr, rfl⟩
    by_cases hlt : j < l.length
    · have hlt2 : (j : Int) < l.length := by omega
      go_wp2
      go_loopw [9] (fun t wr => ∃ (k : Nat) (s : Nat × Nat), k ≤ l.length ∧ t = .int .i64 k ∧ wo.heap.size < wr.heap.size ∧ wr.cell? ⟨wo.heap.size, 0, none⟩ = some (.float .f64 s.1) ∧ wr.cell? ⟨wo.heap.size, 1, none⟩ = some (.float .f64 s.2) ∧ wr.frozen? ⟨wo.heap.size, 0, none⟩ = false ∧ wr.frozen? ⟨wo.heap.size, 1, none⟩ = false ∧ Hid (Pk l (fS true l.length j) k s) ∧ Hid (Below wo.heap.size wo wr)) (fun t _ => l.length - (intOf t).toNat)
      case atStart =>
        refine ⟨0, (0, 0), by omega, rfl, by simp, by simp [go_sem], by simp [go_sem], by simp [go_sem], by simp [go_sem], hide rfl, hide ?_⟩
        repeat first | exact Below.refl _ _ | refine Below.setCell ?_ (by simp <;> omega) _ | refine Below.alloc ?_ (by simp <;> omega) _ | refine below_drewN ?_ _
      case round =>
        obtain ⟨k, s, hk, rfl, hsz, c0, c1, f0, f1, hpk, hwi⟩ := hrel
        by_cases hkl : k < l.length
        · have hkl2 : (k : Int) < l.length := by omega
          obtain ⟨x, hx⟩ : ∃ x, l[k]? = some x := ⟨l[k], List.getElem?_eq_getElem hkl⟩
          obtain ⟨x1, x2⟩ := x
          obtain ⟨b1, o1, rfl, _, i1, d0, d1, _⟩ := unhide ha' k _ hx
          have hB := hide ((unhide hw).trans ((unhide hwi).mono (unhide hw).size))
          have D0 : wr.cell? ⟨b1, o1 + k * 2, none⟩ = some (.float .f64 x1) := by rw [(bcell (unhide hB)).1 _ _ i1]; exact d0
          have D1 : wr.cell? ⟨b1, o1 + k * 2 + 1, none⟩ = some (.float .f64 x2) := by rw [(bcell (unhide hB)).1 _ _ i1]; exact d1
          have hb1 : b1 < wr.heap.size := Nat.lt_of_lt_of_le i1 (unhide hB).size
          clear d0 d1
          have p0 : (0 : Int) ≤ 4 * (j : Int) * (k : Int) := by exact Int.mul_nonneg (by omega) (by omega)
          have p1 : 4 * (j : Int) * (k : Int) ≤ 512 := Int.le_trans (Int.mul_le_mul (show 4 * (j : Int) ≤ 64 by omega) (show (k : Int) ≤ 8 by omega) (by omega) (by omega)) (by decide)
          have hf8 : fS true l.length j k < 8 := fS_lt _ _ _ _
          have hfe : (8 - 4 * (j : Int) * (k : Int) % 8) % 8 = ((fS true l.length j k : Nat) : Int) := by
            have e8 : 8 / l.length = 4 := by rw [unhide hl']
            have ec : ((4 * j * k : Nat) : Int) = 4 * (j : Int) * (k : Int) := by rw [Int.natCast_mul, Int.natCast_mul]; rfl
            unfold fS
            rw [e8]
            simp only [if_true, if_false, Bool.false_eq_true]
            omega
          have hstep : Hid (∀ re im u v, CPr x1 x2 (rt (fS true l.length j k)).1 (rt (fS true l.length j k)).2 re im → Res .add s.1 re u → Res .add s.2 im v → Pk l (fS true l.length j) (k + 1) (u, v)) := hide fun re im u v h1 h2 h3 => ⟨s, (x1, x2), (re, im), unhide hpk, hx, h1, h2, h3⟩
          generalize fS true l.length j k = f at *
          clear hx hpk
          go_upto_region 15 with fail
          go_cut [10, 11] from 36 to 69 (fun q p wx => ∃ A re im, p = .pointer (some ⟨A, 0, none⟩) ∧ wr.heap.size ≤ A ∧ wx.cell? ⟨A, 0, none⟩ = some (.float .f64 re) ∧ wx.cell? ⟨A, 1, none⟩ = some (.float .f64 im) ∧ Hid (CPr x1 x2 (rt f).1 (rt f).2 re im) ∧ Hid (Below wr.heap.size wr wx))
          case first =>
            go_region_held3 (fun w' => w'.cell? ⟨b1, o1 + k * 2, none⟩ = some (.float .f64 x1) ∧ w'.cell? ⟨b1, o1 + k * 2 + 1, none⟩ = some (.float .f64 x2) ∧ Below wr.heap.size wr w')
              (first | (refine keep2 ?_ hb; assumption) | (refine keepA ?_; assumption) | (refine keepI ?_ ?_ <;> assumption) | (refine keepAD ?_ ?_ <;> assumption) | (refine @keepB _ _ _ _ _ _ _ (Obj.cells #[Value.float FloatKind.f64 0, Value.float FloatKind.f64 0] 25) _ ?_ (by omega) hb1; assumption) | (refine keepSt ?_ (by first | exact Nat.le_refl _ | omega) hb1; assumption))
              (first | (go_at_call 47; refine (sroot_any f hf8 _).mono ?_; rintro e w1 ⟨rfl, hb⟩; have hz := hb.size; (try simp at hz); (try (refine (have y0 : w1.cell? ⟨wr.heap.size, 0, none⟩ = some (.float .f64 0) ∧ w1.frozen? ⟨wr.heap.size, 0, none⟩ = false := ?pf; ?_); (case pf => refine cf_later hb ?_; first | (constructor <;> assumption) | (constructor <;> (simp [go_sem]; done))); obtain ⟨y0, z0⟩ := y0)); (try (refine (have y1 : w1.cell? ⟨wr.heap.size, 1, none⟩ = some (.float .f64 0) ∧ w1.frozen? ⟨wr.heap.size, 1, none⟩ = false := ?pf; ?_); (case pf => refine cf_later hb ?_; first | (constructor <;> assumption) | (constructor <;> (simp [go_sem]; done))); obtain ⟨y1, z1⟩ := y1)); (try (obtain ⟨y0, z0, y1, z1⟩ := alloc_later hb (by simp)))) | (go_at_call 36; refine (lprod_any _ _ _ _ _).mono ?_; rintro e w1 ⟨re, im, rfl, hc, hb⟩; have hc := hide hc; have hz := hb.size; (try simp at hz); (try (refine (have y0 : w1.cell? ⟨wr.heap.size, 0, none⟩ = some (.float .f64 0) ∧ w1.frozen? ⟨wr.heap.size, 0, none⟩ = false := ?pf; ?_); (case pf => refine cf_later hb ?_; first | (constructor <;> assumption) | (constructor <;> (simp [go_sem]; done))); obtain ⟨y0, z0⟩ := y0)); (try (refine (have y1 : w1.cell? ⟨wr.heap.size, 1, none⟩ = some (.float .f64 0) ∧ w1.frozen? ⟨wr.heap.size, 1, none⟩ = false := ?pf; ?_); (case pf => refine cf_later hb ?_; first | (constructor <;> assumption) | (constructor <;> (simp [go_sem]; done))); obtain ⟨y1, z1⟩ := y1)); (try (obtain ⟨y0, z0, y1, z1⟩ := alloc_later hb (by simp)))))
            all_goals
              rename_i hH
              have hH' := hide hH.2.2
              clear hH
              go_wp2
              go_meet
              first | exact ⟨_, _, _, rfl, by first | exact Nat.le_refl _ | omega, by simp [go_sem, *], by simp [go_sem, *], hc, hH'⟩
          case rest =>
            obtain ⟨A, re, im, h11, hA, e0, e1, hc, hbe⟩ := hcut
            subst h11
            have C0 := ((bcell (unhide hbe)).1 wo.heap.size 0 hsz).trans c0
            have C1 := ((bcell (unhide hbe)).1 wo.heap.size 1 hsz).trans c1
            have F0 := ((bcell (unhide hbe)).2 wo.heap.size 0 hsz).trans f0
            have F1 := ((bcell (unhide hbe)).2 wo.heap.size 1 hsz).trans f1
            have hsz2 := (unhide hbe).size
            have hB2 := hide ((unhide hwi).trans ((unhide hbe).mono (unhide hwi).size))
            clear c0 c1 f0 f1 D0 D1 hfe p0 p1
            go_wp2
            go_roundw
            case rel =>
              refine ⟨k + 1, (fv .add s.1 re wc, fv .add s.2 im (wc.drewN (fd .add s.1 re))), by omega, by go_num, by simp; omega, by simp [go_sem, C0, C1, F0, F1], by simp [go_sem, C0, C1, F0, F1], by simp [go_sem, F0], by simp [go_sem, F1], hide (unhide hstep _ _ _ _ (unhide hc) (fv_res _ _ _ _) (fv_res _ _ _ _)), hide ?_⟩
              exact ((below_drewN (unhide hB2) _).setCell (Nat.le_refl _) _).setCell (Nat.le_refl _) _
            case measure => simp [intOf]; omega
        · have hke : k = l.length := by omega
          have hkl2 : ¬ (k : Int) < l.length := by omega
          have hpk' : Hid (Pk l (fS true l.length j) l.length s) := hide (by have := unhide hpk; rw [hke] at this; exact this)
          have hown1 := hide (own_blk (unhide hown) (unhide hwi) hgs)
          have hB := hide ((unhide hw).trans ((unhide hwi).mono (unhide hw).size))
          have hz := (unhide hw).size
          clear hpk hke
          have hfin : Hid (∀ v1 v2, Res .quo s.1 (floatOfInt .f64 l.length) v1 → Res .quo s.2 (floatOfInt .f64 l.length) v2 → WvL true l (j + 1) (L ++ [(v1, v2)])) := hide fun v1 v2 h1 h2 => (unhide hwv).snoc ⟨s, unhide hpk', by simp; exact ⟨h1, h2⟩⟩
          clear hpk'
          go_wp2_with (at_builtin; refine wpList_cxN (B := w.heap.size) (g := g) (n := j) (cap := cap) (L := L) rfl _ _ rfl rfl (unhide hown1) (hX := by first | exact Below.refl wo.heap.size _ | exact ((below_drewN (Below.refl wo.heap.size _) _).setCell (Nat.le_refl _) _).setCell (Nat.le_refl _) _) hgs wr.heap.size (by first | rfl | simp) rfl (by omega) (Nat.le_trans hz (Nat.le_of_lt hsz)) hz ?_)
          intro g' cap' w' hown' hbel' hg' hlt'
          have hown2 := hide hown'
          have hw2 := hide ((unhide hB).trans hbel')
          clear hown' hbel' hown1 hB
          go_wp2
          go_roundw
          case rel => exact ⟨j + 1, g', cap', _, by omega, by go_num, rfl, hg', hlt', hown2, hide (unhide hfin _ _ (fv_res _ _ _ _) (fv_res _ _ _ _)), hw2⟩
          case measure => simp [intOf]; omega
    · have hje : j = l.length := by omega
      have hlt2 : ¬ (j : Int) < l.length := by omega
      have hfin : Hid (WvL true l l.length L) := hide (by have := unhide hwv; rw [hje] at this; exact this)
      have hLj : L.length = j := (unhide hwv).1
      clear hwv hje
      subst hLj
      go_wp2
      go_ret
      exact ⟨g, cap, L, rfl, hg, unhide hown, unhide hfin, unhide hw⟩

end Go.Proofs.Ytibeipcfokngjaa
