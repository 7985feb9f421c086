/-
  Contract of the model's search for a motion; nothing that was there is written.
-/
import Derived.Test.YtdppnjafkbopiaaMot
namespace Go.Proofs.Ytdppnjafkbopiaa
open Go.RowKit
set_option linter.unusedVariables false
set_option linter.unusedSimpArgs false

theorem sq_bd {d : Int} (h0 : -2 ≤ d) (h1 : d ≤ 2) : 0 ≤ d * d ∧ d * d ≤ 4 := by
  have hx : d = -2 ∨ d = -1 ∨ d = 0 ∨ d = 1 ∨ d = 2 := by omega
  rcases hx with rfl | rfl | rfl | rfl | rfl <;> decide
set_option maxHeartbeats 6400000 in
theorem smo_any (W H : Int) (a b : Option Addr) (ca cb : Nat) (l m : List Int) (n : Int) (w : World) (hp : PcOk W H l) (hq : PcOk W H m) (ha : Ins w a l) (hb : Ins w b m) (n0 : 0 ≤ n) (n1 : n < nBl W H) :
    Calls Try.prog 18 #[pcv W H a l.length ca, pcv W H b m.length cb, .int .i64 n] w fun e w' => ∃ p q, e = .returned (.tuple #[.int .i64 p, .int .i64 q]) ∧ Best (mdif W H l m n) p q ∧ Below w.heap.size w w' := by
  have hme := hide (fun i => blk_px (n := n) (dx := 0) (dy := 0) hq i)
  have hoe := hide (fun dx dy i => blk_px (n := n) (dx := dx) (dy := dy) hp i)
  have c56p := hide (fun w' (h : Below w.heap.size w w') => sblk_any W H b cb m n 0 0 w' hq (hb.below h) n0 n1 inM0)
  have c56o := hide (fun dx dy w' (hm : InM dx dy) (h : Below w.heap.size w w') => sblk_any W H a ca l n dx dy w' hp (ha.below h) n0 n1 hm)
  have hDD := hide (show ∀ dx dy, mdif W H l m n dx dy = dif (blk W H m n 0 0) (blk W H l n dx dy) 16 from fun _ _ => rfl)
  have hDb := hide (show ∀ dx dy, 0 ≤ mdif W H l m n dx dy ∧ mdif W H l m n dx dy ≤ 4080 from fun dx dy => by have := dif_bd (unhide hme) (unhide hoe dx dy) 16; unfold mdif; omega)
  have b1 : Below w.heap.size w (w.alloc (.cells #[.int .i64 W, .int .i64 H, .slice a l.length ca] 26)) := (Below.refl _ _).alloc (Nat.le_refl _) _
  have p1 := P3.new w 26 W H (.slice a l.length ca)
  clear ha hb hp hq
  go_enter Try.func18, Try.ntmps18
  go_wp2_with fail
  generalize w.alloc (.cells #[.int .i64 W, .int .i64 H, .slice a l.length ca] 26) = w1 at *
  have b2 := laterB b1 ((Below.refl w1.heap.size w1).alloc (Nat.le_refl _) (.cells #[.int .i64 W, .int .i64 H, .slice b m.length cb] 26))
  have p2 := p1.later ((Below.refl w1.heap.size w1).alloc (Nat.le_refl _) (.cells #[.int .i64 W, .int .i64 H, .slice b m.length cb] 26))
  generalize w1.alloc (.cells #[.int .i64 W, .int .i64 H, .slice b m.length cb] 26) = w2 at *
  clear b1 p1
  refine (unhide c56p _ b2).mono ?_
  rintro e w4 hS
  obtain ⟨gm, cm, rfl, qm, om, k4⟩ := hS
  have P := hide (p2.later k4)
  have Bw := hide (laterB b2 k4)
  have oM := hide (own_mono om b2.size)
  clear p2 b2 k4 c56p om qm w1
  rw [fl_len] at oM
  rw [fl_len]
  generalize blk W H m n 0 0 = me at *
  have hB0 : w.heap.size = w.heap.size := rfl
  obtain ⟨B0, hB1⟩ : ∃ B0, w.heap.size = B0 := ⟨_, rfl⟩
  have P : Hid (P3 w4 B0 26 W H (.slice a l.length ca)) := hide (by rw [← hB1]; exact unhide P)
  have hg : w.heap.size = B0 := hB1
  clear hB0 hB1
  have hI := hide (sbest_start (mdif W H l m n))
  go_wp2
  have hg' := hide hg
  clear hg
  go_loopw [8, 9, 10, 12] (fun s t r f wr => ∃ (p q best far : Int), 0 ≤ far ∧ far ≤ 9 ∧ f = .int .i64 far ∧ s = .int .i64 p ∧ t = .int .i64 q ∧ r = .int .i64 best ∧ Hid (SBest (mdif W H l m n) far (-2) (-2) best p q) ∧ Hid (P3 wr B0 26 W H (.slice a l.length ca)) ∧ Hid (OwnI wr w.heap.size gm 16 cm (fl me 16)) ∧ Hid (Below w.heap.size w wr)) (fun _ _ _ f _ => (9 - intOf f).toNat)
  case atStart => exact ⟨0, 0, -1, 0, by omega, by omega, rfl, rfl, rfl, rfl, hI, P, oM, Bw⟩
  case round =>
    clear hI P oM Bw
    obtain ⟨p, q, best, far, f0, f1, rfl, rfl, rfl, rfl, hI, P, oM, Bw⟩ := hrel
    by_cases hlf : far ≤ 8
    · have hlf2 : decide (far ≤ 8) = true := decide_eq_true hlf
      rename World => wa
      go_wp2
      go_loopw [8, 9, 10, 13] (fun s t r f wr => ∃ (p q best dy : Int), -2 ≤ dy ∧ dy ≤ 3 ∧ f = .int .i64 dy ∧ s = .int .i64 p ∧ t = .int .i64 q ∧ r = .int .i64 best ∧ Hid (SBest (mdif W H l m n) far (-2) dy best p q) ∧ Hid (P3 wr B0 26 W H (.slice a l.length ca)) ∧ Hid (OwnI wr w.heap.size gm 16 cm (fl me 16)) ∧ Hid (Below w.heap.size w wr)) (fun _ _ _ f _ => (3 - intOf f).toNat)
      case atStart => exact ⟨p, q, best, -2, by omega, by omega, rfl, rfl, rfl, rfl, hI, P, oM, Bw⟩
      case round =>
        clear hI P oM Bw
        obtain ⟨p, q, best, dy, dy0, dy1, rfl, rfl, rfl, rfl, hI, P, oM, Bw⟩ := hrel
        by_cases hly : dy ≤ 2
        · have hly2 : decide (dy ≤ 2) = true := decide_eq_true hly
          rename World => wb
          go_wp2
          go_loopw [8, 9, 10, 14] (fun s t r f wr => ∃ (p q best dx : Int), -2 ≤ dx ∧ dx ≤ 3 ∧ f = .int .i64 dx ∧ s = .int .i64 p ∧ t = .int .i64 q ∧ r = .int .i64 best ∧ Hid (SBest (mdif W H l m n) far dx dy best p q) ∧ Hid (P3 wr B0 26 W H (.slice a l.length ca)) ∧ Hid (OwnI wr w.heap.size gm 16 cm (fl me 16)) ∧ Hid (Below w.heap.size w wr)) (fun _ _ _ f _ => (3 - intOf f).toNat)
          case atStart => exact ⟨p, q, best, -2, by omega, by omega, rfl, rfl, rfl, rfl, hI, P, oM, Bw⟩
          case round =>
            clear hI P oM Bw
            obtain ⟨p, q, best, dx, dx0, dx1, rfl, rfl, rfl, rfl, hI, P, oM, Bw⟩ := hrel
            by_cases hlx : dx ≤ 2
            · have hlx2 : decide (dx ≤ 2) = true := decide_eq_true hlx
              have hM : Hid (InM dx dy) := hide ⟨dx0, hlx, dy0, hly⟩
              have hbest : Hid (best = -1 ∨ best = mdif W H l m n p q) := hide (by rcases unhide hI with h | h; exact Or.inl h.1; exact Or.inr h.1)
              have hDp := unhide hDb p q
              have hbd : -1 ≤ best ∧ best ≤ 4080 := by have := unhide hbest; omega
              have ha1 := sq_bd dx0 hlx
              have hc1 := sq_bd dy0 hly
              obtain ⟨A, hA⟩ : ∃ A, dx * dx = A := ⟨_, rfl⟩
              obtain ⟨B, hB⟩ : ∃ B, dy * dy = B := ⟨_, rfl⟩
              rw [hA] at ha1
              rw [hB] at hc1
              have hA2 : IntKind.i64.wrap (dx * dx) = A := by rw [IntKind.wrap_i64, hA]; omega
              have hB2 : IntKind.i64.wrap (dy * dy) = B := by rw [IntKind.wrap_i64, hB]; omega
              have hL := hide (show len2 dx dy = A + B by unfold len2; rw [hA, hB])
              obtain ⟨a1, a2⟩ := ha1
              obtain ⟨c1, c2⟩ := hc1
              obtain ⟨bd1, bd2⟩ := hbd
              clear hA hB hDp
              by_cases hne : A + B = far
              rotate_left
              · have hn2 : ((A + B) != far) = true := by simpa using hne
                have hI := hide (sbest_pass (unhide hI) (by rw [unhide hL]; exact hne))
                go_wp2
                go_roundw
                case rel => exact ⟨p, q, best, dx + 1, by omega, by omega, rfl, rfl, rfl, rfl, hI, P, oM, Bw⟩
                case measure => simp [intOf]; omega
              · have hn2 : ((A + B) != far) = false := by simpa using hne
                have hne' := hide hne
                clear hne
                obtain ⟨e0, e1, e2⟩ := (unhide P).cells
                go_wp2_with fail
                refine (unhide c56o dx dy _ (unhide hM) (unhide Bw)).mono ?_
                rintro e w6 hS
                obtain ⟨gi, ci, rfl, qi, oi, k6⟩ := hS
                have P := hide ((unhide P).later k6)
                have oM := hide (ownsRow_below (unhide oM) k6)
                have Bw := hide (laterB (unhide Bw) k6)
                have oI := hide (own_mono oi (Nat.zero_le _))
                clear e0 e1 e2 k6 oi qi
                rw [fl_len] at oI
                rw [fl_len]
                have hit := hide (unhide hoe dx dy)
                have hDq := hide (unhide hDD dx dy)
                generalize blk W H l n dx dy = it at *
                have hDi := hide (fun k => dif_bd (unhide hme) (unhide hit) k)
                rename World => wc
                go_wp2
                go_loopw [15, 17] (fun s t wr => ∃ k : Nat, k ≤ 16 ∧ t = .int .i64 k ∧ s = .int .i64 (dif me it k) ∧ Hid (OwnI wr 0 gi 16 ci (fl it 16)) ∧ Hid (P3 wr B0 26 W H (.slice a l.length ca)) ∧ Hid (OwnI wr w.heap.size gm 16 cm (fl me 16)) ∧ Hid (Below w.heap.size w wr)) (fun _ t _ => 16 - (intOf t).toNat)
                case atStart => exact ⟨0, by omega, rfl, rfl, oI, P, oM, Bw⟩
                case round =>
                  clear oI P oM Bw
                  obtain ⟨k, hk, rfl, rfl, oI, P, oM, Bw⟩ := hrel
                  by_cases hlk : k < 16
                  · have g0 := ownI_at (fl_at me hlk) (unhide oM)
                    have g1 := ownI_at (fl_at it hlk) (unhide oI)
                    have m0 := unhide hme k
                    have i0 := unhide hit k
                    have d0 := unhide hDi k
                    unfold Px8 at m0 i0
                    have hs := hide (show dif me it (k + 1) = dif me it k + max (me k - it k) (it k - me k) from rfl)
                    generalize dif me it k = Ds at *
                    generalize me k = x at *
                    generalize it k = y at *
                    have u0 : (k : Int) < 16 := by omega
                    obtain ⟨Z, hZ⟩ : ∃ Z, max (x - y) (-(x - y)) = Z := ⟨_, rfl⟩
                    have hZ2 : 0 ≤ Z ∧ Z ≤ 255 := by omega
                    have hs2 := hide (show dif me it (k + 1) = Ds + Z by rw [unhide hs, ← hZ]; omega)
                    have hZ' := hide hZ
                    obtain ⟨z1, z2⟩ := hZ2
                    obtain ⟨m1, m2⟩ := m0
                    obtain ⟨i1, i2⟩ := i0
                    obtain ⟨d1, d2⟩ := d0
                    have d3 : Ds ≤ 4080 := by omega
                    clear hs hZ d2
                    go_wp2_with fail
                    go_quiet ((go_at_call 29; exact Calls.quiet_of_same (abs_any (x - y) Z _ (by omega) (unhide hZ'))))
                    go_wp2
                    go_roundw
                    case rel => exact ⟨k + 1, by omega, by go_num, by rw [unhide hs2], hide (ownsRow_below (unhide oI) (below_drewN (Below.refl _ _) _)), hide ((unhide P).later (below_drewN (Below.refl _ _) _)), hide (ownsRow_below (unhide oM) (below_drewN (Below.refl _ _) _)), hide (below_drewN (unhide Bw) _)⟩
                    case measure => simp [intOf]; omega
                  · have hke : k = 16 := by omega
                    subst hke
                    have hDn := unhide hDb dx dy
                    rw [unhide hDq] at hDn
                    have hD2 := hide (unhide hDq)
                    generalize hDs : dif me it 16 = Dn at *
                    clear hDs
                    obtain ⟨n3, n4⟩ := hDn
                    by_cases ht : best < 0 ∨ Dn < best
                    · have hI := hide (sbest_take (unhide hM) (unhide hI) (by rw [unhide hL]; exact unhide hne') (by rw [unhide hD2]; exact ht) (fun c d => (unhide hDb c d).1))
                      by_cases hb0 : best < 0
                      · have hb1 : decide (best < 0) = true := decide_eq_true hb0
                        go_wp2
                        go_roundw
                        case rel => exact ⟨dx, dy, Dn, dx + 1, by omega, by omega, rfl, rfl, rfl, rfl, hide (by have := unhide hI; rw [unhide hD2] at this; exact this), P, oM, Bw⟩
                        case measure => simp [intOf]; omega
                      · have hb1 : decide (best < 0) = false := decide_eq_false hb0
                        have hb2 : decide (Dn < best) = true := decide_eq_true (by omega)
                        go_wp2
                        go_roundw
                        case rel => exact ⟨dx, dy, Dn, dx + 1, by omega, by omega, rfl, rfl, rfl, rfl, hide (by have := unhide hI; rw [unhide hD2] at this; exact this), P, oM, Bw⟩
                        case measure => simp [intOf]; omega
                    · have hI := hide (sbest_keep (unhide hM) (unhide hI) (by rw [unhide hL]; exact unhide hne') (by rw [unhide hD2]; exact ht))
                      have hb1 : decide (best < 0) = false := decide_eq_false (by omega)
                      have hb2 : decide (Dn < best) = false := decide_eq_false (by omega)
                      go_wp2
                      go_roundw
                      case rel => exact ⟨p, q, best, dx + 1, by omega, by omega, rfl, rfl, rfl, rfl, hI, P, oM, Bw⟩
                      case measure => simp [intOf]; omega
            · have hxe : dx = 3 := by omega
              subst hxe
              have hI := hide (sbest_row (unhide hI))
              go_wp2
              go_roundw
              case rel => exact ⟨p, q, best, dy + 1, by omega, by omega, rfl, rfl, rfl, rfl, hI, P, oM, Bw⟩
              case measure => simp [intOf]; omega
        · have hye : dy = 3 := by omega
          subst hye
          have hI := hide (sbest_far (unhide hI))
          go_wp2
          go_roundw
          case rel => exact ⟨p, q, best, far + 1, by omega, by omega, rfl, rfl, rfl, rfl, hI, P, oM, Bw⟩
          case measure => simp [intOf]; omega
    · have hfe : far = 9 := by omega
      subst hfe
      go_wp2
      go_ret2
      exact ⟨p, q, rfl, sbest_end (unhide hI), unhide Bw⟩

end Go.Proofs.Ytdppnjafkbopiaa
