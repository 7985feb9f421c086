/-
  Contract of the program's BoxesOk: for boxes of bounded size it answers whether they are a film, and nothing that was there is written.
-/
import Derived.Test.YtfdbnlmfnhhcbaaCopy2
import Derived.Test.YtfdbnlmfnhhcbaaKind
namespace Go.Proofs.Ytfdbnlmfnhhcbaa
open Go.RowKit
set_option linter.unusedVariables false
set_option linter.unusedSimpArgs false

theorem prev_succ {l : List Bx} {k : Nat} {x : Bx} (hx : l[k]? = some x) : prev l (k + 1) = some x := by
  unfold prev; rw [if_neg (by omega)]; exact hx
theorem dp_succ {l : List Bx} {k : Nat} {x : Bx} (hx : l[k]? = some x) (v : Bool) (hv : holds x.k = v) : dpOf (prev l (k + 1)) = x.d + (if v = true then 1 else 0) := by
  rw [prev_succ hx]; subst hv; rfl

set_option maxHeartbeats 1600000 in
theorem iok_any (a : Option Addr) (cap : Nat) (A : Nat → Option Addr × Nat) (l : List Bx) (v : Bool) (w : World) (hl : l.length ≤ 1048576) (hs : Small 1048576 l) (hr : Bxs false 0 w.heap.size w a A l) (hv : ok l = v) :
    Calls Try.prog 11 #[.slice a l.length cap] w fun e w' => e = .returned (.bool v) ∧ Below w.heap.size w w' := by
  have hr' := hide hr
  have hs' := hide hs
  have hv' := hide hv
  clear hr hs hv
  by_cases hL : (200 : Int) < l.length
  · go_enter Try.func11, Try.ntmps11
    go_wp2
    go_ret
    exact ⟨ret_bool (by rw [← unhide hv', ok_long (by omega)]), Below.refl _ _⟩
  · go_enter Try.func11, Try.ntmps11
    go_wp2
    go_loopw [3, 4, 12] (fun s u t wr => ∃ (k : Nat) (n dp : Int), k ≤ l.length ∧ t = .int .i64 k ∧ s = .int .i64 n ∧ u = .int .i64 dp ∧ 0 ≤ dp ∧ dp ≤ 9 ∧ 0 ≤ n ∧ n ≤ 20000 ∧ Hid (n = total (l.take k)) ∧ Hid (dp = dpOf (prev l k)) ∧ Hid (strOk none (l.take k) = true) ∧ Below w.heap.size w wr) (fun _ _ t _ => l.length - (intOf t).toNat)
    case atStart => exact ⟨0, 0, 0, by omega, rfl, rfl, rfl, by omega, by omega, by omega, by omega, hide rfl, hide rfl, hide rfl, Below.refl _ _⟩
    case round =>
      obtain ⟨k, n, dp, hk, rfl, rfl, rfl, p0, p1, n0, n1, hn, hdp, hst, hb⟩ := hrel
      by_cases hlt : k < l.length
      · obtain ⟨x, hx⟩ : ∃ x, l[k]? = some x := ⟨l[k], List.getElem?_eq_getElem hlt⟩
        obtain ⟨b, o, rfl, h1, h2, c0, c1, c2, hrow, k1, d0, d1, z1, z2, _⟩ := unhide hr' k x hx
        have w0 : wr.cell? ⟨b, o + k * 3, none⟩ = some (.string x.k) := by rw [(bcell hb).1 _ _ h2]; exact c0
        have w1 : wr.cell? ⟨b, o + k * 3 + 1, none⟩ = some (.int .i64 x.d) := by rw [(bcell hb).1 _ _ h2]; exact c1
        have w2 : wr.cell? ⟨b, o + k * 3 + 2, none⟩ = some (.slice (A k).1 x.z.length (A k).2) := by rw [(bcell hb).1 _ _ h2]; exact c2
        have hno : stepOk (prev l k) x = false → v = false := fun h => by rw [← unhide hv']; exact step_no hx h
        have hno' := hide hno
        have hxs := unhide hs' x (List.mem_of_getElem? hx)
        have hxl : x.z.length ≤ 1048576 := by omega
        have hx' := hide hx
        have hb' := hide hb
        have k1' := hide k1
        have hbox : ∀ o, Below w.heap.size w (wr.alloc o) := fun o => hb.alloc hb.size o
        have hbox' := hide hbox
        clear hno hbox c0 c1 c2 hrow z1 z2 hx hb k1 hxs
        cases hK : kindOk x.k
        · go_wp2_with fail
          refine (ikind_any x.k false _ (unhide k1') hK).mono ?_
          rintro e w3 ⟨rfl, rfl⟩
          go_wp2
          go_ret
          exact ⟨ret_bool (unhide hno' (step_n1 hK)).symm, unhide hbox' _⟩
        · have hksz : 0 < x.k.size := by rw [kindOk_size hK]; omega
          by_cases hd : x.d < 0 ∨ dp < x.d ∨ 8 < x.d
          · have hS : Hid (stepOk (prev l k) x = false) := hide (by
              rcases hd with hd | hd | hd
              · exact step_n2 (by omega)
              · exact step_n4 (by rw [← unhide hdp]; omega)
              · exact step_n2 (by omega))
            by_cases e1 : x.d < 0
            · clear hd
              go_wp2_with fail
              refine (ikind_any x.k true _ (unhide k1') hK).mono ?_
              rintro e w3 ⟨rfl, rfl⟩
              go_wp2
              go_ret
              exact ⟨ret_bool (unhide hno' (unhide hS)).symm, unhide hbox' _⟩
            · have e1' : decide (x.d < 0) = false := by simpa using e1
              by_cases e2 : dp < x.d
              · clear hd e1
                go_wp2_with fail
                refine (ikind_any x.k true _ (unhide k1') hK).mono ?_
                rintro e w3 ⟨rfl, rfl⟩
                go_wp2
                go_ret
                exact ⟨ret_bool (unhide hno' (unhide hS)).symm, unhide hbox' _⟩
              · have e2' : decide (dp < x.d) = false := by simpa using e2
                have e3 : 8 < x.d := by omega
                clear hd e1 e2
                go_wp2_with fail
                refine (ikind_any x.k true _ (unhide k1') hK).mono ?_
                rintro e w3 ⟨rfl, rfl⟩
                go_wp2
                go_ret
                exact ⟨ret_bool (unhide hno' (unhide hS)).symm, unhide hbox' _⟩
          · have e1' : decide (x.d < 0) = false := by simp; omega
            have e2' : decide (dp < x.d) = false := by simp; omega
            have e3' : decide (8 < x.d) = false := by simp; omega
            have g0 : 0 ≤ x.d := by omega
            have g1 : x.d ≤ 8 := by omega
            have g2 : x.d ≤ dpOf (prev l k) := by rw [← unhide hdp]; omega
            have g2' := hide g2
            clear hd g2
            have htk : total (l.take (k + 1)) = total (l.take k) + x.z.length := total_take (unhide hx')
            have hnn : Hid (n + (x.z.length : Int) = total (l.take (k + 1))) := hide (by rw [htk, unhide hn]; omega)
            have hmore : Hid (¬ (n + (x.z.length : Int) ≤ 20000) → v = false) := hide (fun h => by rw [← unhide hv']; exact total_no (k := k + 1) (by have := unhide hnn; omega))
            clear htk
            cases hH : holds x.k
            · have hst' : Hid (strOk none (l.take (k + 1)) = true) := hide (by rw [strOk_take (unhide hx'), unhide hst, step_yes hK g0 g1 (.inl hH) (unhide g2')]; rfl)
              have hdp' : Hid (x.d = dpOf (prev l (k + 1))) := hide (by rw [dp_succ (unhide hx') false hH]; simp)
              by_cases hm : n + (x.z.length : Int) ≤ 20000
              · have hm' : decide (20000 < n + (x.z.length : Int)) = false := by simp; omega
                go_wp2_with fail
                refine (ikind_any x.k true _ (unhide k1') hK).mono ?_
                rintro e w3 ⟨rfl, rfl⟩
                go_wp2_with fail
                refine (cont_any x.k false _ hksz (unhide k1') hH).mono ?_
                rintro e w3 ⟨rfl, rfl⟩
                go_wp2
                go_roundw
                case rel => exact ⟨k + 1, n + x.z.length, x.d, by omega, by go_num, rfl, rfl, by omega, by omega, by omega, by omega, hnn, hdp', hst', unhide hbox' _⟩
                case measure => simp [intOf]; omega
              · go_wp2_with fail
                refine (ikind_any x.k true _ (unhide k1') hK).mono ?_
                rintro e w3 ⟨rfl, rfl⟩
                go_wp2_with fail
                refine (cont_any x.k false _ hksz (unhide k1') hH).mono ?_
                rintro e w3 ⟨rfl, rfl⟩
                go_wp2
                go_ret
                exact ⟨ret_bool (unhide hmore (by omega)).symm, unhide hbox' _⟩
            · by_cases hz : x.z.length = 0
              · have hst' : Hid (strOk none (l.take (k + 1)) = true) := hide (by rw [strOk_take (unhide hx'), unhide hst, step_yes hK g0 g1 (.inr hz) (unhide g2')]; rfl)
                have hdp' : Hid (x.d + 1 = dpOf (prev l (k + 1))) := hide (by rw [dp_succ (unhide hx') true hH]; simp)
                have hz0 : ¬ 0 < (x.z.length : Int) := by omega
                have hm' : ¬ 20000 < n + (x.z.length : Int) := by omega
                have hz' := hide hz
                clear hz
                go_wp2_with fail
                refine (ikind_any x.k true _ (unhide k1') hK).mono ?_
                rintro e w3 ⟨rfl, rfl⟩
                go_wp2_with fail
                refine (cont_any x.k true _ hksz (unhide k1') hH).mono ?_
                rintro e w3 ⟨rfl, rfl⟩
                go_wp2
                go_roundw
                case rel => exact ⟨k + 1, n + x.z.length, x.d + 1, by omega, by go_num, rfl, rfl, by omega, by omega, by omega, by have := unhide hz'; omega, hnn, hdp', hst', unhide hbox' _⟩
                case measure => simp [intOf]; omega
              · have hz0 : 0 < (x.z.length : Int) := by omega
                go_wp2_with fail
                refine (ikind_any x.k true _ (unhide k1') hK).mono ?_
                rintro e w3 ⟨rfl, rfl⟩
                go_wp2_with fail
                refine (cont_any x.k true _ hksz (unhide k1') hH).mono ?_
                rintro e w3 ⟨rfl, rfl⟩
                go_wp2
                go_ret
                exact ⟨ret_bool (unhide hno' (step_n3 hH hz)).symm, unhide hbox' _⟩
      · have hke : k = l.length := by omega
        go_wp2
        go_ret
        refine ⟨ret_bool ?_, hb⟩
        have h1 := unhide hst
        have h2 := unhide hn
        rw [hke] at h1 h2
        rw [← unhide hv', ok_yes (by omega) h1 (by omega)]
end Go.Proofs.Ytfdbnlmfnhhcbaa
