/-
  Contract of the model's BoxesOk: for boxes of bounded size it answers whether they are a film, and nothing that was there is written.
-/
import Derived.Test.YtdiamcejpjopgaaIOk
namespace Go.Proofs.Ytdiamcejpjopgaa
open Go.RowKit
set_option linter.unusedVariables false
set_option linter.unusedSimpArgs false

set_option maxRecDepth 100000 in
set_option maxHeartbeats 3200000 in
theorem sok_any (a : Option Addr) (cap : Nat) (A : Nat → Option Addr × Nat) (l : List Bx) (v : Bool) (w : World) (hl : l.length ≤ 1048576) (hs : Small 1048576 l) (hr : Bxs false 0 w.heap.size w a A l) (hv : ok l = v) :
    Calls Try.prog 14 #[.slice a l.length cap] w fun e w' => e = .returned (.bool v) ∧ Below w.heap.size w w' := by
  have hr' := hide hr
  have hs' := hide hs
  have hv' := hide hv
  clear hr hs hv
  by_cases hL : (200 : Int) < l.length
  · go_enter Try.func14, Try.ntmps14
    go_wp2
    go_ret
    exact ⟨ret_bool (by rw [← unhide hv', ok_long (by omega)]), Below.refl _ _⟩
  · go_enter Try.func14, Try.ntmps14
    go_wp2
    go_loopw [3, 4] (fun s t wr => ∃ (k : Nat) (n : Int), k ≤ l.length ∧ t = .int .i64 k ∧ s = .int .i64 n ∧ 0 ≤ n ∧ n ≤ 1048576 * k ∧ Hid (n = total (l.take k)) ∧ Hid (strOk none (l.take k) = true) ∧ Below w.heap.size w wr) (fun _ t _ => l.length - (intOf t).toNat)
    case atStart => exact ⟨0, 0, by omega, rfl, rfl, by omega, by omega, hide rfl, hide rfl, Below.refl _ _⟩
    case round =>
      obtain ⟨k, n, hk, rfl, rfl, n0, n1, hn, hst, hb⟩ := hrel
      by_cases hlt : k < l.length
      · obtain ⟨x, hx⟩ : ∃ x, l[k]? = some x := ⟨l[k], List.getElem?_eq_getElem hlt⟩
        obtain ⟨b, o, rfl, h1, h2, c0, c1, c2, hrow, k1, d0, d1, z1, z2, _⟩ := unhide hr' k x hx
        have w0 : wr.cell? ⟨b, o + k * 3, none⟩ = some (.string x.k) := by rw [(bcell hb).1 _ _ h2]; exact c0
        have w1 : wr.cell? ⟨b, o + k * 3 + 1, none⟩ = some (.int .i64 x.d) := by rw [(bcell hb).1 _ _ h2]; exact c1
        obtain ⟨zl, hzl⟩ : ∃ zl : Nat, Hid (x.z.length = zl) := ⟨_, hide rfl⟩
        have w2 : wr.cell? ⟨b, o + k * 3 + 2, none⟩ = some (.slice (A k).1 zl (A k).2) := by rw [(bcell hb).1 _ _ h2, ← unhide hzl]; exact c2
        have hno : stepOk (prev l k) x = false → v = false := fun h => by rw [← unhide hv']; exact step_no hx h
        have hno' := hide hno
        have hxs := unhide hs' x (List.mem_of_getElem? hx)
        have hxl : zl ≤ 1048576 := by have := unhide hzl; omega
        have hx' := hide hx
        have hb' := hide hb
        have k1' := hide k1
        have hbox : ∀ o, Below w.heap.size w (wr.alloc o) := fun o => hb.alloc hb.size o
        have hbox' := hide hbox
        have hbw : b < wr.heap.size := Nat.lt_of_lt_of_le h2 hb.size
        clear hno hbox c0 c1 c2 hrow z1 z2 hx hb k1 hxs
        cases hK : kindOk x.k
        · go_wp2_with fail
          refine (skind_any x.k false _ (unhide k1') hK).mono ?_
          rintro e w3 ⟨rfl, rfl⟩
          go_wp2
          go_ret
          exact ⟨ret_bool (unhide hno' (step_n1 hK)).symm, unhide hbox' _⟩
        · have hksz : 0 < x.k.size := by rw [kindOk_size hK]; omega
          cases hI : decide (0 ≤ x.d) && decide (x.d ≤ 8)
          · have hS : Hid (stepOk (prev l k) x = false) := hide (step_n2 (by simp at hI; omega))
            go_wp2_with fail
            refine (skind_any x.k true _ (unhide k1') hK).mono ?_
            rintro e w3 ⟨rfl, rfl⟩
            go_wp2_with fail
            refine (in_any x.d 0 8 false _ hI).mono ?_
            rintro e w3 ⟨rfl, rfl⟩
            go_wp2
            go_ret
            exact ⟨ret_bool (unhide hno' (unhide hS)).symm, unhide hbox' _⟩
          · have g0 : 0 ≤ x.d := by simp at hI; omega
            have g1 : x.d ≤ 8 := by simp at hI; omega
            have hI' := hide hI
            clear hI
            have htk : total (l.take (k + 1)) = total (l.take k) + x.z.length := total_take (unhide hx')
            have hnn : Hid (n + (zl : Int) = total (l.take (k + 1))) := hide (by rw [htk, unhide hn, unhide hzl]; omega)
            clear htk
            have hHZ : Hid (holds x.k = true ∧ 0 < x.z.length → stepOk (prev l k) x = false) := hide fun h => step_n3 h.1 (by omega)
            cases hH : holds x.k
            · have h4 : holds x.k = false ∨ x.z.length = 0 := .inl hH
              have h4' := hide h4
              clear h4
              by_cases hk0 : k = 0
              · subst hk0
                simp only [Nat.zero_mul, Nat.add_zero] at w0 w1 w2
                by_cases hd0 : x.d = 0
                · have hst' : Hid (strOk none (l.take (0 + 1)) = true) := hide (by rw [strOk_take (unhide hx'), unhide hst, step_yes hK g0 g1 (unhide h4') (by show x.d ≤ 0; omega)]; rfl)
                  have hd0b : (x.d != 0) = false := by simp [hd0]
                  have hd0' := hide hd0
                  clear hd0
                  go_wp2_with fail
                  refine (skind_any x.k true _ (unhide k1') hK).mono ?_
                  rintro e w3 ⟨rfl, rfl⟩
                  go_wp2_with fail
                  refine (in_any x.d 0 8 true _ (unhide hI')).mono ?_
                  rintro e w3 ⟨rfl, rfl⟩
                  go_wp2_with fail
                  refine (holds_any x.k false _ hksz (unhide k1') hH).mono ?_
                  rintro e w3 ⟨rfl, rfl⟩
                  go_wp2
                  go_quiet (fail)
                  go_wp2
                  go_roundw
                  case rel => exact ⟨0 + 1, n + zl, by omega, by go_num, rfl, by omega, by omega, hnn, hst', below_drewN (unhide hbox' _) _⟩
                  case measure => simp [intOf]; omega
                · have hd0b : (x.d != 0) = true := by simpa using hd0
                  go_wp2_with fail
                  refine (skind_any x.k true _ (unhide k1') hK).mono ?_
                  rintro e w3 ⟨rfl, rfl⟩
                  go_wp2_with fail
                  refine (in_any x.d 0 8 true _ (unhide hI')).mono ?_
                  rintro e w3 ⟨rfl, rfl⟩
                  go_wp2_with fail
                  refine (holds_any x.k false _ hksz (unhide k1') hH).mono ?_
                  rintro e w3 ⟨rfl, rfl⟩
                  go_wp2
                  go_ret
                  exact ⟨ret_bool (unhide hno' (step_n4 (by show ¬ x.d ≤ 0; omega))).symm, unhide hbox' _⟩
              · obtain ⟨j, rfl⟩ : ∃ j, k = j + 1 := ⟨k - 1, by omega⟩
                obtain ⟨p, hp⟩ : ∃ p, l[j]? = some p := ⟨l[j], List.getElem?_eq_getElem (by omega)⟩
                obtain ⟨b', o', hbo, _, _, q0, q1, q2, _, qk, qd0, qd1, _, _, _⟩ := unhide hr' j p hp
                injection hbo with hbo
                injection hbo with eb eo _
                subst eb eo
                have v0 : wr.cell? ⟨b, o + j * 3, none⟩ = some (.string p.k) := by rw [(bcell (unhide hb')).1 _ _ h2]; exact q0
                have v1 : wr.cell? ⟨b, o + j * 3 + 1, none⟩ = some (.int .i64 p.d) := by rw [(bcell (unhide hb')).1 _ _ h2]; exact q1
                have q1' := hide qk
                have hpv : prev l (j + 1) = some p := prev_succ hp
                have hpv' := hide hpv
                have hps : stepOk (prev l j) p = true := by
                  have := unhide hst
                  rw [strOk_take hp] at this
                  simp at this; exact this.2
                have hpK : kindOk p.k = true := by unfold stepOk at hps; simp at hps; exact hps.1.1.1.1
                have hpsz : Hid (0 < p.k.size) := hide (by rw [kindOk_size hpK]; omega)
                have p8 : p.d ≤ 8 := by unfold stepOk at hps; simp at hps; exact hps.1.1.2
                have hk0b : decide ((0 : Int) < ((j + 1 : Nat) : Int)) = true := decide_eq_true (by omega)
                have hk0c : (((j + 1 : Nat) : Int) == 0) = false := by rw [beq_eq_false_iff_ne]; omega
                clear q0 q1 q2 qk hp hpv hps hk0
                by_cases hgt : p.d < x.d
                · have hgtb : decide (p.d < x.d) = true := by simpa using hgt
                  by_cases hne : x.d = p.d + 1
                  · have hneb : (x.d != p.d + 1) = false := by simpa using hne
                    have hne' := hide hne
                    clear hne
                    cases hpH : holds p.k
                    · go_wp2_with fail
                      refine (skind_any x.k true _ (unhide k1') hK).mono ?_
                      rintro e w3 ⟨rfl, rfl⟩
                      go_wp2_with fail
                      refine (in_any x.d 0 8 true _ (unhide hI')).mono ?_
                      rintro e w3 ⟨rfl, rfl⟩
                      go_wp2_with fail
                      refine (holds_any x.k false _ hksz (unhide k1') hH).mono ?_
                      rintro e w3 ⟨rfl, rfl⟩
                      go_wp2
                      go_quiet ((go_at_call 42; exact Calls.quiet_of_same (holds_any p.k false _ (unhide hpsz) (unhide q1') hpH)))
                      go_wp2
                      go_ret
                      exact ⟨ret_bool (unhide hno' (step_n4 (by rw [unhide hpv']; show ¬ x.d ≤ p.d + (if holds p.k = true then 1 else 0); rw [hpH]; simp; have := unhide hne'; omega))).symm, below_drewN (unhide hbox' _) _⟩
                    · have hst' : Hid (strOk none (l.take (j + 1 + 1)) = true) := hide (by rw [strOk_take (unhide hx'), unhide hst, step_yes hK g0 g1 (unhide h4') (by rw [unhide hpv']; show x.d ≤ p.d + (if holds p.k = true then 1 else 0); rw [hpH, if_pos rfl]; have := unhide hne'; omega)]; rfl)
                      go_wp2_with fail
                      refine (skind_any x.k true _ (unhide k1') hK).mono ?_
                      rintro e w3 ⟨rfl, rfl⟩
                      go_wp2_with fail
                      refine (in_any x.d 0 8 true _ (unhide hI')).mono ?_
                      rintro e w3 ⟨rfl, rfl⟩
                      go_wp2_with fail
                      refine (holds_any x.k false _ hksz (unhide k1') hH).mono ?_
                      rintro e w3 ⟨rfl, rfl⟩
                      go_wp2
                      go_quiet ((go_at_call 42; exact Calls.quiet_of_same (holds_any p.k true _ (unhide hpsz) (unhide q1') hpH)))
                      go_wp2
                      go_roundw
                      case rel => exact ⟨(j + 1) + 1, n + zl, by omega, by go_num, rfl, by omega, by omega, hnn, hst', below_drewN (unhide hbox' _) _⟩
                      case measure => simp [intOf]; omega
                  · have hneb : (x.d != p.d + 1) = true := by simpa using hne
                    have hfar : Hid (stepOk (prev l (j + 1)) x = false) := hide (step_n4 (by rw [unhide hpv']; show ¬ x.d ≤ p.d + (if holds p.k = true then 1 else 0); split <;> omega))
                    clear hne
                    go_wp2_with fail
                    refine (skind_any x.k true _ (unhide k1') hK).mono ?_
                    rintro e w3 ⟨rfl, rfl⟩
                    go_wp2_with fail
                    refine (in_any x.d 0 8 true _ (unhide hI')).mono ?_
                    rintro e w3 ⟨rfl, rfl⟩
                    go_wp2_with fail
                    refine (holds_any x.k false _ hksz (unhide k1') hH).mono ?_
                    rintro e w3 ⟨rfl, rfl⟩
                    go_wp2
                    go_quiet (fail)
                    go_wp2
                    go_ret
                    exact ⟨ret_bool (unhide hno' (unhide hfar)).symm, below_drewN (unhide hbox' _) _⟩
                · have hgtb : decide (p.d < x.d) = false := by simpa using hgt
                  have hst' : Hid (strOk none (l.take (j + 1 + 1)) = true) := hide (by rw [strOk_take (unhide hx'), unhide hst, step_yes hK g0 g1 (unhide h4') (by rw [unhide hpv']; show x.d ≤ p.d + (if holds p.k = true then 1 else 0); split <;> omega)]; rfl)
                  clear hgt
                  go_wp2_with fail
                  refine (skind_any x.k true _ (unhide k1') hK).mono ?_
                  rintro e w3 ⟨rfl, rfl⟩
                  go_wp2_with fail
                  refine (in_any x.d 0 8 true _ (unhide hI')).mono ?_
                  rintro e w3 ⟨rfl, rfl⟩
                  go_wp2_with fail
                  refine (holds_any x.k false _ hksz (unhide k1') hH).mono ?_
                  rintro e w3 ⟨rfl, rfl⟩
                  go_wp2
                  go_quiet (fail)
                  go_wp2
                  go_roundw
                  case rel => exact ⟨(j + 1) + 1, n + zl, by omega, by go_num, rfl, by omega, by omega, hnn, hst', below_drewN (unhide hbox' _) _⟩
                  case measure => simp [intOf]; omega

            · by_cases hz : 0 < (zl : Int)
              · go_wp2_with fail
                refine (skind_any x.k true _ (unhide k1') hK).mono ?_
                rintro e w3 ⟨rfl, rfl⟩
                go_wp2_with fail
                refine (in_any x.d 0 8 true _ (unhide hI')).mono ?_
                rintro e w3 ⟨rfl, rfl⟩
                go_wp2_with fail
                refine (holds_any x.k true _ hksz (unhide k1') hH).mono ?_
                rintro e w3 ⟨rfl, rfl⟩
                go_wp2
                go_ret
                exact ⟨ret_bool (unhide hno' (step_n3 hH (by have := unhide hzl; omega))).symm, unhide hbox' _⟩
              · obtain rfl : zl = 0 := by omega
                have hnn0 : Hid (n = total (l.take (k + 1))) := hide (by have := unhide hnn; simpa using this)
                have h4 : holds x.k = false ∨ x.z.length = 0 := .inr (unhide hzl)
                have h4' := hide h4
                clear h4 hz
                by_cases hk0 : k = 0
                · subst hk0
                  simp only [Nat.zero_mul, Nat.add_zero] at w0 w1 w2
                  by_cases hd0 : x.d = 0
                  · have hst' : Hid (strOk none (l.take (0 + 1)) = true) := hide (by rw [strOk_take (unhide hx'), unhide hst, step_yes hK g0 g1 (unhide h4') (by show x.d ≤ 0; omega)]; rfl)
                    have hd0b : (x.d != 0) = false := by simp [hd0]
                    have hd0' := hide hd0
                    clear hd0
                    go_wp2_with fail
                    refine (skind_any x.k true _ (unhide k1') hK).mono ?_
                    rintro e w3 ⟨rfl, rfl⟩
                    go_wp2_with fail
                    refine (in_any x.d 0 8 true _ (unhide hI')).mono ?_
                    rintro e w3 ⟨rfl, rfl⟩
                    go_wp2_with fail
                    refine (holds_any x.k true _ hksz (unhide k1') hH).mono ?_
                    rintro e w3 ⟨rfl, rfl⟩
                    go_wp2
                    go_quiet (fail)
                    go_wp2
                    go_roundw
                    case rel => exact ⟨0 + 1, n, by omega, by go_num, rfl, by omega, by omega, hnn0, hst', below_drewN (unhide hbox' _) _⟩
                    case measure => simp [intOf]; omega
                  · have hd0b : (x.d != 0) = true := by simpa using hd0
                    go_wp2_with fail
                    refine (skind_any x.k true _ (unhide k1') hK).mono ?_
                    rintro e w3 ⟨rfl, rfl⟩
                    go_wp2_with fail
                    refine (in_any x.d 0 8 true _ (unhide hI')).mono ?_
                    rintro e w3 ⟨rfl, rfl⟩
                    go_wp2_with fail
                    refine (holds_any x.k true _ hksz (unhide k1') hH).mono ?_
                    rintro e w3 ⟨rfl, rfl⟩
                    go_wp2
                    go_ret
                    exact ⟨ret_bool (unhide hno' (step_n4 (by show ¬ x.d ≤ 0; omega))).symm, unhide hbox' _⟩
                · obtain ⟨j, rfl⟩ : ∃ j, k = j + 1 := ⟨k - 1, by omega⟩
                  obtain ⟨p, hp⟩ : ∃ p, l[j]? = some p := ⟨l[j], List.getElem?_eq_getElem (by omega)⟩
                  obtain ⟨b', o', hbo, _, _, q0, q1, q2, _, qk, qd0, qd1, _, _, _⟩ := unhide hr' j p hp
                  injection hbo with hbo
                  injection hbo with eb eo _
                  subst eb eo
                  have v0 : wr.cell? ⟨b, o + j * 3, none⟩ = some (.string p.k) := by rw [(bcell (unhide hb')).1 _ _ h2]; exact q0
                  have v1 : wr.cell? ⟨b, o + j * 3 + 1, none⟩ = some (.int .i64 p.d) := by rw [(bcell (unhide hb')).1 _ _ h2]; exact q1
                  have q1' := hide qk
                  have hpv : prev l (j + 1) = some p := prev_succ hp
                  have hpv' := hide hpv
                  have hps : stepOk (prev l j) p = true := by
                    have := unhide hst
                    rw [strOk_take hp] at this
                    simp at this; exact this.2
                  have hpK : kindOk p.k = true := by unfold stepOk at hps; simp at hps; exact hps.1.1.1.1
                  have hpsz : Hid (0 < p.k.size) := hide (by rw [kindOk_size hpK]; omega)
                  have p8 : p.d ≤ 8 := by unfold stepOk at hps; simp at hps; exact hps.1.1.2
                  have hk0b : decide ((0 : Int) < ((j + 1 : Nat) : Int)) = true := decide_eq_true (by omega)
                  have hk0c : (((j + 1 : Nat) : Int) == 0) = false := by rw [beq_eq_false_iff_ne]; omega
                  clear q0 q1 q2 qk hp hpv hps hk0
                  by_cases hgt : p.d < x.d
                  · have hgtb : decide (p.d < x.d) = true := by simpa using hgt
                    by_cases hne : x.d = p.d + 1
                    · have hneb : (x.d != p.d + 1) = false := by simpa using hne
                      have hne' := hide hne
                      clear hne
                      cases hpH : holds p.k
                      · go_wp2_with fail
                        refine (skind_any x.k true _ (unhide k1') hK).mono ?_
                        rintro e w3 ⟨rfl, rfl⟩
                        go_wp2_with fail
                        refine (in_any x.d 0 8 true _ (unhide hI')).mono ?_
                        rintro e w3 ⟨rfl, rfl⟩
                        go_wp2_with fail
                        refine (holds_any x.k true _ hksz (unhide k1') hH).mono ?_
                        rintro e w3 ⟨rfl, rfl⟩
                        go_wp2
                        go_quiet ((go_at_call 42; exact Calls.quiet_of_same (holds_any p.k false _ (unhide hpsz) (unhide q1') hpH)))
                        go_wp2
                        go_ret
                        exact ⟨ret_bool (unhide hno' (step_n4 (by rw [unhide hpv']; show ¬ x.d ≤ p.d + (if holds p.k = true then 1 else 0); rw [hpH]; simp; have := unhide hne'; omega))).symm, below_drewN (unhide hbox' _) _⟩
                      · have hst' : Hid (strOk none (l.take (j + 1 + 1)) = true) := hide (by rw [strOk_take (unhide hx'), unhide hst, step_yes hK g0 g1 (unhide h4') (by rw [unhide hpv']; show x.d ≤ p.d + (if holds p.k = true then 1 else 0); rw [hpH, if_pos rfl]; have := unhide hne'; omega)]; rfl)
                        go_wp2_with fail
                        refine (skind_any x.k true _ (unhide k1') hK).mono ?_
                        rintro e w3 ⟨rfl, rfl⟩
                        go_wp2_with fail
                        refine (in_any x.d 0 8 true _ (unhide hI')).mono ?_
                        rintro e w3 ⟨rfl, rfl⟩
                        go_wp2_with fail
                        refine (holds_any x.k true _ hksz (unhide k1') hH).mono ?_
                        rintro e w3 ⟨rfl, rfl⟩
                        go_wp2
                        go_quiet ((go_at_call 42; exact Calls.quiet_of_same (holds_any p.k true _ (unhide hpsz) (unhide q1') hpH)))
                        go_wp2
                        go_roundw
                        case rel => exact ⟨(j + 1) + 1, n, by omega, by go_num, rfl, by omega, by omega, hnn0, hst', below_drewN (unhide hbox' _) _⟩
                        case measure => simp [intOf]; omega
                    · have hneb : (x.d != p.d + 1) = true := by simpa using hne
                      have hfar : Hid (stepOk (prev l (j + 1)) x = false) := hide (step_n4 (by rw [unhide hpv']; show ¬ x.d ≤ p.d + (if holds p.k = true then 1 else 0); split <;> omega))
                      clear hne
                      go_wp2_with fail
                      refine (skind_any x.k true _ (unhide k1') hK).mono ?_
                      rintro e w3 ⟨rfl, rfl⟩
                      go_wp2_with fail
                      refine (in_any x.d 0 8 true _ (unhide hI')).mono ?_
                      rintro e w3 ⟨rfl, rfl⟩
                      go_wp2_with fail
                      refine (holds_any x.k true _ hksz (unhide k1') hH).mono ?_
                      rintro e w3 ⟨rfl, rfl⟩
                      go_wp2
                      go_quiet (fail)
                      go_wp2
                      go_ret
                      exact ⟨ret_bool (unhide hno' (unhide hfar)).symm, below_drewN (unhide hbox' _) _⟩
                  · have hgtb : decide (p.d < x.d) = false := by simpa using hgt
                    have hst' : Hid (strOk none (l.take (j + 1 + 1)) = true) := hide (by rw [strOk_take (unhide hx'), unhide hst, step_yes hK g0 g1 (unhide h4') (by rw [unhide hpv']; show x.d ≤ p.d + (if holds p.k = true then 1 else 0); split <;> omega)]; rfl)
                    clear hgt
                    go_wp2_with fail
                    refine (skind_any x.k true _ (unhide k1') hK).mono ?_
                    rintro e w3 ⟨rfl, rfl⟩
                    go_wp2_with fail
                    refine (in_any x.d 0 8 true _ (unhide hI')).mono ?_
                    rintro e w3 ⟨rfl, rfl⟩
                    go_wp2_with fail
                    refine (holds_any x.k true _ hksz (unhide k1') hH).mono ?_
                    rintro e w3 ⟨rfl, rfl⟩
                    go_wp2
                    go_quiet (fail)
                    go_wp2
                    go_roundw
                    case rel => exact ⟨(j + 1) + 1, n, by omega, by go_num, rfl, by omega, by omega, hnn0, hst', below_drewN (unhide hbox' _) _⟩
                    case measure => simp [intOf]; omega

      · have hke : k = l.length := by omega
        have hst2 := unhide hst
        have hn2 := unhide hn
        rw [hke] at hst2 hn2
        have hLe : l.length ≤ 200 := by omega
        have hfin : Hid (decide (n ≤ 20000) = v) := hide (by
          rw [← unhide hv']
          by_cases ht : n ≤ 20000
          · rw [decide_eq_true ht, ok_yes hLe hst2 (by omega)]
          · rw [decide_eq_false ht, total_no (k := l.length) (by omega)])
        clear hst2 hn2
        go_wp2
        go_ret
        exact ⟨ret_bool (unhide hfin), hb⟩
end Go.Proofs.Ytdiamcejpjopgaa
