/-
  Contract of the model's Cube; nothing that was there is written.
-/
import Derived.Test.YtdmcbdogpeidjaaSCu
namespace Go.Proofs.Ytdmcbdogpeidjaa
open Go.RowKit
set_option linter.unusedVariables false
set_option linter.unusedSimpArgs false

set_option maxRecDepth 100000 in
set_option maxHeartbeats 3200000 in
theorem scub_any (n : Int) (a : Option Addr) (cap : Nat) (l : List Kl) (x y z : Int) (w : World) (hl : l.length ≤ maxLen) (hk : Kls w a l) :
    Calls Try.prog 14 #[.int .i64 n, .slice a l.length cap, ag3 x y z] w fun e w' => e = .returned (kv (cubOf n l (x, y, z))) ∧ Below w.heap.size w w' := by
  by_cases hOK : CubOk n l (x, y, z)
  · exact scub_yes n a cap l x y z w hl hk ⟨hOK.1, hOK.2.1, hOK.2.2.1⟩ hOK.2.2.2
  rw [cub_no hOK]
  have hk' := hide hk
  have hl' := hide hl
  clear hk
  unfold maxLen at hl
  by_cases hn : 2 ≤ n ∧ n ≤ 9
  · have hd : Hid ((decide (2 ≤ n) && decide (n ≤ 9)) = true) := hide (by simp; omega)
    obtain ⟨q0, q1, q2, q3⟩ := cube_bd hn
    obtain ⟨n0, n1⟩ := hn
    by_cases hE : (l.length : Int) = n * n * n
    · generalize hq2 : n * n = N2 at *
      generalize hr2 : N2 * n = N3 at *
      have hne : ((l.length : Int) != N3) = false := by simpa using hE
      have hle : l.length ≤ 729 := by omega
      by_cases hX : CoOk (x, y, z)
      · have hS := hide (decide_eq_true hX)
        have hC : Hid (¬ CsOk l) := hide (fun h => hOK ⟨⟨n0, n1⟩, by rw [hq2, hr2]; exact hE, h, hX⟩)
        clear hE hX hOK
        go_enter Try.func14, Try.ntmps14
        go_wp2_with fail
        refine (in_any n 2 9 true _ (unhide hd)).mono ?_
        rintro e w9 ⟨rfl, hw0⟩
        have hw1 := hw0.symm
        subst hw1
        go_wp2_with fail
        refine (sco_any x y z true _ (unhide hS)).mono ?_
        rintro e w1 ⟨rfl, hb1⟩
        have R1 : Hid (Bx w1 (w.heap.size + 1) 0 0 0) := hide (Bx.below (w := ((w.alloc (.cells #[.int .i64 x, .int .i64 y, .int .i64 z] 26)).alloc (.cells #[.int .i64 0, .int .i64 0, .int .i64 0] 26))) ⟨by simp [go_sem], by simp [go_sem], by simp [go_sem], by simp [go_sem], by simp [go_sem], by simp [go_sem]⟩ hb1)
        have H1 : Hid (Below w.heap.size w w1) := hide ((((Below.refl _ _).alloc (Nat.le_refl _) _).alloc (by simp) _).trans (hb1.mono (by simp; omega)))
        clear hb1
        clear hq2 hr2 hne
        go_wp2
        go_loopw [7] (fun t wr => ∃ m : Nat, m ≤ l.length ∧ t = .int .i64 m ∧ Hid (CsPre l m) ∧ Hid (Bx wr (w.heap.size + 1) 0 0 0) ∧ Hid (Below w.heap.size w wr)) (fun t _ => l.length - (intOf t).toNat)
        case atStart => exact ⟨0, by omega, rfl, hide (CsPre.zero l), R1, H1⟩
        case round =>
          clear R1 H1
          obtain ⟨m, hm, rfl, hA, hR, hw⟩ := hrel
          by_cases hlt : m < l.length
          · obtain ⟨b9, o9, x9, y9, z9, rfl, hx9, hbl9, d0, d1, d2⟩ := kls_at (unhide hk') (unhide hw) hlt
            have hx' := hide hx9
            clear hx9 hbl9
            by_cases f0 : CoOk (x9, y9, z9)
            · have hS9 := hide (decide_eq_true f0)
              have hnew := hide ((unhide hA).step (unhide hx') f0)
              clear f0 hA
              go_wp2_with fail
              refine (sco_any x9 y9 z9 true _ (unhide hS9)).mono ?_
              rintro e w4 ⟨rfl, hb⟩
              have R4 := hide ((unhide hR).below hb)
              have H4 := hide (laterB (unhide hw) hb)
              clear hb hR hw
              go_wp2
              go_roundw
              case rel => exact ⟨m + 1, by omega, by go_num, hnew, R4, H4⟩
              case measure => simp [intOf]; omega
            · have hS9 := hide (decide_eq_false f0)
              clear f0 hA
              go_wp2_with fail
              refine (sco_any x9 y9 z9 false _ (unhide hS9)).mono ?_
              rintro e w4 ⟨rfl, hb⟩
              obtain ⟨r0, r1, r2, fr0, fr1, fr2⟩ := (unhide hR).below hb
              have H4 := hide (laterB (unhide hw) hb)
              clear hb hR hw
              go_wp2
              refine bodyPost_ret (v := ag3 0 0 0) (by simp [results, Try.results14, go_sem, r0, r1, r2]) rfl ⟨rfl, ?_⟩
              exact (((unhide H4).setCell (by simp <;> omega) _).setCell (by simp <;> omega) _).setCell (by simp <;> omega) _
          · have hke : m = l.length := by omega
            exact absurd (CsPre.all (by have := unhide hA; rw [hke] at this; exact this)) (unhide hC)
      · have hS := hide (decide_eq_false hX)
        clear hE hX hOK
        go_enter Try.func14, Try.ntmps14
        go_wp2_with fail
        refine (in_any n 2 9 true _ (unhide hd)).mono ?_
        rintro e w9 ⟨rfl, hw0⟩
        have hw1 := hw0.symm
        subst hw1
        go_wp2_with fail
        refine (sco_any x y z false _ (unhide hS)).mono ?_
        rintro e w1 ⟨rfl, hb1⟩
        have R1 : Hid (Bx w1 (w.heap.size + 1) 0 0 0) := hide (Bx.below (w := ((w.alloc (.cells #[.int .i64 x, .int .i64 y, .int .i64 z] 26)).alloc (.cells #[.int .i64 0, .int .i64 0, .int .i64 0] 26))) ⟨by simp [go_sem], by simp [go_sem], by simp [go_sem], by simp [go_sem], by simp [go_sem], by simp [go_sem]⟩ hb1)
        have H1 : Hid (Below w.heap.size w w1) := hide ((((Below.refl _ _).alloc (Nat.le_refl _) _).alloc (by simp) _).trans (hb1.mono (by simp; omega)))
        clear hb1
        obtain ⟨r0, r1, r2, fr0, fr1, fr2⟩ := unhide R1
        go_wp2
        refine bodyPost_ret (v := ag3 0 0 0) (by simp [results, Try.results14, go_sem, r0, r1, r2]) rfl ⟨rfl, ?_⟩
        exact (((unhide H1).setCell (by simp <;> omega) _).setCell (by simp <;> omega) _).setCell (by simp <;> omega) _
    · generalize hq2 : n * n = N2 at *
      generalize hr2 : N2 * n = N3 at *
      have hne : ((l.length : Int) != N3) = true := by simpa using hE
      clear hE hOK
      go_enter Try.func14, Try.ntmps14
      go_wp2_with fail
      refine (in_any n 2 9 true _ (unhide hd)).mono ?_
      rintro e w9 ⟨rfl, hw0⟩
      have hw1 := hw0.symm
      subst hw1
      go_wp2
      refine bodyPost_ret (v := ag3 0 0 0) (by simp [results, Try.results14, go_sem]) rfl ⟨rfl, ?_⟩
      exact (((Below.refl _ _).alloc (Nat.le_refl _) _).alloc (by simp) _)
  · have hd : Hid ((decide (2 ≤ n) && decide (n ≤ 9)) = false) := hide (by rw [Bool.eq_false_iff]; intro h; simp at h; exact hn h)
    clear hn hOK
    go_enter Try.func14, Try.ntmps14
    go_wp2_with fail
    refine (in_any n 2 9 false _ (unhide hd)).mono ?_
    rintro e w9 ⟨rfl, hw0⟩
    have hw1 := hw0.symm
    subst hw1
    go_wp2
    refine bodyPost_ret (v := ag3 0 0 0) (by simp [results, Try.results14, go_sem]) rfl ⟨rfl, ?_⟩
    exact (((Below.refl _ _).alloc (Nat.le_refl _) _).alloc (by simp) _)
end Go.Proofs.Ytdmcbdogpeidjaa
