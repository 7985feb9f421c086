/-
  For every list of boxes, BoxesOk of the program answers as its model does, and the law's argument reads behind the call as it read before; no conditions.
-/
import Derived.Test.YtdiamcejpjopgaaFrame
import Derived.Test.YtdiamcejpjopgaaSOk
namespace Go.Proofs.Ytdiamcejpjopgaa
open Go.ChangeShapes Go.WideShapes Go.ChangeAt Go.RowKit Go.Joins
open Go.ChangeMaps (open_string shut_string)
set_option linter.unusedVariables false
set_option linter.unusedSimpArgs false

set_option maxHeartbeats 800000 in
theorem lawOk (a : Option Addr) (cap : Nat) (A : Nat → Option Addr × Nat) (l : List Bx) (hm : l.length ≤ maxLen) (w : World) (hr : Bxs false 0 w.heap.size w a A l) :
    Calls Try.prog 5 #[.slice a l.length cap] w fun e w' => e = .returned (.bool true) ∧ Below w.heap.size w w' := by
  have hr' := hide hr
  have hm' := hide hm
  clear hr hm
  go_enter Try.func5, Try.ntmps5
  go_wp2_with fail
  refine (szs_any a cap A l _ (unhide hm') (unhide hr')).mono ?_
  rintro e w1 ⟨r, rfl, hq, b1⟩
  have b1' := hide b1
  clear b1
  rcases hq with rfl | ⟨r0, hl, hs⟩
  · go_wp2
    go_ret
    exact ⟨rfl, unhide b1'⟩
  · have hn : ¬ r < 0 := by omega
    have hs' := hide hs
    have hr1 := hide (((unhide hr').below (unhide b1') (Nat.le_refl _)).mono (Nat.le_refl _) (unhide b1').size)
    clear hs
    go_wp2_with fail
    refine (tos_any a cap A l _ hl (unhide hs') (unhide hr1)).mono ?_
    rintro e w2 ⟨g2, A2, rfl, hg2, x2, _, b2⟩
    have B2 := hide ((unhide b1').trans (b2.mono (unhide b1').size))
    have x2' := hide (x2.read.mono (Nat.zero_le _) (Nat.le_refl _))
    clear x2 b2
    go_wp2_with fail
    refine (sok_any _ _ A2 l _ _ hl (unhide hs') (unhide x2') rfl).mono ?_
    rintro e w3 ⟨rfl, b3⟩
    have B3 := hide ((unhide B2).trans (b3.mono (unhide B2).size))
    have hr3 := hide (((unhide hr').below (unhide B3) (Nat.le_refl _)).mono (Nat.le_refl _) (unhide B3).size)
    clear b3
    go_wp2_with fail
    refine (tos_any a cap A l _ hl (unhide hs') (unhide hr3)).mono ?_
    rintro e w4 ⟨g4, A4, rfl, hg4, x4, _, b4⟩
    have B4 := hide ((unhide B3).trans (b4.mono (unhide B3).size))
    have x4' := hide (x4.read.mono (Nat.zero_le _) (Nat.le_refl _))
    clear x4 b4
    go_wp2_with fail
    refine (iok_any _ _ A4 l _ _ hl (unhide hs') (unhide x4') rfl).mono ?_
    rintro e w5 ⟨rfl, b5⟩
    have B5 := hide ((unhide B4).trans (b5.mono (unhide B4).size))
    have x5' := hide (((unhide x4').below b5 (Nat.le_refl _)).mono (Nat.le_refl _) b5.size)
    have hr5 := hide (((unhide hr').below (unhide B5) (Nat.le_refl _)).mono (Nat.le_refl _) (unhide B5).size)
    have hoo : (ok l != ok l) = false := by simp
    clear b5
    go_wp2_with fail
    refine (tos_any a cap A l _ hl (unhide hs') (unhide hr5)).mono ?_
    rintro e w6 ⟨g6, A6, rfl, hg6, x6, _, b6⟩
    have B6 := hide ((unhide B5).trans (b6.mono (unhide B5).size))
    have x6' := hide (x6.read.mono (Nat.zero_le _) (Nat.le_refl _))
    have x7' := hide (((unhide x5').below b6 (Nat.le_refl _)).mono (Nat.le_refl _) b6.size)
    clear x6 b6
    go_wp2_with fail
    refine (eqs_any _ _ _ _ A4 A6 l _ hl (unhide hs') (unhide x7') (unhide x6')).mono ?_
    rintro e w7 ⟨rfl, b7⟩
    have B7 := hide ((unhide B6).trans (b7.mono (unhide B6).size))
    clear b7
    go_wp2
    go_ret
    exact ⟨rfl, unhide B7⟩

set_option maxRecDepth 100000 in
theorem liftOk (os : Os) (started : os.Started) (H : Type) (enc : TypeId × Value → H) :
    ReturnsInHanded {} Try.checked os 5 .any (Rows.fnExactBoxesOkSpec.pre6 enc Try.prog Try.f5 Rows.fnExactBoxesOkRow.domain false) (Rows.fnExactBoxesOkSpec.post enc Try.prog Try.f5 false true false false) := by
  refine returnsInHanded_of_change (C := Try.checked) own started (by kernel_rfl) Try.func5
    (ChangeSpec.witness6 (enc := enc) (C := Try.checked) false ⟨#[], #[.slice none 0 0], []⟩ 8 (by kernel_rfl) (by kernel_rfl) (by kernel_rfl) (by kernel_rfl)) ?_
  intro W base args ds gs before hval0 hW hcnd _
  have hval : ∀ (j : Nat) t v, Try.f5.params[j]? = some t → args[j]? = some v → Value.okWide Try.prog W .any base t v := hval0
  have hW' := hW
  obtain ⟨p, q, hA0, hV, rfl, hfz, hnd⟩ := hW
  have hA : DataW.TrodAll enc Try.prog W 0 (fun _ => true) true Try.f5.params.toList args.toList ds p := hA0
  rw [Try.params5] at hA hval
  obtain ⟨v0, vs0, d0, ds0, p0, q0, hargs, rfl, rfl, h0, r0⟩ := trodAll_cons hA
  obtain ⟨rfl, rfl, rfl⟩ := trodAll_nil r0
  obtain rfl : args = #[v0] := by cases args; simp_all
  obtain ⟨rfl, rfl⟩ := trodVars_none hV
  obtain ⟨a0, len0, cap0, rfl⟩ := okWide_slice Try.underlying39 (hval 0 39 v0 rfl rfl)
  have k0 := h0
  have lt0 : ∀ x ∈ p0, x.block < W.heap.size := by obtain ⟨m, hm⟩ := k0; exact DataW.trod_lt m _ _ _ hm
  obtain ⟨fuel0, hf0⟩ := h0
  obtain ⟨A0, l0, hl0, hm0, hr0⟩ := boxes_in hf0
  subst hl0
  clear hA0 hval0
  refine (lawOk a0 cap0 A0 l0 hm0 W hr0).mono fun e W' ⟨he, bel⟩ => ?_
  subst he
  exact ⟨_, rfl, _, _, _, [], _, [], hW', trodAll_mk1 (shut_bool Try.underlying4 _), (trodAll_cons_mk (Below.trod laidOut (by kernel_rfl) (of_decide_eq_true (by kernel_rfl)) k0 bel lt0) trodAll_mk0), rfl, bel.frame _, fun h => by cases h⟩

theorem holdsOk : Rows.FnExactBoxesOkSaid :=
  OpenClaim.holds_of_wide 5 Try.f5 rfl rfl rfl rfl rfl rfl rfl ⟨rfl, rfl, rfl, rfl, rfl⟩ rfl rfl rfl rfl rfl (by kernel_rfl) Try.func5 (by kernel_rfl)
    (of_decide_eq_true (by kernel_rfl)) (by unfold Func.isWrapper; first | (rw [if_pos (by decide +kernel)]; kernel_rfl) | (rw [if_neg (by decide +kernel)]; exact ⟨rfl, rfl⟩))
    (fun os started H enc _ => liftOk os started H enc)

#print axioms holdsOk
end Go.Proofs.Ytdiamcejpjopgaa
