/-
  For every list of boxes and every path, FindBox of the program answers as its model does, and the law's arguments read behind the call as they read before; no conditions.
-/
import Derived.Test.YtdiamcejpjopgaaFrame
import Derived.Test.YtdiamcejpjopgaaSFind
namespace Go.Proofs.Ytdiamcejpjopgaa
open Go.ChangeShapes Go.WideShapes Go.ChangeAt Go.RowKit Go.Joins
open Go.ChangeMaps (open_string shut_string)
set_option linter.unusedVariables false
set_option linter.unusedSimpArgs false

set_option maxHeartbeats 800000 in
theorem lawFind (a : Option Addr) (cap : Nat) (A : Nat → Option Addr × Nat) (l : List Bx) (hm : l.length ≤ maxLen) (s : ByteArray) (hsl : s.size ≤ maxLen) (w : World) (hr : Bxs false 0 w.heap.size w a A l) :
    Calls Try.prog 9 #[.slice a l.length cap, .string s] w fun e w' => e = .returned (.bool true) ∧ Below w.heap.size w w' := by
  have hr' := hide hr
  have hm' := hide hm
  clear hr hm
  unfold maxLen at hsl
  by_cases hbig : (1048576 : Int) < (s.size : Int)
  · go_enter Try.func9, Try.ntmps9
    go_wp2
    go_ret
    exact ⟨rfl, Below.refl _ _⟩
  · have hp : s.size ≤ 1048576 := by omega
    go_enter Try.func9, Try.ntmps9
    go_wp2_with fail
    refine (szs_any a cap A l _ (unhide hm') (unhide hr')).mono ?_
    rintro e w1 ⟨r, rfl, hq, b1⟩
    have b1' := hide b1
    clear b1
    rcases hq with rfl | ⟨r0, hl, hs⟩
    · go_wp2
      go_ret
      exact ⟨rfl, unhide b1'⟩
    · have hn : ¬ r < 0 := by omega
      have hs' := hide hs
      have hr1 := hide (((unhide hr').below (unhide b1') (Nat.le_refl _)).mono (Nat.le_refl _) (unhide b1').size)
      clear hs
      go_wp2_with fail
      refine (tos_any a cap A l _ hl (unhide hs') (unhide hr1)).mono ?_
      rintro e w2 ⟨g2, A2, rfl, hg2, x2, _, b2⟩
      have B2 := hide ((unhide b1').trans (b2.mono (unhide b1').size))
      have x2' := hide (x2.read.mono (Nat.zero_le _) (Nat.le_refl _))
      clear x2 b2
      go_wp2_with fail
      refine (sfind_any _ _ A2 l s _ hl (unhide hs') hp (unhide x2')).mono ?_
      rintro e w3 ⟨rfl, b3⟩
      have B3 := hide ((unhide B2).trans (b3.mono (unhide B2).size))
      have hr3 := hide (((unhide hr').below (unhide B3) (Nat.le_refl _)).mono (Nat.le_refl _) (unhide B3).size)
      clear b3
      go_wp2_with fail
      refine (tos_any a cap A l _ hl (unhide hs') (unhide hr3)).mono ?_
      rintro e w4 ⟨g4, A4, rfl, hg4, x4, _, b4⟩
      have B4 := hide ((unhide B3).trans (b4.mono (unhide B3).size))
      have x4' := hide (x4.read.mono (Nat.zero_le _) (Nat.le_refl _))
      clear x4 b4
      go_wp2_with fail
      refine (ifind_any _ _ A4 l s _ hl (unhide hs') hp (unhide x4')).mono ?_
      rintro e w5 ⟨rfl, b5⟩
      have B5 := hide ((unhide B4).trans (b5.mono (unhide B4).size))
      have x5' := hide (((unhide x4').below b5 (Nat.le_refl _)).mono (Nat.le_refl _) b5.size)
      have hr5 := hide (((unhide hr').below (unhide B5) (Nat.le_refl _)).mono (Nat.le_refl _) (unhide B5).size)
      have hoo : (find l s.data.toList != find l s.data.toList) = false := by simp
      clear b5
      go_wp2_with fail
      refine (tos_any a cap A l _ hl (unhide hs') (unhide hr5)).mono ?_
      rintro e w6 ⟨g6, A6, rfl, hg6, x6, _, b6⟩
      have B6 := hide ((unhide B5).trans (b6.mono (unhide B5).size))
      have x6' := hide (x6.read.mono (Nat.zero_le _) (Nat.le_refl _))
      have x7' := hide (((unhide x5').below b6 (Nat.le_refl _)).mono (Nat.le_refl _) b6.size)
      clear x6 b6
      go_wp2_with fail
      refine (eqs_any _ _ _ _ A4 A6 l _ hl (unhide hs') (unhide x7') (unhide x6')).mono ?_
      rintro e w7 ⟨rfl, b7⟩
      have B7 := hide ((unhide B6).trans (b7.mono (unhide B6).size))
      clear b7
      go_wp2
      go_ret
      exact ⟨rfl, unhide B7⟩

set_option maxRecDepth 100000 in
theorem liftFind (os : Os) (started : os.Started) (H : Type) (enc : TypeId × Value → H) :
    ReturnsInHanded {} Try.checked os 9 .any (Rows.fnExactFindBoxSpec.pre6 enc Try.prog Try.f9 Rows.fnExactFindBoxRow.domain false) (Rows.fnExactFindBoxSpec.post enc Try.prog Try.f9 false true false false) := by
  refine returnsInHanded_of_change (C := Try.checked) own started (by kernel_rfl) Try.func9
    (ChangeSpec.witness6 (enc := enc) (C := Try.checked) false ⟨#[], #[.slice none 0 0, .string ByteArray.empty], []⟩ 8 (by kernel_rfl) (by kernel_rfl) (by kernel_rfl) (by kernel_rfl)) ?_
  intro W base args ds gs before hval0 hW hcnd _
  have hval : ∀ (j : Nat) t v, Try.f9.params[j]? = some t → args[j]? = some v → Value.okWide Try.prog W .any base t v := hval0
  have hW' := hW
  obtain ⟨p, q, hA0, hV, rfl, hfz, hnd⟩ := hW
  have hA : DataW.TrodAll enc Try.prog W 0 (fun _ => true) true Try.f9.params.toList args.toList ds p := hA0
  rw [Try.params9] at hA hval
  obtain ⟨v0, vs0, d0, ds0, p0, q0, hargs, rfl, rfl, h0, r0⟩ := trodAll_cons hA
  obtain ⟨v1, vs1, d1, ds1, p1, q1, rfl, rfl, rfl, h1, r1⟩ := trodAll_cons r0
  obtain ⟨rfl, rfl, rfl⟩ := trodAll_nil r1
  obtain rfl : args = #[v0, v1] := by cases args; simp_all
  obtain ⟨rfl, rfl⟩ := trodVars_none hV
  obtain ⟨a0, len0, cap0, rfl⟩ := okWide_slice Try.underlying39 (hval 0 39 v0 rfl rfl)
  have k0 := h0
  have lt0 : ∀ x ∈ p0, x.block < W.heap.size := by obtain ⟨m, hm⟩ := k0; exact DataW.trod_lt m _ _ _ hm
  obtain ⟨fuel0, hf0⟩ := h0
  obtain ⟨A0, l0, hl0, hm0, hr0⟩ := boxes_in hf0
  subst hl0
  obtain ⟨s1, rfl, rfl, rfl, hs1⟩ := open_string Try.underlying9 (hval 1 9 v1 rfl rfl) h1
  clear hA0 hval0
  refine (lawFind a0 cap0 A0 l0 hm0 s1 hs1 W hr0).mono fun e W' ⟨he, bel⟩ => ?_
  subst he
  exact ⟨_, rfl, _, _, _, [], _, [], hW', trodAll_mk1 (shut_bool Try.underlying4 _), (trodAll_cons_mk (Below.trod laidOut (by kernel_rfl) (of_decide_eq_true (by kernel_rfl)) k0 bel lt0) (trodAll_cons_mk (shut_string Try.underlying9 hs1) trodAll_mk0)), rfl, bel.frame _, fun h => by cases h⟩

theorem holdsFind : Rows.FnExactFindBoxSaid :=
  OpenClaim.holds_of_wide 9 Try.f9 rfl rfl rfl rfl rfl rfl rfl ⟨rfl, rfl, rfl, rfl, rfl⟩ rfl rfl rfl rfl rfl (by kernel_rfl) Try.func9 (by kernel_rfl)
    (of_decide_eq_true (by kernel_rfl)) (by unfold Func.isWrapper; first | (rw [if_pos (by decide +kernel)]; kernel_rfl) | (rw [if_neg (by decide +kernel)]; exact ⟨rfl, rfl⟩))
    (fun os started H enc _ => liftFind os started H enc)

#print axioms holdsFind
end Go.Proofs.Ytdiamcejpjopgaa
