/-
  For every list of boxes, ShowBoxes of the program answers as its model does, its answer is its own, and the law's arguments read behind the call as they read before; no conditions.
-/
import Derived.Test.YtdiamcejpjopgaaFrame
import Derived.Test.YtdiamcejpjopgaaSShow2
namespace Go.Proofs.Ytdiamcejpjopgaa
open Go.ChangeShapes Go.WideShapes Go.ChangeAt Go.RowKit Go.Joins
open Go.ChangeMaps (open_string shut_string)
set_option linter.unusedVariables false
set_option linter.unusedSimpArgs false

theorem Only.same2 {S : Nat → Prop} {w w' : World} {lo hi : Nat} (h : Only S w w') (hi' : hi ≤ w.heap.size) (hS : ∀ b, lo ≤ b → b < hi → ¬ S b) : Same lo hi w w' := fun b h0 h1 => h.2.2.2.2 b (by omega) (hS b h0 h1)

set_option maxRecDepth 100000 in
set_option maxHeartbeats 1600000 in
theorem lawShow (a : Option Addr) (cap : Nat) (A : Nat → Option Addr × Nat) (l : List Bx) (hm : l.length ≤ maxLen) (w : World) (hr : Bxs false 0 w.heap.size w a A l) :
    Calls Try.prog 6 #[.slice a l.length cap] w fun e w' => e = .returned (.bool true) ∧ Below w.heap.size w w' := by
  have hr' := hide hr
  have hm' := hide hm
  have hbz := hide (sh_bd l hr.bds)
  have hnl := sh_len l
  obtain ⟨Z, hZ⟩ : ∃ Z, sh l = Z := ⟨_, rfl⟩
  rw [hZ] at hbz hnl
  have hZ' := hide hZ
  clear hr hm hZ
  go_enter Try.func6, Try.ntmps6
  go_wp2_with fail
  refine (szs2_any a cap A l _ (unhide hm') (unhide hr')).mono ?_
  rintro e w1 ⟨r, rfl, hq, b1⟩
  have b1' := hide b1
  have z1 := b1.size
  clear b1
  rcases hq with rfl | ⟨r0, hl, hs, htot⟩
  · go_wp2
    go_ret
    exact ⟨rfl, unhide b1'⟩
  · have hn : ¬ r < 0 := by omega
    have hs' := hide hs
    have hek : endK 1 l ≤ 1000000000 := by rw [endK_eq]; omega
    have hr1 := hide (((unhide hr').below (unhide b1') (Nat.le_refl _)).mono (Nat.le_refl _) (unhide b1').size)
    clear hs
    go_wp2_with fail
    refine (tos2_any a cap A l _ hl (unhide hs') (unhide hr1)).mono ?_
    rintro e w2 ⟨g2, A2, rfl, hg2, x2, ⟨_, hA2⟩, b2⟩
    have z2 := b2.size
    have B2 := hide ((unhide b1').trans (b2.mono z1))
    have x2' := hide (x2.read.mono (Nat.zero_le _) (Nat.le_refl _))
    have hA2' := hide hA2
    clear x2 b2 hA2 b1' hr1
    go_wp2_with fail
    refine (sshow_any _ _ A2 l _ hl (unhide hs') (Nat.le_refl _) hl (unhide hA2') (unhide x2')).mono ?_
    rintro e w3 ⟨gs, cs, rfl, own3, b3⟩
    rw [unhide hZ'] at own3 ⊢
    have z3 := b3.size
    have lt3 : gs < w3.heap.size := (own3.lt gs rfl).2
    have S3 := hide ((row_of_own own3 (unhide hbz)).read)
    have B3 := hide ((unhide B2).trans (b3.mono (by omega)))
    have hr3 := hide (((unhide hr').below (unhide B3) (Nat.le_refl _)).mono (Nat.le_refl _) (unhide B3).size)
    clear own3 b3 x2' hA2' B2
    go_wp2_with fail
    refine (tos2_any a cap A l _ hl (unhide hs') (unhide hr3)).mono ?_
    rintro e w4 ⟨g4, A4, rfl, hg4, x4, ⟨d4, hA4⟩, b4⟩
    have z4 := b4.size
    have B4 := hide ((unhide B3).trans (b4.mono (by omega)))
    have Y4 := hide x4
    have D4 := hide d4
    have hA4' := hide hA4
    have S4 := hide ((unhide S3).below b4 (by omega))
    clear x4 b4 d4 hA4 B3 S3 hr3
    go_wp2_with fail
    refine (ishow_any _ _ A4 l _ hl (unhide hs') (Nat.le_refl _) hl (unhide hA4') ((unhide Y4).read.mono (Nat.zero_le _) (Nat.le_refl _))).mono ?_
    rintro e w5 ⟨gi, ci, rfl, own5, b5⟩
    rw [unhide hZ'] at own5 ⊢
    have z5 := b5.size
    have lt5 : gi < w5.heap.size := (own5.lt gi rfl).2
    have ge5 : w4.heap.size ≤ gi := (own5.lt gi rfl).1
    have R5 := hide (row_of_own own5 (unhide hbz))
    have B5 := hide ((unhide B4).trans (b5.mono (by omega)))
    have Y5 := hide ((unhide Y4).below b5 (by omega))
    have S5 := hide ((unhide S4).below b5 (by omega))
    clear own5 b5 B4 Y4 S4 hA4'
    go_wp2_with fail
    refine (eqb_any _ _ _ _ Z _ (by omega) ((unhide R5).read.mono (Nat.zero_le _) (by omega)) ((unhide S5).mono (Nat.zero_le _) (by omega))).mono ?_
    rintro e w6 ⟨rfl, nq, e6⟩
    have b6 : Below w5.heap.size w5 w6 := by rw [e6]; exact below_drewN (Below.refl _ _) nq
    have z6 := b6.size
    have B6 := hide ((unhide B5).trans (b6.mono (by omega)))
    have Y6 := hide ((unhide Y5).below b6 (by omega))
    have S6 := hide ((unhide S5).below b6 (by omega))
    have R6 := hide ((unhide R5).below b6 (by omega))
    have hr6 := hide (((unhide hr').below (unhide B6) (Nat.le_refl _)).mono (Nat.le_refl _) (unhide B6).size)
    clear b6 e6 B5 Y5 S5 R5
    go_wp2_with fail
    refine (tos2_any a cap A l _ hl (unhide hs') (unhide hr6)).mono ?_
    rintro e w7 ⟨g7, A7, rfl, hg7, x7, _, b7⟩
    have z7 := b7.size
    have B7 := hide ((unhide B6).trans (b7.mono (by omega)))
    have Y7 := hide ((unhide Y6).below b7 (by omega))
    have S7 := hide ((unhide S6).below b7 (by omega))
    have R7 := hide ((unhide R6).below b7 (by omega))
    have x7' := hide (x7.read.mono (Nat.zero_le _) (Nat.le_refl _))
    clear x7 b7 B6 Y6 S6 R6 hr6
    go_wp2_with fail
    refine (eqs_any _ _ _ _ A4 A7 l _ hl (unhide hs') ((unhide Y7).read.mono (Nat.zero_le _) (by omega)) (unhide x7')).mono ?_
    rintro e w8 ⟨rfl, b8⟩
    have z8 := b8.size
    have B8 := hide ((unhide B7).trans (b8.mono (by omega)))
    have Y8 := hide ((unhide Y7).below b8 (by omega))
    have S8 := hide ((unhide S7).below b8 (by omega))
    have R8 := hide ((unhide R7).below b8 (by omega))
    clear b8 B7 Y7 S7 R7 x7'
    go_wp2_with fail
    refine (markx_any w3.heap.size w4.heap.size _ _ A4 l 1 _ hl (unhide hs') (by omega) hek (by omega) (unhide Y8) (unhide D4)).mono ?_
    rintro e w9 ⟨rfl, _, o9⟩
    have z9 := o9.size
    have B9 := hide ((unhide B8).trans (o9.below (B := w.heap.size) (by omega) (fun k hk hS => by have := hS.1; omega)))
    have S9 := hide ((unhide S8).same (o9.same2 (by omega) (fun b _ hb hS => by have := hS.1; omega)))
    have R9 := hide ((unhide R8).same (o9.same2 (by omega) (fun b hb _ hS => by have := hS.2; omega)))
    have hk9 : ¬ ((endK 1 l : Nat) : Int) < 0 := by omega
    clear o9 B8 Y8 S8 R8
    go_wp2_with fail
    refine (eqb_any _ _ _ _ Z _ (by omega) ((unhide R9).read.mono (Nat.zero_le _) (by omega)) ((unhide S9).mono (Nat.zero_le _) (by omega))).mono ?_
    rintro e w10 ⟨rfl, nq2, e10⟩
    have b10 : Below w9.heap.size w9 w10 := by rw [e10]; exact below_drewN (Below.refl _ _) nq2
    have z10 := b10.size
    have B10 := hide ((unhide B9).trans (b10.mono (by omega)))
    have S10 := hide ((unhide S9).below b10 (by omega))
    have R10 := hide ((unhide R9).below b10 (by omega))
    clear b10 e10 B9 S9 R9
    go_wp2_with fail
    refine (markb_any gi (gi + 1) _ _ Z 1 _ (by omega) (by omega) (by omega) (unhide R10)).mono ?_
    rintro e w11 ⟨rfl, m11, o11⟩
    have z11 := o11.size
    have M11 := hide (m11.read.mono (Nat.zero_le _) (Nat.le_refl _))
    have B11 := hide ((unhide B10).trans (o11.below (B := w.heap.size) (by omega) (fun k hk hS => by have := hS.2.1; omega)))
    have S11 := hide ((unhide S10).same (o11.same2 (by omega) (fun b _ hb hS => by have := hS.2.1; omega)))
    clear o11 m11 B10 S10 R10
    go_wp2_with fail
    refine (heldb_any _ _ Z.length (gi + 1) 1 _ (by omega) (by omega) (by omega) (unhide M11)).mono ?_
    rintro e w11b ⟨rfl, rfl⟩
    have hk11 : ¬ (1 : Int) + (Z.length : Int) < 0 := by omega
    have hr11 := hide (((unhide hr').below (unhide B11) (Nat.le_refl _)).mono (Nat.le_refl _) (unhide B11).size)
    go_wp2_with fail
    refine (tos2_any a cap A l _ hl (unhide hs') (unhide hr11)).mono ?_
    rintro e w12 ⟨g12, A12, rfl, hg12, x12, ⟨_, hA12⟩, b12⟩
    have z12 := b12.size
    have B12 := hide ((unhide B11).trans (b12.mono (by omega)))
    have S12 := hide ((unhide S11).below b12 (by omega))
    have M12 := hide ((unhide M11).below b12 (by omega))
    have x12' := hide (x12.read.mono (Nat.zero_le _) (Nat.le_refl _))
    have hA12' := hide hA12
    clear x12 b12 hA12 B11 S11 M11 hr11
    go_wp2_with fail
    refine (ishow_any _ _ A12 l _ hl (unhide hs') (Nat.le_refl _) hl (unhide hA12') (unhide x12')).mono ?_
    rintro e w13 ⟨gh, ch, rfl, own13, b13⟩
    rw [unhide hZ'] at own13 ⊢
    have z13 := b13.size
    have lt13 : gh < w13.heap.size := (own13.lt gh rfl).2
    have U13 := hide ((row_of_own own13 (unhide hbz)).read)
    have B13 := hide ((unhide B12).trans (b13.mono (by omega)))
    have S13 := hide ((unhide S12).below b13 (by omega))
    have M13 := hide ((unhide M12).below b13 (by omega))
    clear own13 b13 B12 S12 M12 x12' hA12'
    go_wp2_with fail
    refine (eqb_any _ _ _ _ Z _ (by omega) ((unhide U13).mono (Nat.zero_le _) (by omega)) ((unhide S13).mono (Nat.zero_le _) (by omega))).mono ?_
    rintro e w14 ⟨rfl, nq3, e14⟩
    have b14 : Below w13.heap.size w13 w14 := by rw [e14]; exact below_drewN (Below.refl _ _) nq3
    have B14 := hide ((unhide B13).trans (b14.mono (by omega)))
    have M14 := hide ((unhide M13).below b14 (by omega))
    clear b14 e14 B13 S13 M13 U13
    go_wp2_with fail
    refine (heldb_any _ _ Z.length (gi + 1) 1 _ (by omega) (by omega) (by omega) (unhide M14)).mono ?_
    rintro e w14b ⟨rfl, rfl⟩
    go_wp2
    go_ret
    exact ⟨rfl, unhide B14⟩

set_option maxRecDepth 100000 in
theorem liftShow (os : Os) (started : os.Started) (H : Type) (enc : TypeId × Value → H) :
    ReturnsInHanded {} Try.checked os 6 .any (Rows.fnExactShowBoxesSpec.pre6 enc Try.prog Try.f6 Rows.fnExactShowBoxesRow.domain false) (Rows.fnExactShowBoxesSpec.post enc Try.prog Try.f6 false true false false) := by
  refine returnsInHanded_of_change (C := Try.checked) own started (by kernel_rfl) Try.func6
    (ChangeSpec.witness6 (enc := enc) (C := Try.checked) false ⟨#[], #[.slice none 0 0], []⟩ 8 (by kernel_rfl) (by kernel_rfl) (by kernel_rfl) (by kernel_rfl)) ?_
  intro W base args ds gs before hval0 hW hcnd _
  have hval : ∀ (j : Nat) t v, Try.f6.params[j]? = some t → args[j]? = some v → Value.okWide Try.prog W .any base t v := hval0
  have hW' := hW
  obtain ⟨p, q, hA0, hV, rfl, hfz, hnd⟩ := hW
  have hA : DataW.TrodAll enc Try.prog W 0 (fun _ => true) true Try.f6.params.toList args.toList ds p := hA0
  rw [Try.params6] at hA hval
  obtain ⟨v0, vs0, d0, ds0, p0, q0, hargs, rfl, rfl, h0, r0⟩ := trodAll_cons hA
  obtain ⟨rfl, rfl, rfl⟩ := trodAll_nil r0
  obtain rfl : args = #[v0] := by cases args; simp_all
  obtain ⟨rfl, rfl⟩ := trodVars_none hV
  obtain ⟨a0, len0, cap0, rfl⟩ := okWide_slice Try.underlying39 (hval 0 39 v0 rfl rfl)
  have k0 := h0
  have lt0 : ∀ x ∈ p0, x.block < W.heap.size := by obtain ⟨m, hm⟩ := k0; exact DataW.trod_lt m _ _ _ hm
  obtain ⟨fuel0, hf0⟩ := h0
  obtain ⟨A0, l0, hl0, hm0, hr0⟩ := boxes_in hf0
  subst hl0
  clear hA0 hval0
  refine (lawShow a0 cap0 A0 l0 hm0 W hr0).mono fun e W' ⟨he, bel⟩ => ?_
  subst he
  exact ⟨_, rfl, _, _, _, [], _, [], hW', trodAll_mk1 (shut_bool Try.underlying4 _), (trodAll_cons_mk (Below.trod laidOut (by kernel_rfl) (of_decide_eq_true (by kernel_rfl)) k0 bel lt0) trodAll_mk0), rfl, bel.frame _, fun h => by cases h⟩

theorem holdsShow : Rows.FnExactShowBoxesSaid :=
  OpenClaim.holds_of_wide 6 Try.f6 rfl rfl rfl rfl rfl rfl rfl ⟨rfl, rfl, rfl, rfl, rfl⟩ rfl rfl rfl rfl rfl (by kernel_rfl) Try.func6 (by kernel_rfl)
    (of_decide_eq_true (by kernel_rfl)) (by unfold Func.isWrapper; first | (rw [if_pos (by decide +kernel)]; kernel_rfl) | (rw [if_neg (by decide +kernel)]; exact ⟨rfl, rfl⟩))
    (fun os started H enc _ => liftShow os started H enc)

#print axioms holdsShow

end Go.Proofs.Ytdiamcejpjopgaa
