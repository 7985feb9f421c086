/-
  For every two lists of assets Update of the program answers as its model does; the lists read behind the call as they read before, and the answers own their memory, behind another call too; nobody else is there, no race; no conditions.
-/
import Derived.Test.YtpdnceeniokemaaLawUp
import Derived.Test.YtpdnceeniokemaaFrameA
import Derived.Test.YtpdnceeniokemaaLg
namespace Go.Proofs.Ytpdnceeniokemaa
open Go.ChangeShapes Go.WideShapes Go.ChangeAt Go.RowKit Go.Joins Go.Conc
set_option linter.unusedVariables false
set_option linter.unusedSimpArgs false

set_option maxRecDepth 100000 in
theorem liftUp (os : Os) (started : os.Started) (H : Type) (enc : TypeId × Value → H) :
    ReturnsInLeavingWide {} Try.checked os 8 .any (Rows.fnExactUpdateSpec.pre6 enc Try.prog Try.f8 Rows.fnExactUpdateRow.domain false) (Rows.fnExactUpdateSpec.post enc Try.prog Try.f8 false true false false) := by
  refine returnsInLeavingWide_of_good (C := Try.checked) own started
    (ChangeSpec.witness6 (enc := enc) (C := Try.checked) false ⟨#[], #[.slice none 0 0, .slice none 0 0], []⟩ 8 (by kernel_rfl) (by kernel_rfl) (by kernel_rfl) (by kernel_rfl)) ?_
  intro w tape i _ hshape _ hok hpre _
  obtain ⟨_, _, _, fn', hfn', _, _, _, _, hval0⟩ := hok
  have e : fn' = Try.f8 := Option.some.inj (hfn'.symm.trans Try.func8)
  subst e
  obtain ⟨⟨ds, gs, before, hw, hcnd⟩, _⟩ := hpre
  have hW := DataW.Whole.of_heap (w' := w.forCall tape i) (by rfl) hw
  clear hw hshape
  generalize w.forCall tape i = W at *
  obtain ⟨iv, args, vars⟩ := i
  simp only at hval0 hW ⊢
  have hval : ∀ (j : Nat) t v, Try.f8.params[j]? = some t → args[j]? = some v → Value.okWide Try.prog W .any w.heap.size t v := hval0
  have hW' := hW
  obtain ⟨p, q, hA0, hV, rfl, hfz, hnd⟩ := hW
  have hA : DataW.TrodAll enc Try.prog W 0 (fun _ => true) true Try.f8.params.toList args.toList ds p := hA0
  rw [Try.params8] at hA hval
  obtain ⟨v0, vs0, d0, ds0, p0, q0, hargs, rfl, rfl, h0, r0⟩ := trodAll_cons hA
  obtain ⟨v1, vs1, d1, ds1, p1, q1, rfl, rfl, rfl, h1, r1⟩ := trodAll_cons r0
  obtain ⟨rfl, rfl, rfl⟩ := trodAll_nil r1
  obtain rfl : args = #[v0, v1] := by cases args; simp_all
  obtain ⟨rfl, rfl⟩ := trodVars_none hV
  obtain ⟨a0, len0, cap0, rfl⟩ := okWide_slice Try.underlying34 (hval 0 34 v0 rfl rfl)
  have k0 := h0
  have lt0 : ∀ x ∈ p0, x.block < W.heap.size := by obtain ⟨m, hm⟩ := k0; exact DataW.trod_lt m _ _ _ hm
  obtain ⟨fuel0, hf0⟩ := h0
  obtain ⟨l0, hl0, hm0, hr0, hz0⟩ := kls_in hf0
  subst hl0
  obtain ⟨a1, len1, cap1, rfl⟩ := okWide_slice Try.underlying34 (hval 1 34 v1 rfl rfl)
  have k1 := h1
  have lt1 : ∀ x ∈ p1, x.block < W.heap.size := by obtain ⟨m, hm⟩ := k1; exact DataW.trod_lt m _ _ _ hm
  obtain ⟨fuel1, hf1⟩ := h1
  obtain ⟨l1, hl1, hm1, hr1, hz1⟩ := kls_in hf1
  subst hl1
  clear hA0 hval0
  have hC := lawUp a0 cap0 l0 hm0 hr0 hz0 a1 cap1 l1 hm1 hr1 hz1
  obtain ⟨N, last, o, w', t', r1, r2, r3, r4⟩ := good_of_calls (R := fun v w' => v = .bool true ∧ Below W.heap.size W w') (hC.mono fun e w' hp => by
    obtain ⟨rfl, bel⟩ := hp
    exact ⟨rfl, bel⟩) (by kernel_rfl)
  refine ⟨N, last, o, w', t', r1, r2, r3, r4.mono fun v hp => ?_⟩
  obtain ⟨rfl, bel⟩ := hp
  refine ChangeSpec.post_blind ⟨_, _, _, [], _, [], hW', trodAll_mk1 (shut_bool Try.underlying4 _), (trodAll_cons_mk (Below.trod laidOut (by kernel_rfl) (of_decide_eq_true (by kernel_rfl)) k0 bel lt0) (trodAll_cons_mk (Below.trod laidOut (by kernel_rfl) (of_decide_eq_true (by kernel_rfl)) k1 bel lt1) trodAll_mk0)), rfl, bel.frame _, fun h => by cases h⟩

theorem holdsUp : Rows.FnExactUpdateSaid :=
  OpenClaim.holds_of_wide_leaving 8 Try.f8 rfl rfl rfl rfl rfl rfl rfl ⟨rfl, rfl, rfl, rfl, rfl⟩ rfl rfl rfl rfl rfl (by kernel_rfl) Try.func8 (by kernel_rfl)
    (of_decide_eq_true (by kernel_rfl)) (by unfold Func.isWrapper; first | (rw [if_pos (by decide +kernel)]; kernel_rfl) | (rw [if_neg (by decide +kernel)]; exact ⟨rfl, rfl⟩))
    (fun os started H enc _ => liftUp os started H enc)

#print axioms holdsUp
end Go.Proofs.Ytpdnceeniokemaa
