/-
  FnPacked: for every code a package verifies what it was made of, and tells one byte turned, whatever goroutine comes when; no race; no conditions.
-/
import Derived.Test.YtghglpcfpokmhaaZFrameB
import Derived.Conc.Holds
import Derived.Conc.LeavingOf
namespace Go.Proofs.Ytghglpcfpokmhaa
open Go.ChangeShapes Go.WideShapes Go.ChangeAt Go.RowKit Go.Joins Go.Conc
open Go.Proofs.Ytghglpcfpokmhaa.Wk (Bel)
set_option linter.unusedVariables false
set_option linter.unusedSimpArgs false

/-- the program's variables are rows of cells at its start -/
theorem rows0 : ((List.range Try.prog.globals.size).all fun g => (((begin Try.prog (fun _ _ => 0) default).world.heap[g]?).bind Obj.row?).isSome) = true := by kernel_rfl
theorem gc_of {w : World} (h : w.ShapedOpen Try.prog) : Br.GC Try.prog w := by
  intro g hg
  have := List.all_eq_true.1 rows0 g (List.mem_range.2 hg)
  obtain ⟨⟨z, t⟩, hz⟩ := Option.isSome_iff_exists.1 this
  obtain ⟨cs, h1, _⟩ := h.1 g z t hg hz
  exact ⟨cs, t, _, h1⟩

theorem bel_kept {W w' : World} (h : Bel W.heap.size W w') (may : MemPlace → Prop) : W.keptBut w' may := by
  refine ⟨h.os, h.output, fun i hi => ?_⟩
  rw [h.block i hi]
  split <;> simp_all

/-- what is emptied in the view lies above the start: so the real world keeps what was there, too -/
theorem bel_real {W v w' : World} {S : Nat → Prop} (h : @Br.Hd ⟨W.heap.size⟩ S v w') (b : Bel W.heap.size W v) : Bel W.heap.size W w' := by
  letI : Br.Thr := ⟨W.heap.size⟩
  refine ⟨h.os.trans b.os, h.output.trans b.output, ?_, fun k hk => ?_⟩
  · have := h.size
    have hb := b.size
    simp only [World.at] at this
    omega
  · have hn : ¬ S k := fun hx => by
      have : W.heap.size ≤ k := h.thr k hx
      omega
    exact (h.out k hn).trans (b.block k hk)

set_option maxRecDepth 100000 in
theorem liftPq (os : Os) (started : os.Started) (H : Type) (enc : TypeId × Value → H) :
    ReturnsInLeavingWide {} Try.checked os 3 .any (Rows.fnPackedSpec.pre6 enc Try.prog Try.f3 Rows.fnPackedRow.domain false) (Rows.fnPackedSpec.post enc Try.prog Try.f3 false true false false) := by
  refine returnsInLeavingWide_of_good (C := Try.checked) own started
    (ChangeSpec.witness6 (enc := enc) (C := Try.checked) false ⟨#[], #[.slice none 0 0], []⟩ 8 (by kernel_rfl) (by kernel_rfl) (by kernel_rfl) (by kernel_rfl)) ?_
  intro w tape i _ hshape _ hok hpre _
  obtain ⟨_, _, _, fn', hfn', _, _, _, _, hval0⟩ := hok
  have e : fn' = Try.f3 := Option.some.inj (hfn'.symm.trans Try.func3)
  subst e
  obtain ⟨⟨ds, gs, before, hw, hcnd⟩, _⟩ := hpre
  have hW := DataW.Whole.of_heap (w' := w.forCall tape i) (by rfl) hw
  clear hw
  have hgc := gc_of hshape
  clear hshape
  generalize w.forCall tape i = W at *
  obtain ⟨iv, args, vars⟩ := i
  simp only at hval0 hW ⊢
  have hval : ∀ (j : Nat) t v, Try.f3.params[j]? = some t → args[j]? = some v → Value.okWide Try.prog W .any w.heap.size t v := hval0
  have hW' := hW
  obtain ⟨p, q, hA0, hV, rfl, hfz, hnd⟩ := hW
  have hA : DataW.TrodAll enc Try.prog W 0 (fun _ => true) true Try.f3.params.toList args.toList ds p := hA0
  rw [Try.params3] at hA hval
  obtain ⟨v0, vs0, d0, ds0, p0, q0, hargs, rfl, rfl, h0, r0⟩ := trodAll_cons hA
  obtain ⟨rfl, rfl, rfl⟩ := trodAll_nil r0
  obtain rfl : args = #[v0] := by cases args; simp_all
  obtain ⟨rfl, rfl⟩ := trodVars_none hV
  obtain ⟨a0, len0, cap0, rfl⟩ := okWide_slice Try.underlying22 (hval 0 22 v0 rfl rfl)
  have k0 := h0
  have lt0 : ∀ x ∈ p0, x.block < W.heap.size := by obtain ⟨m, hm⟩ := k0; exact DataW.trod_lt m _ _ _ hm
  obtain ⟨fuel0, hf0⟩ := h0
  have hr0 := rdb_in hf0
  clear hA0 hval0
  letI : Br.Thr := ⟨W.heap.size⟩
  obtain ⟨N, last, o, w', t', r1, r2, r3, r4⟩ := Br.good_of_bt (lawP a0 len0 cap0 W hgc (Nat.le_refl _) hr0)
  refine ⟨N, last, o, w', t', r1, r2, r3, r4.mono fun v hp => ?_⟩
  obtain ⟨S, vw, hhd, rfl, belv⟩ := hp
  have bel0 : Bel W.heap.size W w' := bel_real hhd belv
  have bel : Below W.heap.size W { w' with tape := W.tape } := ⟨bel0.os, rfl, bel0.output, bel0.size, bel0.block⟩
  refine ChangeSpec.post_blind ⟨_, _, _, [], _, [], hW', trodAll_mk1 (shut_bool Try.underlying4 _), DataW.TrodAll.of_heap (w := { w' with tape := W.tape }) (w' := w') rfl (trodAll_cons_mk (Below.trod laidOut (by kernel_rfl) (of_decide_eq_true (by kernel_rfl)) k0 bel lt0) trodAll_mk0), rfl, bel_kept bel0 _, fun h => by cases h⟩

theorem holdsPq : Rows.FnPackedSaid :=
  OpenClaim.holds_of_wide_leaving 3 Try.f3 rfl rfl rfl rfl rfl rfl rfl ⟨rfl, rfl, rfl, rfl, rfl⟩ rfl rfl rfl rfl rfl (by kernel_rfl) Try.func3 (by kernel_rfl)
    (of_decide_eq_true (by kernel_rfl)) (by unfold Func.isWrapper; first | (rw [if_pos (by decide +kernel)]; kernel_rfl) | (rw [if_neg (by decide +kernel)]; exact ⟨rfl, rfl⟩))
    (fun os started H enc _ => liftPq os started H enc)

#print axioms holdsPq
end Go.Proofs.Ytghglpcfpokmhaa
