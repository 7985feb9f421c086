/-
  How an argument that is a list of bytes is opened; no conditions.
  FnReused: for every code, on every schedule: a job takes nothing again; what is changed makes dirty just itself and what needs it, and all else is taken from before; no race; no conditions.
-/
import Derived.Test.YtpmmimcafkillaaRows
import Derived.ProofKit
import Derived.OpenShut
import Derived.ShutString
import Derived.ChangeOld
import Derived.Deep.Slices
import Derived.Deep.Strs
import Derived.Lib.SmallJoins
import Derived.Test.YtpmmimcafkillaaZUg
import Derived.Test.YtpmmimcafkillaaZVm
import Derived.Conc.HoldsTime
import Derived.Conc.LeavingOf
namespace Go.Proofs.Ytpmmimcafkillaa
open Go.ChangeShapes Go.WideShapes Go.ChangeAt Go.RowKit Go.Joins Go.Deep
set_option linter.unusedVariables false
set_option linter.unusedSimpArgs false
theorem own : ownKnob Try.prog.godebug = none := by kernel_rfl
theorem laidOut : laidOutB Try.prog = true := by kernel_rfl
theorem cells5 : Try.prog.cellsOf 5 = 1 := by kernel_rfl
theorem rdb_in {H : Type} {enc : TypeId × Value → H} {W : World} {fuel : Nat} {a : Option Addr} {len cap : Nat} {x : DataW H × List MemPlace}
    (h : DataW.trod enc Try.prog W 0 (fun _ => true) true fuel 22 [.slice a len cap] = some x) : RdB W W.heap.size a len := by
  rcases open_ints Try.underlying22 Try.underlying5 cells5 h with ⟨hcs, _⟩ | ⟨y, l, c, zs, hcs, _, hl, hm, hz, _, hcell, hwz⟩
  · simp at hcs
    obtain ⟨rfl, rfl, rfl⟩ := hcs
    intro j hj; omega
  · simp at hcs
    obtain ⟨rfl, rfl, rfl⟩ := hcs
    have hz' : zs.length = cap := by simpa using hz
    intro j hjl
    obtain ⟨z, hj⟩ : ∃ z, zs[j]? = some z := ⟨_, List.getElem?_eq_getElem (show j < zs.length by omega)⟩
    have h1 := hcell j (by omega)
    have h2 := World.cell?_spot (hcell 0 (by omega))
    obtain ⟨b, o, spot⟩ := y
    have hs : spot = none := by simpa [Addr.add] using h2
    subst hs
    have e : zs.getD j 0 = z := by rw [List.getD_eq_getElem?_getD, hj]; rfl
    rw [e, Addr.add_lit] at h1
    have h5 := bounds_u8 (hwz z (List.mem_of_getElem? hj))
    exact ⟨b, o, z, rfl, World.block_lt_of_cell? _ _ h1, h1, h5.1, by omega⟩
end Go.Proofs.Ytpmmimcafkillaa

namespace Go.Proofs.Ytpmmimcafkillaa
open Go.ChangeShapes Go.WideShapes Go.ChangeAt Go.RowKit Go.Joins Go.Conc
open Go.Proofs.Ytpmmimcafkillaa.Tr (BelL lawRe PostL)
set_option linter.unusedVariables false
set_option linter.unusedSimpArgs false

/-- the program's variables are rows of cells at its start -/
theorem rows0 : ((List.range Try.prog.globals.size).all fun g => (((begin Try.prog (fun _ _ => 0) default).world.heap[g]?).bind Obj.row?).isSome) = true := by kernel_rfl
theorem gc_of {w : World} (h : w.ShapedOpen Try.prog) : Br.GC Try.prog w := by
  intro g hg
  have := List.all_eq_true.1 rows0 g (List.mem_range.2 hg)
  obtain ⟨⟨z, t⟩, hz⟩ := Option.isSome_iff_exists.1 this
  obtain ⟨cs, h1, _⟩ := h.1 g z t hg hz
  exact ⟨cs, t, _, h1⟩
theorem belL_kept {W w' : World} (h : BelL W.heap.size W w') (may : MemPlace → Prop) : W.keptBut { w' with os := W.os } may := by
  obtain ⟨h1, h2, h3, h4⟩ := h
  have h4' : ∀ k, k < W.heap.size → ({ w' with os := W.os } : World).heap[k]? = W.heap[k]? := h4
  have h2' : ({ w' with os := W.os } : World).output = W.output := h2
  have h1' : ({ w' with os := W.os } : World).os = W.os := rfl
  generalize ({ w' with os := W.os } : World) = x at *
  refine ⟨h1', h2', fun i hi => ?_⟩
  rw [h4' i hi]
  split <;> simp_all
/-- what is emptied in the view lies above the start: so the real world keeps what was there, too -/
theorem belL_real {W v w' : World} {S : Nat → Prop} (h : @Br.Hd ⟨W.heap.size⟩ S v w') (b : BelL W.heap.size W v) : BelL W.heap.size W w' := by
  letI : Br.Thr := ⟨W.heap.size⟩
  have ho : w'.os = v.os := h.os
  refine ⟨by rw [ho]; exact b.os, h.output.trans b.output, ?_, fun k hk => ?_⟩
  · have := h.size
    have hb := b.size
    simp only [World.at] at this
    omega
  · have hn : ¬ S k := fun hx => by
      have : W.heap.size ≤ k := h.thr k hx
      omega
    exact (h.out k hn).trans (b.block k hk)

set_option maxRecDepth 100000 in
theorem liftRe (os : Os) (started : os.Started) (H : Type) (enc : TypeId × Value → H) (F : Stop.Interp) :
    ReturnsInLeavingWide { calm := true } Try.checked os 4 .any (Rows.fnReusedSpec.pre6 enc Try.prog Try.f4 Rows.fnReusedRow.domain false) ((OpenSpec.ofChange Rows.fnReusedSpec).postWith enc Try.prog Try.f4 F (outsideKept [.timePasses]) false true false) := by
  refine returnsInLeavingWide_of_good (C := Try.checked) own started
    (ChangeSpec.witness6c (enc := enc) (C := Try.checked) ⟨#[], #[.slice none 0 0], []⟩ 8 (by kernel_rfl) (by kernel_rfl) (by kernel_rfl) (by kernel_rfl)) ?_
  intro w tape i _ hshape _ hok hpre _
  obtain ⟨_, _, _, fn', hfn', _, _, _, _, hval0⟩ := hok
  have e : fn' = Try.f4 := Option.some.inj (hfn'.symm.trans Try.func4)
  subst e
  obtain ⟨⟨ds, gs, before, hw, hcnd⟩, _⟩ := hpre
  have hW := DataW.Whole.of_heap (w' := w.forCall tape i) (by rfl) hw
  clear hw
  have hgc := gc_of hshape
  clear hshape
  generalize w.forCall tape i = W at *
  obtain ⟨iv, args, vars⟩ := i
  simp only at hval0 hW ⊢
  have hval : ∀ (j : Nat) t v, Try.f4.params[j]? = some t → args[j]? = some v → Value.okWide Try.prog W .any w.heap.size t v := hval0
  have hW' := hW
  obtain ⟨p, q, hA0, hV, rfl, hfz, hnd⟩ := hW
  have hA : DataW.TrodAll enc Try.prog W 0 (fun _ => true) true Try.f4.params.toList args.toList ds p := hA0
  rw [Try.params4] at hA hval
  obtain ⟨v0, vs0, d0, ds0, p0, q0, hargs, rfl, rfl, h0, r0⟩ := trodAll_cons hA
  obtain ⟨rfl, rfl, rfl⟩ := trodAll_nil r0
  obtain rfl : args = #[v0] := by cases args; simp_all
  obtain ⟨rfl, rfl⟩ := trodVars_none hV
  obtain ⟨a0, len0, cap0, rfl⟩ := okWide_slice Try.underlying22 (hval 0 22 v0 rfl rfl)
  have k0 := h0
  have lt0 : ∀ x ∈ p0, x.block < W.heap.size := by obtain ⟨m, hm⟩ := k0; exact DataW.trod_lt m _ _ _ hm
  obtain ⟨fuel0, hf0⟩ := h0
  have hr0 := rdb_in hf0
  clear hA0 hval0
  letI : Br.Thr := ⟨W.heap.size⟩
  obtain ⟨N, last, o, w', t', r1, r2, r3, r4⟩ := Br.good_of_bt (lawRe a0 cap0 len0 hr0 hgc (Nat.le_refl _))
  refine ⟨N, last, o, w', t', r1, r2, r3, r4.mono fun v hp => ?_⟩
  obtain ⟨S, vw, hhd, rfl, belv⟩ := hp
  have bel0 : BelL W.heap.size W w' := belL_real hhd belv
  have bel : Below W.heap.size W { w' with tape := W.tape, os := W.os } := ⟨rfl, rfl, bel0.output, bel0.size, bel0.block⟩
  refine postWith_blind (postWith_of_post ?_ bel0.os)
  exact ⟨_, _, _, [], _, [], hW', trodAll_mk1 (shut_bool Try.underlying4 _), DataW.TrodAll.of_heap (w := { w' with tape := W.tape, os := W.os }) (w' := { w' with os := W.os }) rfl (trodAll_cons_mk (Below.trod laidOut (by kernel_rfl) (of_decide_eq_true (by kernel_rfl)) k0 bel lt0) trodAll_mk0), rfl, belL_kept bel0 _, fun h => by cases h⟩

theorem holdsRe : Rows.FnReusedSaid :=
  OpenClaim.holds_of_wide_leaving_time 4 Try.f4 rfl rfl rfl rfl rfl rfl rfl ⟨rfl, rfl, rfl, rfl, rfl⟩ rfl rfl rfl rfl rfl (by kernel_rfl) Try.func4 (by kernel_rfl)
    (of_decide_eq_true (by kernel_rfl)) (by unfold Func.isWrapper; first | (rw [if_pos (by decide +kernel)]; kernel_rfl) | (rw [if_neg (by decide +kernel)]; exact ⟨rfl, rfl⟩))
    (fun os started H enc _ F => liftRe os started H enc F)

#print axioms holdsRe
end Go.Proofs.Ytpmmimcafkillaa
