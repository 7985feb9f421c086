/-
  For every rate and every text, TimeRead of the program answers as its model does, and the law's arguments read behind the call as they read before; no conditions.
-/
import Derived.Test.YtffibbcombjkcaaFrame
import Derived.Test.YtffibbcombjkcaaIRd
import Derived.Test.YtffibbcombjkcaaSRd
namespace Go.Proofs.Ytffibbcombjkcaa
open Go.ChangeShapes Go.WideShapes Go.ChangeAt Go.RowKit Go.Joins
open Go.ChangeMaps (open_string shut_string)
set_option linter.unusedVariables false

set_option maxHeartbeats 800000 in
theorem lawRead (n d : Int) (dr : Bool) (s : ByteArray) (hs : s.size ≤ maxLen) (w : World) :
    Calls Try.prog 8 #[.agg #[.int .i64 n, .int .i64 d, .bool dr], .string s] w fun e w' => e = .returned (.bool true) ∧ Below w.heap.size w w' := by
  have hs' := hide hs
  unfold maxLen at hs
  by_cases hbig : (1048576 : Int) < (s.size : Int)
  · go_enter Try.func8, Try.ntmps8
    go_wp2
    go_ret
    exact ⟨rfl, (Below.refl _ _).alloc (Nat.le_refl _) _⟩
  · go_enter Try.func8, Try.ntmps8
    go_wp2_with fail
    refine (to_any n d dr _).mono ?_
    rintro e w1 ⟨rfl, hb1⟩
    have hc1 := (bcell hb1).1
    go_wp2_with fail
    refine (srd_any n d dr s _ (unhide hs')).mono ?_
    rintro e w2 ⟨x1, ok1, rfl, hR1, hb2⟩
    have hR1' := hide hR1
    clear hR1
    have hc2 := (bcell hb2).1
    have hz1 : w.heap.size < w1.heap.size := by have := hb1.size; simp at this; omega
    have hz2 : w1.heap.size ≤ w2.heap.size := hb2.size
    go_wp2_with fail
    refine (to_any n d dr _).mono ?_
    rintro e w3 ⟨rfl, hb3⟩
    go_wp2_with fail
    refine (ird_any n d dr s _ (unhide hs')).mono ?_
    rintro e w4 ⟨x2, ok2, rfl, hR2, hb4⟩
    obtain ⟨e1, e2⟩ := Pl.RD_one (unhide hR1') hR2
    subst e1 e2
    clear hR2
    have hxx : (x1 != x1) = false := by simp
    have hoo : (ok1 != ok1) = false := by simp
    have b1 : Below w.heap.size w w1 := below_box hb1
    have b2 : Below w.heap.size w w2 := b1.trans (hb2.mono (by omega))
    have b3 : Below w.heap.size w w3 := b2.trans (hb3.mono (by omega))
    have hz3 : w2.heap.size ≤ w3.heap.size := hb3.size
    go_wp2
    go_ret
    exact ⟨rfl, b3.trans (hb4.mono (by omega))⟩

set_option maxRecDepth 100000 in
theorem liftRead (os : Os) (started : os.Started) (H : Type) (enc : TypeId × Value → H) :
    ReturnsInHanded {} Try.checked os 8 .any (Rows.fnExactTimeReadSpec.pre6 enc Try.prog Try.f8 Rows.fnExactTimeReadRow.domain false) (Rows.fnExactTimeReadSpec.post enc Try.prog Try.f8 false true false false) := by
  refine returnsInHanded_of_change (C := Try.checked) own started (by kernel_rfl) Try.func8
    (ChangeSpec.witness6 (enc := enc) (C := Try.checked) false ⟨#[], #[.agg #[.int .i64 0, .int .i64 0, .bool false], .string ByteArray.empty], []⟩ 8 (by kernel_rfl) (by kernel_rfl) (by kernel_rfl) (by kernel_rfl)) ?_
  intro W base args ds gs before hval0 hW hcnd _
  have hval : ∀ (j : Nat) t v, Try.f8.params[j]? = some t → args[j]? = some v → Value.okWide Try.prog W .any base t v := hval0
  have hW' := hW
  obtain ⟨p, q, hA0, hV, rfl, hfz, hnd⟩ := hW
  have hA : DataW.TrodAll enc Try.prog W 0 (fun _ => true) true Try.f8.params.toList args.toList ds p := hA0
  rw [Try.params8] at hA hval
  obtain ⟨v0, vs0, d0, ds0, p0, q0, hargs, rfl, rfl, h0, r0⟩ := trodAll_cons hA
  obtain ⟨v1, vs1, d1, ds1, p1, q1, rfl, rfl, rfl, h1, r1⟩ := trodAll_cons r0
  obtain ⟨rfl, rfl, rfl⟩ := trodAll_nil r1
  obtain rfl : args = #[v0, v1] := by cases args; simp_all
  obtain ⟨rfl, rfl⟩ := trodVars_none hV
  have k0 := h0
  have lt0 : ∀ x ∈ p0, x.block < W.heap.size := by obtain ⟨m, hm⟩ := k0; exact DataW.trod_lt m _ _ _ hm
  obtain ⟨c00, c01, c02, y00, y01, y02, m0, rfl, hd0, hp0, hy00, hy01, hy02⟩ := open_agg3 Try.underlying35 (by kernel_rfl) cells35 (hval 0 35 v0 rfl rfl) h0
  obtain ⟨n0, e00, _, wn0⟩ := DataW.trod_int Try.underlying2 hy00
  obtain ⟨m0', e01, _, wm0⟩ := DataW.trod_int Try.underlying2 hy01
  obtain ⟨b0, e02, _⟩ := DataW.trod_bool Try.underlying4 hy02
  simp at e00 e01 e02
  subst e00 e01 e02
  obtain ⟨s1, rfl, rfl, rfl, hs1⟩ := open_string Try.underlying9 (hval 1 9 v1 rfl rfl) h1
  clear hA0 hval0
  refine (lawRead n0 m0' b0 s1 hs1 W).mono fun e W' ⟨he, bel⟩ => ?_
  subst he
  exact ⟨_, rfl, _, _, _, [], _, [], hW', trodAll_mk1 (shut_bool Try.underlying4 _), (trodAll_cons_mk (Below.trod laidOut (by kernel_rfl) (of_decide_eq_true (by kernel_rfl)) k0 bel lt0) (trodAll_cons_mk (shut_string Try.underlying9 hs1) trodAll_mk0)), rfl, bel.frame _, fun h => by cases h⟩

theorem holdsRead : Rows.FnExactTimeReadSaid :=
  OpenClaim.holds_of_wide 8 Try.f8 rfl rfl rfl rfl rfl rfl rfl ⟨rfl, rfl, rfl, rfl, rfl⟩ rfl rfl rfl rfl rfl (by kernel_rfl) Try.func8 (by kernel_rfl)
    (of_decide_eq_true (by kernel_rfl)) (by unfold Func.isWrapper; first | (rw [if_pos (by decide +kernel)]; kernel_rfl) | (rw [if_neg (by decide +kernel)]; exact ⟨rfl, rfl⟩))
    (fun os started H enc _ => liftRead os started H enc)

#print axioms holdsRead
end Go.Proofs.Ytffibbcombjkcaa
