/-
  Contract of a number turned by a root; nothing that was there is written.
-/
import Derived.Test.YtmhciigjjamjkaaWv
namespace Go.Proofs.Ytmhciigjjamjkaa
open Go.RowKit
set_option linter.unusedVariables false
set_option linter.unusedSimpArgs false

set_option maxHeartbeats 1600000 in
theorem turned_gen (a b c d : Nat) (t0 t1 t2 t3 : Bool) (e0 : (FloatKind.f64.format.order c 4607182418800017408 == some Ordering.eq && FloatKind.f64.format.order d 0 == some Ordering.eq) = t0) (e1 : (FloatKind.f64.format.order c 13830554455654793216 == some Ordering.eq && FloatKind.f64.format.order d 0 == some Ordering.eq) = t1) (e2 : (FloatKind.f64.format.order c 0 == some Ordering.eq && FloatKind.f64.format.order d 4607182418800017408 == some Ordering.eq) = t2) (e3 : (FloatKind.f64.format.order c 0 == some Ordering.eq && FloatKind.f64.format.order d 13830554455654793216 == some Ordering.eq) = t3) (w : World) :
    Calls Try.prog 9 #[.complex .f64 a b, .complex .f64 c d] w fun e w' => ∃ re im, e = .returned (.complex .f64 re im) ∧ Hid (CPr a b c d re im) ∧ Below w.heap.size w w' := by
  have M' := hide (fun w => cmv_cpr a b c d w)
  cases t0 with
  | true =>
    clear e1 e2 e3
    go_enter Try.func9, Try.ntmps9
    go_wp2
    go_ret
    exact ⟨_, _, rfl, hide (unhide M' _), below_drew _⟩
  | false =>
    cases t1 with
    | true =>
      clear e2 e3
      go_enter Try.func9, Try.ntmps9
      go_wp2
      go_ret
      exact ⟨_, _, rfl, hide (unhide M' _), below_drew _⟩
    | false =>
      cases t2 with
      | true =>
        clear e3
        go_enter Try.func9, Try.ntmps9
        go_wp2
        go_ret
        exact ⟨_, _, rfl, hide (unhide M' _), below_drew _⟩
      | false =>
        cases t3 with
        | true =>
          go_enter Try.func9, Try.ntmps9
          go_wp2
          go_ret
          exact ⟨_, _, rfl, hide (unhide M' _), below_drew _⟩
        | false =>
          go_enter Try.func9, Try.ntmps9
          go_wp2_with (go_at_call 13; refine (prod2_any a b c d _).mono ?_; rintro e w1 ⟨re, im, rfl, hc, hb⟩)
          go_ret
          exact ⟨_, _, rfl, hc, hb⟩

theorem turned_any (a b k : Nat) (w : World) : Calls Try.prog 9 #[.complex .f64 a b, .complex .f64 (rt k).1 (rt k).2] w fun e w' => ∃ re im, e = .returned (.complex .f64 re im) ∧ Hid (CPr a b (rt k).1 (rt k).2 re im) ∧ Below w.heap.size w w' :=
  turned_gen a b _ _ _ _ _ _ rfl rfl rfl rfl w

end Go.Proofs.Ytmhciigjjamjkaa
