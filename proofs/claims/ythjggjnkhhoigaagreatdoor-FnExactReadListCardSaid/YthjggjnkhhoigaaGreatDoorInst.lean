/-
  Contracts of Instant and FrameIn, of the program and of its model, for every argument: what each answers, and that nothing that was there is written.
-/
import Derived.Test.YthjggjnkhhoigaaGreatDoorBase
namespace Go.Proofs.YthjggjnkhhoigaaGreatDoor
open Go.RowKit
set_option linter.unusedVariables false

theorem frame_val (k : Nat) (hk : ∀ (f : Int) (w : World), Calls Tryz.prog k #[.int .i64 f] w fun e w' => e = .returned (.bool (Pl.isf f)) ∧ w' = w) (f : Int) (v : Bool) (hv : Pl.isf f = v) (w : World) :
    Calls Tryz.prog k #[.int .i64 f] w fun e w' => e = .returned (.bool v) ∧ w' = w := by subst hv; exact hk f w
theorem rok_val (k : Nat) (hk : ∀ (n d : Int) (dr : Bool) (w : World), Calls Tryz.prog k #[.agg #[.int .i64 n, .int .i64 d, .bool dr]] w fun e w' => e = .returned (.bool (Pl.rok n d dr)) ∧ Below w.heap.size w w') (n d : Int) (dr : Bool) (v : Bool) (hv : Pl.rok n d dr = v) (w : World) :
    Calls Tryz.prog k #[.agg #[.int .i64 n, .int .i64 d, .bool dr]] w fun e w' => e = .returned (.bool v) ∧ Below w.heap.size w w' := by subst hv; exact hk n d dr w

theorem below_box {w w1 : World} {o : Obj} (hb : Below (w.alloc o).heap.size (w.alloc o) w1) : Below w.heap.size w w1 :=
  ((Below.refl _ _).alloc (Nat.le_refl _) _).trans (hb.mono (by simp))

end Go.Proofs.YthjggjnkhhoigaaGreatDoor
