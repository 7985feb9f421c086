/-
  Contracts of a block's rows and of a row turned; nothing that was there is written.
-/
import Derived.Test.YtdppnjafkbopiaaMm
import Derived.Test.YtdppnjafkbopiaaPcP
import Derived.Laws.Cover3
namespace Go.Proofs.Ytdppnjafkbopiaa
open Go.RowKit
set_option linter.unusedVariables false
set_option linter.unusedSimpArgs false

/-- a block's value -/
abbrev sqv (f : Nat → Int) : Value := .agg #[.int .i64 (f 0), .int .i64 (f 1), .int .i64 (f 2), .int .i64 (f 3), .int .i64 (f 4), .int .i64 (f 5), .int .i64 (f 6), .int .i64 (f 7), .int .i64 (f 8), .int .i64 (f 9), .int .i64 (f 10), .int .i64 (f 11), .int .i64 (f 12), .int .i64 (f 13), .int .i64 (f 14), .int .i64 (f 15)]
/-- a row's value -/
abbrev fv4 (a b c d : Int) : Value := .agg #[.int .i64 a, .int .i64 b, .int .i64 c, .int .i64 d]
theorem below_set {B b o : Nat} {a w : World} {v : Value} (h : Below B a w) (hb : B ≤ b) : Below B a (w.setCell ⟨b, o, none⟩ v) := h.setCell hb _
theorem arr16 : ∀ (W : World) (a : Option Addr) (c : Nat), (Instr.arrayAt 52 (.slice a 16 c)).run Try.prog W = .ok (.pointer a) W := fun W a c => run_arrayAt _ 52 2 16 _ 16 c rfl (by omega)

end Go.Proofs.Ytdppnjafkbopiaa
