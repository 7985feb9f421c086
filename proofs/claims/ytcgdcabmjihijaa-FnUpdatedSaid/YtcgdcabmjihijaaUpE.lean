/-
  Contracts of the leaves of Update: where a name stands, assets compared, names compared, a search by halves; nothing that was there is written.
-/
import Derived.Test.YtcgdcabmjihijaaUpP
import Derived.Test.YtcgdcabmjihijaaPki
import Derived.Laws.StructEq
namespace Go.Proofs.Ytcgdcabmjihijaa
open Go.RowKit
set_option linter.unusedVariables false
set_option linter.unusedSimpArgs false

theorem eql3 (s s' : ByteArray) (p q p' q' : Int) (w : World) : (binOp .eql 35 (ag3 s p q) (ag3 s' p' q')).run Try.prog w = .ok (.bool (kEq (s, p, q) (s', p', q'))) w := by
  cases h1 : (s.toList == s'.toList) <;> cases h2 : (p == p') <;> cases h3 : (q == q') <;> (simp only [kEq, h1, h2, h3]; go_simp; try rfl)
theorem neq3 (s s' : ByteArray) (p q p' q' : Int) (w : World) : (binOp .neq 35 (ag3 s p q) (ag3 s' p' q')).run Try.prog w = .ok (.bool (!kEq (s, p, q) (s', p', q'))) w := by
  cases h1 : (s.toList == s'.toList) <;> cases h2 : (p == p') <;> cases h3 : (q == q') <;> (simp only [kEq, h1, h2, h3]; go_simp; try rfl)

end Go.Proofs.Ytcgdcabmjihijaa
