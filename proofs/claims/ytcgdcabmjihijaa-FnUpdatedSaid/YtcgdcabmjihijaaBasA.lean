/-
  Laws of memory for an asset's three cells; contracts of the leaves: copies, comparisons, sizes; nothing that was there is written.
-/
import Derived.Test.YtcgdcabmjihijaaPkP
import Derived.Test.YtcgdcabmjihijaaLkB
import Derived.Test.YtcgdcabmjihijaaAp
namespace Go.Proofs.Ytcgdcabmjihijaa
open Go.RowKit
set_option linter.unusedVariables false
set_option linter.unusedSimpArgs false

abbrev sv (s : ByteArray) : Value := .string s
abbrev ag3 (s : ByteArray) (a b : Int) : Value := .agg #[.string s, .int .i64 a, .int .i64 b]
theorem cell_later {w w1 : World} {a : Addr} {v : Value} (hb : Below w.heap.size w w1) (h : w.cell? a = some v) : w1.cell? a = some v := by
  rw [hb.cell (World.block_lt_of_cell? _ _ h)]; exact h
theorem ne_addr {g i j : Nat} (h : i ≠ j) : (⟨g, i, none⟩ : Addr) ≠ ⟨g, j, none⟩ := by intro e; injection e with _ e2 _; exact h e2
theorem ne_blk {g h i j : Nat} (hh : g ≠ h) : (⟨g, i, none⟩ : Addr) ≠ ⟨h, j, none⟩ := by intro e; injection e with e1 _ _; exact hh e1
end Go.Proofs.Ytcgdcabmjihijaa
