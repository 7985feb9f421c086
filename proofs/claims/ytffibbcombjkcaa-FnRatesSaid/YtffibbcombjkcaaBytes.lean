/-
  What a slice of bytes that came in is, and that its bytes can be read; the look at its length; no conditions.
-/
import Derived.Test.YtffibbcombjkcaaDraw4
import Derived.OpenShut
namespace Go.Proofs.Ytffibbcombjkcaa
open Go.RowKit
set_option linter.unusedVariables false

/-- a slice of integers that came in: it is nil; or it leads to a row of cap cells, the numbers zs -/
def IsRow (k : IntKind) (w : World) (a : Option Addr) (len cap : Nat) (zs : List Int) : Prop :=
  (a = none ∧ len = 0 ∧ cap = 0 ∧ zs = []) ∨
  ∃ x, a = some x ∧ len ≤ cap ∧ cap ≤ maxLen ∧ zs.length = cap ∧ (∀ i, i < zs.length → w.cell? (x.add i) = some (.int k (zs.getD i 0))) ∧ ∀ n ∈ zs, (Lit.int k n).wf = true
theorem isRow_rd {w : World} {a : Option Addr} {len cap : Nat} {zs : List Int} (h : IsRow .u8 w a len cap zs) : RdB w w.heap.size a len ∧ len ≤ maxLen := by
  rcases h with ⟨rfl, rfl, rfl, rfl⟩ | ⟨x, rfl, hl, hm, hz, hc, hw⟩
  · exact ⟨fun j hj => by omega, by unfold maxLen; omega⟩
  · refine ⟨fun j hj => ?_, by omega⟩
    have h1 := hc j (by omega)
    have h2 := World.cell?_spot (hc 0 (by omega))
    obtain ⟨b, o, spot⟩ := x
    have hs : spot = none := by simpa [Addr.add] using h2
    subst hs
    have h3 : w.cell? ⟨b, o + j, none⟩ = some (.int .u8 (zs.getD j 0)) := by rw [Addr.add_lit] at h1; exact h1
    have h4 : zs.getD j 0 ∈ zs := by
      rw [List.getD_eq_getElem?_getD, List.getElem?_eq_getElem (by omega)]; exact List.getElem_mem _
    have h5 := bounds_u8 (hw _ h4)
    exact ⟨b, o, _, rfl, World.block_lt_of_cell? _ _ h3, h3, h5.1, by omega⟩

set_option maxHeartbeats 400000 in
theorem big_any (a : Option Addr) (len cap : Nat) (w : World) (hl : len ≤ 9223372036854775807) (v : Bool) (hv : decide ((4096 : Int) < (len : Int)) = v) :
    Calls Try.prog 11 #[.slice a len cap] w fun e w' => e = .returned (.bool v) ∧ w' = w := by
  subst hv
  go_enter Try.func11, Try.ntmps11
  go_wp2
  go_ret
  exact ⟨rfl, rfl⟩

end Go.Proofs.Ytffibbcombjkcaa
