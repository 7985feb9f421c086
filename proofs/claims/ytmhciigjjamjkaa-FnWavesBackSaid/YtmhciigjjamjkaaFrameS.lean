/-
  How an argument that is a list of bytes is opened; no conditions.
-/
import Derived.Test.YtmhciigjjamjkaaRows
import Derived.Test.YtmhciigjjamjkaaByM
import Derived.ProofKit
import Derived.OpenShut
import Derived.ShutString
import Derived.ChangeOld
import Derived.Deep.Slices
import Derived.Deep.Strs
import Derived.Lib.SmallJoins
namespace Go.Proofs.Ytmhciigjjamjkaa
open Go.ChangeShapes Go.WideShapes Go.ChangeAt Go.RowKit Go.Joins Go.Deep
set_option linter.unusedVariables false
set_option linter.unusedSimpArgs false
theorem own : ownKnob Try.prog.godebug = none := by kernel_rfl
theorem laidOut : laidOutB Try.prog = true := by kernel_rfl
theorem cells5 : Try.prog.cellsOf 5 = 1 := by kernel_rfl
theorem row_in {H : Type} {enc : TypeId × Value → H} {W : World} {fuel : Nat} {a : Option Addr} {len cap : Nat} {x : DataW H × List MemPlace}
    (h : DataW.trod enc Try.prog W 0 (fun _ => true) true fuel 22 [.slice a len cap] = some x) : ∃ zs : List Int, zs.length = len ∧ len ≤ maxLen ∧ (a = none → cap = 0) ∧ Row false 0 W.heap.size W a zs := by
  rcases open_ints Try.underlying22 Try.underlying5 cells5 h with ⟨hcs, _⟩ | ⟨y, l, c, zs, hcs, _, hl, hm, hz, _, hcell, hwz⟩
  · simp at hcs
    obtain ⟨rfl, rfl, rfl⟩ := hcs
    exact ⟨[], rfl, Nat.zero_le _, fun _ => rfl, fun j z hj => by simp at hj⟩
  · simp at hcs
    obtain ⟨rfl, rfl, rfl⟩ := hcs
    have hz' : zs.length = cap := by simpa using hz
    refine ⟨zs.take len, by rw [List.length_take]; omega, by omega, (fun e => by cases e), ?_⟩
    intro j z hj
    rw [List.getElem?_take] at hj
    split at hj
    case isFalse => cases hj
    case isTrue hjl =>
      have h1 := hcell j (by omega)
      have h2 := World.cell?_spot (hcell 0 (by omega))
      obtain ⟨b, o, spot⟩ := y
      have hs : spot = none := by simpa [Addr.add] using h2
      subst hs
      have e : zs.getD j 0 = z := by rw [List.getD_eq_getElem?_getD, hj]; rfl
      rw [e, Addr.add_lit] at h1
      have h5 := bounds_u8 (hwz z (List.mem_of_getElem? hj))
      exact ⟨b, o, rfl, Nat.zero_le _, World.block_lt_of_cell? _ _ h1, h1, h5.1, by omega, fun h => by cases h⟩
end Go.Proofs.Ytmhciigjjamjkaa
