/-
  Closed facts of the program that the frame of each law's proof takes; how an argument that is a list of bytes is opened; no conditions.
-/
import Derived.Test.YtcgdcabmjihijaaRows
import Derived.Test.YtcgdcabmjihijaaBy
import Derived.ProofKit
import Derived.OpenShut
import Derived.ShutString
import Derived.ChangeOld
import Derived.Deep.Slices
import Derived.Deep.Strs
import Derived.Lib.SmallJoins
namespace Go.Proofs.Ytcgdcabmjihijaa
open Go.ChangeShapes Go.WideShapes Go.ChangeAt Go.RowKit Go.Joins Go.Deep
set_option linter.unusedVariables false
set_option linter.unusedSimpArgs false
theorem own : ownKnob Try.prog.godebug = none := by kernel_rfl
theorem laidOut : laidOutB Try.prog = true := by kernel_rfl
theorem cells5 : Try.prog.cellsOf 5 = 1 := by kernel_rfl
theorem byt_in {H : Type} {enc : TypeId × Value → H} {W : World} {fuel : Nat} {a : Option Addr} {len cap : Nat} {x : DataW H × List MemPlace}
    (h : DataW.trod enc Try.prog W 0 (fun _ => true) true fuel 22 [.slice a len cap] = some x) : ∃ zs : List Int, zs.length = len ∧ len ≤ cap ∧ cap ≤ maxLen ∧ Byt zs ∧ Bys W a zs := by
  rcases open_ints Try.underlying22 Try.underlying5 cells5 h with ⟨hcs, _⟩ | ⟨y, l, c, zs, hcs, _, hl, hm, hz, _, hcell, hwz⟩
  · simp at hcs
    obtain ⟨rfl, rfl, rfl⟩ := hcs
    exact ⟨[], rfl, Nat.le_refl _, Nat.zero_le _, (fun z hz => by simp at hz), Bys.nil⟩
  · simp at hcs
    obtain ⟨rfl, rfl, rfl⟩ := hcs
    have hz' : zs.length = cap := by simpa using hz
    refine ⟨zs.take len, by simp; omega, hl, hm, ?_, ?_⟩
    · intro z hz
      have h5 := bounds_u8 (hwz z (List.mem_of_mem_take hz))
      exact ⟨h5.1, by omega⟩
    · intro j z hj
      have hjl : j < len := by have := (List.getElem?_eq_some_iff.1 hj).1; simp at this; omega
      rw [List.getElem?_take, if_pos hjl] at hj
      have h1 := hcell j (by omega)
      have h2 := World.cell?_spot (hcell 0 (by omega))
      obtain ⟨b, o, spot⟩ := y
      have hs : spot = none := by simpa [Addr.add] using h2
      subst hs
      have e : zs.getD j 0 = z := by rw [List.getD_eq_getElem?_getD, hj]; rfl
      rw [e, Addr.add_lit] at h1
      exact ⟨b, o, rfl, World.block_lt_of_cell? _ _ h1, h1⟩

end Go.Proofs.Ytcgdcabmjihijaa
