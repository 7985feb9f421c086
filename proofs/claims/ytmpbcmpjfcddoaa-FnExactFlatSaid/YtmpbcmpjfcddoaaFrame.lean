/-
  Closed facts of the program that the frame of each law's proof takes, and how an argument that is a list of samples is opened; no conditions.
-/
import Derived.Test.YtmpbcmpjfcddoaaRows
import Derived.Test.YtmpbcmpjfcddoaaMemL
import Derived.ProofKit
import Derived.OpenShut
import Derived.ShutString
import Derived.ChangeOld
import Derived.Deep.Slices
import Derived.Deep.Strs
import Derived.Lib.SmallJoins
namespace Go.Proofs.Ytmpbcmpjfcddoaa
open Go.ChangeShapes Go.WideShapes Go.ChangeAt Go.RowKit Go.Joins Go.Deep
set_option linter.unusedVariables false
set_option linter.unusedSimpArgs false
theorem own : ownKnob Try.prog.godebug = none := by kernel_rfl
theorem laidOut : laidOutB Try.prog = true := by kernel_rfl
theorem cellsDp : Try.prog.cellsOf 53 = 5 := by kernel_rfl
theorem cellsPx : Try.prog.cellsOf 51 = 4 := by kernel_rfl
theorem cells2 : Try.prog.cellsOf 2 = 1 := by kernel_rfl
def ElemK (W : World) (a : Addr) (i : Nat) (q : D.Kl) : Prop := W.cell? (a.add (i * 5)) = some (.int .i64 q.1) ∧ W.cell? (a.add (i * 5 + 1)) = some (.int .i64 q.2.1) ∧ W.cell? (a.add (i * 5 + 2)) = some (.int .i64 q.2.2.1) ∧ W.cell? (a.add (i * 5 + 3)) = some (.int .i64 q.2.2.2.1) ∧ W.cell? (a.add (i * 5 + 4)) = some (.int .i64 q.2.2.2.2)
theorem elem_k {H : Type} {enc : TypeId × Value → H} {W : World} {n i : Nat} {a : Addr} {cs : List Value} {x : DataW H × List MemPlace} (hc : W.cells? 0 (a.add (i * 5)) 5 = some cs)
    (h : DataW.trod enc Try.prog W 0 (fun _ => true) true n 53 cs = some x) : ∃ q, ElemK W a i q := by
  obtain ⟨_, hlen, hcell⟩ := World.cells?_some hc
  obtain ⟨y0, y1, m, _, _, h0, h9⟩ := trod_struct2 Try.underlying53 h
  obtain ⟨y1, y2, y3, y4, m, _, _, h1, h2, h3, h4⟩ := trod_struct4 Try.underlying51 h9
  match cs, hlen with
  | [v0, v1, v2, v3, v4], _ =>
    simp [cells2, cellsPx] at h0 h1 h2 h3 h4
    have e0 := hcell 0 (by omega)
    have e1 := hcell 1 (by omega)
    have e2 := hcell 2 (by omega)
    have e3 := hcell 3 (by omega)
    have e4 := hcell 4 (by omega)
    rw [add_add] at e0 e1 e2 e3 e4
    simp at e0 e1 e2 e3 e4
    obtain ⟨s, hs, _, _⟩ := DataW.trod_int Try.underlying2 h0
    obtain ⟨d, hd, _, _⟩ := DataW.trod_int Try.underlying2 h1
    obtain ⟨f, hf, _, _⟩ := DataW.trod_int Try.underlying2 h2
    obtain ⟨g, hg, _, _⟩ := DataW.trod_int Try.underlying2 h3
    obtain ⟨k, hk, _, _⟩ := DataW.trod_int Try.underlying2 h4
    simp at hs hd hf hg hk
    subst hs hd hf hg hk
    exact ⟨(s, d, f, g, k), e0, e1, e2, e3, e4⟩
theorem dps_in {H : Type} {enc : TypeId × Value → H} {W : World} {fuel : Nat} {a : Option Addr} {len cap : Nat} {x : DataW H × List MemPlace}
    (h : DataW.trod enc Try.prog W 0 (fun _ => true) true fuel 33 [.slice a len cap] = some x) : ∃ l : List D.Kl, l.length = len ∧ len ≤ maxLen ∧ D.Kls W a l := by
  rcases open_slice Try.underlying33 h with ⟨hcs, _⟩ | ⟨y, l, c, m, n, D, Pl, hcs, _, hl, hm, hmm, _, hx⟩
  · simp at hcs
    obtain ⟨rfl, rfl, rfl⟩ := hcs
    exact ⟨[], rfl, Nat.zero_le _, D.Kls.nil⟩
  · simp at hcs
    obtain ⟨rfl, rfl, rfl⟩ := hcs
    rw [cellsDp] at hx
    have hm2 : m = cap := by simpa using hmm
    obtain ⟨f, hf⟩ := choose_lt (n := len) (p := fun i q => ElemK W y i q) (fun i hi => by
      obtain ⟨cs, h1, h2⟩ := hx i (by omega)
      exact elem_k h1 h2)
    refine ⟨(List.range len).map fun i => f i, by simp, by omega, ?_⟩
    intro j b hb
    have hj : j < len := by have := (List.getElem?_eq_some_iff.1 hb).1; simpa using this
    rw [List.getElem?_map, List.getElem?_range hj] at hb
    simp at hb
    subst hb
    obtain ⟨c0, c1, c2, c3, c4⟩ := hf j hj
    have h2 := World.cell?_spot (hf 0 (by omega)).1
    obtain ⟨b, o, spot⟩ := y
    have hs : spot = none := by
      simpa [Addr.add] using h2
    subst hs
    rw [Addr.add_lit] at c0 c1 c2 c3 c4
    exact ⟨b, o, rfl, World.block_lt_of_cell? _ _ c0, c0, c1, c2, c3, c4⟩

end Go.Proofs.Ytmpbcmpjfcddoaa
