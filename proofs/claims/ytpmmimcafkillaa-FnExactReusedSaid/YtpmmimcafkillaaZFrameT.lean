/-
  Closed facts of the program that the frame of each law's proof takes; no conditions.
  How an argument that is a list of tasks, or a list of numbers, is opened; no conditions.
-/
import Derived.Test.YtpmmimcafkillaaRows
import Derived.ProofKit
import Derived.OpenShut
import Derived.ShutString
import Derived.ChangeOld
import Derived.Deep.Slices
import Derived.Deep.Strs
import Derived.Lib.SmallJoins
import Derived.Test.YtpmmimcafkillaaZJbP
namespace Go.Proofs.Ytpmmimcafkillaa
open Go.ChangeShapes Go.WideShapes Go.ChangeAt Go.RowKit Go.Joins Go.Deep
set_option linter.unusedVariables false
set_option linter.unusedSimpArgs false
theorem own : ownKnob Try.prog.godebug = none := by kernel_rfl
theorem laidOut : laidOutB Try.prog = true := by kernel_rfl
theorem cells2 : Try.prog.cellsOf 2 = 1 := by kernel_rfl
end Go.Proofs.Ytpmmimcafkillaa

namespace Go.Proofs.Ytpmmimcafkillaa
open Go.ChangeShapes Go.WideShapes Go.ChangeAt Go.RowKit Go.Joins Go.Deep
set_option linter.unusedVariables false
set_option linter.unusedSimpArgs false
theorem cellsTk : Try.prog.cellsOf 68 = 4 := by kernel_rfl
theorem cells29 : Try.prog.cellsOf 29 = 1 := by kernel_rfl
theorem ins_in {H : Type} {enc : TypeId × Value → H} {W : World} {fuel : Nat} {a : Option Addr} {len cap : Nat} {x : DataW H × List MemPlace}
    (h : DataW.trod enc Try.prog W 0 (fun _ => true) true fuel 29 [.slice a len cap] = some x) : ∃ zs : List Int, zs.length = len ∧ len ≤ maxLen ∧ Ins W a zs := by
  rcases open_ints Try.underlying29 Try.underlying2 cells2 h with ⟨hcs, _⟩ | ⟨y, l, c, zs, hcs, _, hl, hm, hz, _, hcell, hwz⟩
  · simp at hcs
    obtain ⟨rfl, rfl, rfl⟩ := hcs
    exact ⟨[], rfl, Nat.zero_le _, Ins.nil⟩
  · simp at hcs
    obtain ⟨rfl, rfl, rfl⟩ := hcs
    have hz' : zs.length = cap := by simpa using hz
    refine ⟨zs.take len, by simp; omega, by omega, ?_⟩
    intro j z hj
    have hjl : j < len := by have := (List.getElem?_eq_some_iff.1 hj).1; simp at this; omega
    rw [List.getElem?_take, if_pos hjl] at hj
    have h1 := hcell j (by omega)
    have h2 := World.cell?_spot (hcell 0 (by omega))
    obtain ⟨b, o, spot⟩ := y
    have hs : spot = none := by simpa [Addr.add] using h2
    subst hs
    have e : zs.getD j 0 = z := by rw [List.getD_eq_getElem?_getD, hj]; rfl
    rw [e, Addr.add_lit] at h1
    exact ⟨b, o, rfl, World.block_lt_of_cell? _ _ h1, h1⟩
theorem slice_form {H : Type} {enc : TypeId × Value → H} {W : World} {n : Nat} {v : Value} {x : DataW H × List MemPlace}
    (h : DataW.trod enc Try.prog W 0 (fun _ => true) true n 29 [v] = some x) : ∃ a l c, v = .slice a l c := by
  rcases open_slice Try.underlying29 h with ⟨hcs, _⟩ | ⟨y, l, c, m, n, D, Pl, hcs, _⟩
  · simp at hcs; exact ⟨_, _, _, hcs⟩
  · simp at hcs; exact ⟨_, _, _, hcs⟩
def ElemT (W : World) (a : Addr) (i : Nat) (q : Tv) : Prop := W.cell? (a.add (i * 4)) = some (.int .i64 q.1) ∧ W.cell? (a.add (i * 4 + 1)) = some (.int .i64 q.2.1) ∧ (∃ p c, W.cell? (a.add (i * 4 + 2)) = some (.slice p q.2.2.1.length c) ∧ Ins W p q.2.2.1 ∧ q.2.2.1.length ≤ maxLen) ∧ W.cell? (a.add (i * 4 + 3)) = some (.int .i64 q.2.2.2)

set_option maxRecDepth 100000 in
theorem elem_t {H : Type} {enc : TypeId × Value → H} {W : World} {n i : Nat} {a : Addr} {cs : List Value} {x : DataW H × List MemPlace} (hc : W.cells? 0 (a.add (i * 4)) 4 = some cs)
    (h : DataW.trod enc Try.prog W 0 (fun _ => true) true n 68 cs = some x) : ∃ q, ElemT W a i q := by
  obtain ⟨_, hlen, hcell⟩ := World.cells?_some hc
  obtain ⟨y0, y1, y2, y3, m, _, _, h0, h1, h2, h3⟩ := trod_struct4 Try.underlying68 h
  match cs, hlen with
  | [v0, v1, v2, v3], _ =>
    simp [cells2, cells29] at h0 h1 h2 h3
    have e0 := hcell 0 (by omega)
    have e1 := hcell 1 (by omega)
    have e2 := hcell 2 (by omega)
    have e3 := hcell 3 (by omega)
    rw [add_add] at e0 e1 e2 e3
    simp at e0 e1 e2 e3
    obtain ⟨s, hs, _, _⟩ := DataW.trod_int Try.underlying2 h0
    obtain ⟨d, hd, _, _⟩ := DataW.trod_int Try.underlying2 h1
    obtain ⟨p, ln, c, hv2⟩ := slice_form h2
    obtain ⟨g, hg, _, _⟩ := DataW.trod_int Try.underlying2 h3
    simp at hs hd hg
    subst hs hd hg hv2
    obtain ⟨zs, hzl, hzm, hzi⟩ := ins_in h2
    subst hzl
    exact ⟨(s, d, zs, g), e0, e1, ⟨p, c, e2, hzi, hzm⟩, e3⟩

theorem tks_in {H : Type} {enc : TypeId × Value → H} {W : World} {fuel : Nat} {a : Option Addr} {len cap : Nat} {x : DataW H × List MemPlace}
    (h : DataW.trod enc Try.prog W 0 (fun _ => true) true fuel 43 [.slice a len cap] = some x) : ∃ l : List Tv, l.length = len ∧ len ≤ maxLen ∧ Tks W a l := by
  rcases open_slice Try.underlying43 h with ⟨hcs, _⟩ | ⟨y, l, c, m, n, D, Pl, hcs, _, hl, hm, hmm, _, hx⟩
  · simp at hcs
    obtain ⟨rfl, rfl, rfl⟩ := hcs
    exact ⟨[], rfl, Nat.zero_le _, Tks.nil⟩
  · simp at hcs
    obtain ⟨rfl, rfl, rfl⟩ := hcs
    rw [cellsTk] at hx
    have hm2 : m = cap := by simpa using hmm
    obtain ⟨f, hf⟩ := choose_lt (n := len) (p := fun i q => ElemT W y i q) (fun i hi => by
      obtain ⟨cs, h1, h2⟩ := hx i (by omega)
      exact elem_t h1 h2)
    refine ⟨(List.range len).map fun i => f i, by simp, by omega, ?_⟩
    intro j b hb
    have hj : j < len := by have := (List.getElem?_eq_some_iff.1 hb).1; simpa using this
    rw [List.getElem?_map, List.getElem?_range hj] at hb
    simp at hb
    subst hb
    obtain ⟨c0, c1, ⟨p, c, c2, hI, hM⟩, c3⟩ := hf j hj
    have h2 := World.cell?_spot (hf 0 (by omega)).1
    obtain ⟨b, o, spot⟩ := y
    have hs : spot = none := by
      simpa [Addr.add] using h2
    subst hs
    rw [Addr.add_lit] at c0 c1 c2 c3
    exact ⟨b, o, p, c, rfl, World.block_lt_of_cell? _ _ c0, c0, c1, c2, c3, hI, hM⟩
end Go.Proofs.Ytpmmimcafkillaa
