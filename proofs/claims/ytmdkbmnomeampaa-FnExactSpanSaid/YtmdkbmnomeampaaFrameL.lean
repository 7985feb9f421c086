/-
  How an argument that is a list of runs is opened; no conditions.
-/
import Derived.Test.YtmdkbmnomeampaaFrame
import Derived.Test.YtmdkbmnomeampaaMemL
namespace Go.Proofs.Ytmdkbmnomeampaa
open Go.ChangeShapes Go.WideShapes Go.ChangeAt Go.RowKit Go.Joins Go.Deep
set_option linter.unusedVariables false
set_option linter.unusedSimpArgs false
def ElemK (W : World) (a : Addr) (i : Nat) (q : Kl) : Prop := W.cell? (a.add (i * 4)) = some (.int .i64 q.1) ∧ W.cell? (a.add (i * 4 + 1)) = some (.int .i64 q.2.1) ∧ W.cell? (a.add (i * 4 + 2)) = some (.int .i64 q.2.2.1) ∧ W.cell? (a.add (i * 4 + 3)) = some (.int .i64 q.2.2.2)
set_option maxRecDepth 100000 in
theorem elem_k {H : Type} {enc : TypeId × Value → H} {W : World} {n i : Nat} {a : Addr} {cs : List Value} {x : DataW H × List MemPlace} (hc : W.cells? 0 (a.add (i * 4)) 4 = some cs)
    (h : DataW.trod enc Try.prog W 0 (fun _ => true) true n 78 cs = some x) : ∃ q, ElemK W a i q := by
  obtain ⟨_, hlen, hcell⟩ := World.cells?_some hc
  obtain ⟨y0, y1, y2, y3, m, _, _, h0, h1, h2, h3⟩ := trod_struct4 Try.underlying78 h
  match cs, hlen with
  | [v0, v1, v2, v3], _ =>
    simp [cells2] at h0 h1 h2 h3
    have e0 := hcell 0 (by omega)
    have e1 := hcell 1 (by omega)
    have e2 := hcell 2 (by omega)
    have e3 := hcell 3 (by omega)
    rw [add_add] at e0 e1 e2 e3
    simp at e0 e1 e2 e3
    obtain ⟨s, hs, _, _⟩ := DataW.trod_int Try.underlying2 h0
    obtain ⟨d, hd, _, _⟩ := DataW.trod_int Try.underlying2 h1
    obtain ⟨f, hf, _, _⟩ := DataW.trod_int Try.underlying2 h2
    obtain ⟨g, hg, _, _⟩ := DataW.trod_int Try.underlying2 h3
    simp at hs hd hf hg
    subst hs hd hf hg
    exact ⟨(s, d, f, g), e0, e1, e2, e3⟩
theorem pxs_in {H : Type} {enc : TypeId × Value → H} {W : World} {fuel : Nat} {a : Option Addr} {len cap : Nat} {x : DataW H × List MemPlace}
    (h : DataW.trod enc Try.prog W 0 (fun _ => true) true fuel 49 [.slice a len cap] = some x) : ∃ l : List Kl, l.length = len ∧ len ≤ maxLen ∧ Kls W a l := by
  rcases open_slice Try.underlying49 h with ⟨hcs, _⟩ | ⟨y, l, c, m, n, D, Pl, hcs, _, hl, hm, hmm, _, hx⟩
  · simp at hcs
    obtain ⟨rfl, rfl, rfl⟩ := hcs
    exact ⟨[], rfl, Nat.zero_le _, Kls.nil⟩
  · simp at hcs
    obtain ⟨rfl, rfl, rfl⟩ := hcs
    rw [cellsPx] at hx
    have hm2 : m = cap := by simpa using hmm
    obtain ⟨f, hf⟩ := choose_lt (n := len) (p := fun i q => ElemK W y i q) (fun i hi => by
      obtain ⟨cs, h1, h2⟩ := hx i (by omega)
      exact elem_k h1 h2)
    refine ⟨(List.range len).map fun i => f i, by simp, by omega, ?_⟩
    intro j b hb
    have hj : j < len := by have := (List.getElem?_eq_some_iff.1 hb).1; simpa using this
    rw [List.getElem?_map, List.getElem?_range hj] at hb
    simp at hb
    subst hb
    obtain ⟨c0, c1, c2, c3⟩ := hf j hj
    have h2 := World.cell?_spot (hf 0 (by omega)).1
    obtain ⟨b, o, spot⟩ := y
    have hs : spot = none := by
      simpa [Addr.add] using h2
    subst hs
    rw [Addr.add_lit] at c0 c1 c2 c3
    exact ⟨b, o, rfl, World.block_lt_of_cell? _ _ c0, c0, c1, c2, c3⟩

end Go.Proofs.Ytmdkbmnomeampaa
