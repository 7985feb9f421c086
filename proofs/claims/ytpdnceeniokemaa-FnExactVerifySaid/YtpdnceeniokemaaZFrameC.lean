/-
  How an argument that is a list of assets is opened; no conditions.
  How arguments that are lists of texts, or lists of lists of bytes, are opened; no conditions.
-/
import Derived.Test.YtpdnceeniokemaaZFrame
import Derived.Test.YtpdnceeniokemaaZPk
import Derived.Test.YtpdnceeniokemaaZSt
namespace Go.Proofs.Ytpdnceeniokemaa
open Go.ChangeShapes Go.WideShapes Go.ChangeAt Go.RowKit Go.Joins Go.Deep
set_option linter.unusedVariables false
set_option linter.unusedSimpArgs false
theorem cells78 : Try.prog.cellsOf 78 = 3 := by kernel_rfl
theorem cells2 : Try.prog.cellsOf 2 = 1 := by kernel_rfl
theorem cells9 : Try.prog.cellsOf 9 = 1 := by kernel_rfl
def ElemK (W : World) (a : Addr) (i : Nat) (q : Kl) : Prop := W.cell? (a.add (i * 3)) = some (.string q.1) ∧ W.cell? (a.add (i * 3 + 1)) = some (.int .i64 q.2.1) ∧ W.cell? (a.add (i * 3 + 2)) = some (.int .i64 q.2.2) ∧ q.1.size ≤ maxLen

set_option maxRecDepth 100000 in
theorem elem_k {H : Type} {enc : TypeId × Value → H} {W : World} {n i : Nat} {a : Addr} {cs : List Value} {x : DataW H × List MemPlace} (hc : W.cells? 0 (a.add (i * 3)) 3 = some cs)
    (h : DataW.trod enc Try.prog W 0 (fun _ => true) true n 78 cs = some x) : ∃ q, ElemK W a i q := by
  obtain ⟨_, hlen, hcell⟩ := World.cells?_some hc
  obtain ⟨y0, y1, y2, m, _, _, h0, h1, h2⟩ := trod_struct3 Try.underlying78 h
  match cs, hlen with
  | [v0, v1, v2], _ =>
    simp [cells2, cells9] at h0 h1 h2
    have e0 := hcell 0 (by omega)
    have e1 := hcell 1 (by omega)
    have e2 := hcell 2 (by omega)
    rw [add_add] at e0 e1 e2
    simp at e0 e1 e2
    obtain ⟨s, hs, _, hfl⟩ := DataW.trod_string Try.underlying9 h0
    obtain ⟨d, hd, _, _⟩ := DataW.trod_int Try.underlying2 h1
    obtain ⟨f, hf, _, _⟩ := DataW.trod_int Try.underlying2 h2
    simp at hs hd hf
    subst hs hd hf
    exact ⟨(s, d, f), e0, e1, e2, hfl⟩

theorem kls_in {H : Type} {enc : TypeId × Value → H} {W : World} {fuel : Nat} {a : Option Addr} {len cap : Nat} {x : DataW H × List MemPlace}
    (h : DataW.trod enc Try.prog W 0 (fun _ => true) true fuel 34 [.slice a len cap] = some x) : ∃ l : List Kl, l.length = len ∧ len ≤ maxLen ∧ Kls W a l ∧ SzOk l := by
  rcases open_slice Try.underlying34 h with ⟨hcs, _⟩ | ⟨y, l, c, m, n, D, Pl, hcs, _, hl, hm, hmm, _, hx⟩
  · simp at hcs
    obtain ⟨rfl, rfl, rfl⟩ := hcs
    exact ⟨[], rfl, Nat.zero_le _, Kls.nil, fun x hx => by cases hx⟩
  · simp at hcs
    obtain ⟨rfl, rfl, rfl⟩ := hcs
    rw [cells78] at hx
    have hm2 : m = cap := by simpa using hmm
    have hinh : Inhabited Kl := ⟨(ByteArray.empty, 0, 0)⟩
    obtain ⟨f, hf⟩ := choose_lt (n := len) (p := fun i q => ElemK W y i q) (fun i hi => by
      obtain ⟨cs, h1, h2⟩ := hx i (by omega)
      exact elem_k h1 h2)
    refine ⟨(List.range len).map fun i => f i, by simp, by omega, ?_, ?_⟩
    · intro j b hb
      have hj : j < len := by have := (List.getElem?_eq_some_iff.1 hb).1; simpa using this
      rw [List.getElem?_map, List.getElem?_range hj] at hb
      simp at hb
      subst hb
      obtain ⟨c0, c1, c2, _⟩ := hf j hj
      have h2 := World.cell?_spot (hf 0 (by omega)).1
      obtain ⟨b, o, spot⟩ := y
      have hs : spot = none := by
        simpa [Addr.add] using h2
      subst hs
      rw [Addr.add_lit] at c0 c1 c2
      exact ⟨b, o, rfl, World.block_lt_of_cell? _ _ c0, c0, c1, c2⟩
    · intro q hq
      obtain ⟨i, hi, rfl⟩ := List.mem_map.1 hq
      exact (hf i (List.mem_range.1 hi)).2.2.2
end Go.Proofs.Ytpdnceeniokemaa

namespace Go.Proofs.Ytpdnceeniokemaa
open Go.ChangeShapes Go.WideShapes Go.ChangeAt Go.RowKit Go.Joins Go.Deep
open Go.Proofs.Ytpdnceeniokemaa.Bb (Tks)
set_option linter.unusedVariables false
set_option linter.unusedSimpArgs false

theorem cells22 : Try.prog.cellsOf 22 = 1 := by kernel_rfl
def ElemS (W : World) (a : Addr) (i : Nat) (q : ByteArray) : Prop := W.cell? (a.add i) = some (.string q) ∧ q.size ≤ maxLen
set_option maxRecDepth 100000 in
theorem elem_s {H : Type} {enc : TypeId × Value → H} {W : World} {n i : Nat} {a : Addr} {cs : List Value} {x : DataW H × List MemPlace} (hc : W.cells? 0 (a.add (i * 1)) 1 = some cs)
    (h : DataW.trod enc Try.prog W 0 (fun _ => true) true n 9 cs = some x) : ∃ q, ElemS W a i q := by
  obtain ⟨_, hlen, hcell⟩ := World.cells?_some hc
  have e0 := hcell 0 (by omega)
  rw [add_add] at e0
  obtain ⟨s, hs, _, hfl⟩ := DataW.trod_string Try.underlying9 h
  subst hs
  simp at e0
  exact ⟨s, e0, hfl⟩
set_option maxRecDepth 100000 in
theorem sts_in {H : Type} {enc : TypeId × Value → H} {W : World} {fuel : Nat} {a : Option Addr} {len cap : Nat} {x : DataW H × List MemPlace}
    (h : DataW.trod enc Try.prog W 0 (fun _ => true) true fuel 41 [.slice a len cap] = some x) : ∃ l : List ByteArray, l.length = len ∧ len ≤ maxLen ∧ Sts W a l ∧ ∀ s ∈ l, s.size ≤ maxLen := by
  rcases open_slice Try.underlying41 h with ⟨hcs, _⟩ | ⟨y, l, c, m, n, D, Pl, hcs, _, hl, hm, hmm, _, hx⟩
  · simp at hcs
    obtain ⟨rfl, rfl, rfl⟩ := hcs
    exact ⟨[], rfl, Nat.zero_le _, Sts.nil, fun x hx => by cases hx⟩
  · simp at hcs
    obtain ⟨rfl, rfl, rfl⟩ := hcs
    rw [cells9] at hx
    have hm2 : m = cap := by simpa using hmm
    have hinh : Inhabited ByteArray := ⟨ByteArray.empty⟩
    obtain ⟨f, hf⟩ := choose_lt (n := len) (p := fun i q => ElemS W y i q) (fun i hi => by
      obtain ⟨cs, h1, h2⟩ := hx i (by omega)
      exact elem_s h1 h2)
    refine ⟨(List.range len).map fun i => f i, by simp, by omega, ?_, ?_⟩
    · intro j b hb
      have hj : j < len := by have := (List.getElem?_eq_some_iff.1 hb).1; simpa using this
      rw [List.getElem?_map, List.getElem?_range hj] at hb
      simp at hb
      subst hb
      obtain ⟨c0, _⟩ := hf j hj
      have h2 := World.cell?_spot (hf 0 (by omega)).1
      obtain ⟨b, o, spot⟩ := y
      have hs : spot = none := by
        simpa [Addr.add] using h2
      subst hs
      rw [Addr.add_lit] at c0
      exact ⟨b, o, rfl, World.block_lt_of_cell? _ _ c0, c0⟩
    · intro q hq
      obtain ⟨i, hi, rfl⟩ := List.mem_map.1 hq
      exact (hf i (List.mem_range.1 hi)).2
def ElemT (W : World) (a : Addr) (i : Nat) (q : Option Addr × List Int × Nat) : Prop := W.cell? (a.add i) = some (.slice q.1 q.2.1.length q.2.2) ∧ Bys W q.1 q.2.1 ∧ q.2.1.length ≤ maxLen ∧ Byt q.2.1
set_option maxRecDepth 100000 in
theorem elem_t {H : Type} {enc : TypeId × Value → H} {W : World} {n i : Nat} {a : Addr} {cs : List Value} {x : DataW H × List MemPlace} (hc : W.cells? 0 (a.add (i * 1)) 1 = some cs)
    (h : DataW.trod enc Try.prog W 0 (fun _ => true) true n 22 cs = some x) : ∃ q, ElemT W a i q := by
  obtain ⟨_, hlen, hcell⟩ := World.cells?_some hc
  have e0 := hcell 0 (by omega)
  rw [add_add] at e0
  rcases open_slice Try.underlying22 h with ⟨hcs, _⟩ | ⟨y, l, c, m, n', D, Pl, hcs, _⟩
  · subst hcs
    simp at e0
    exact ⟨(none, [], 0), e0, Bys.nil, Nat.zero_le _, fun z hz => by simp at hz⟩
  · subst hcs
    simp at e0
    obtain ⟨t, h1, h2, h3, h4, h5⟩ := byt_in h
    subst h1
    exact ⟨(some y, t, c), e0, h5, (by show t.length ≤ maxLen; omega), h4⟩
set_option maxRecDepth 100000 in
theorem tks_in {H : Type} {enc : TypeId × Value → H} {W : World} {fuel : Nat} {a : Option Addr} {len cap : Nat} {x : DataW H × List MemPlace}
    (h : DataW.trod enc Try.prog W 0 (fun _ => true) true fuel 42 [.slice a len cap] = some x) : ∃ l : List (List Int), l.length = len ∧ len ≤ maxLen ∧ Tks W a l ∧ ∀ t ∈ l, Byt t := by
  rcases open_slice Try.underlying42 h with ⟨hcs, _⟩ | ⟨y, l, c, m, n, D, Pl, hcs, _, hl, hm, hmm, _, hx⟩
  · simp at hcs
    obtain ⟨rfl, rfl, rfl⟩ := hcs
    exact ⟨[], rfl, Nat.zero_le _, (fun j t ht => by simp at ht), fun t ht => by cases ht⟩
  · simp at hcs
    obtain ⟨rfl, rfl, rfl⟩ := hcs
    rw [cells22] at hx
    have hm2 : m = cap := by simpa using hmm
    obtain ⟨f, hf⟩ := choose_lt (n := len) (p := fun i q => ElemT W y i q) (fun i hi => by
      obtain ⟨cs, h1, h2⟩ := hx i (by omega)
      exact elem_t h1 h2)
    refine ⟨(List.range len).map fun i => (f i).2.1, by simp, by omega, ?_, ?_⟩
    · intro j b hb
      have hj : j < len := by have := (List.getElem?_eq_some_iff.1 hb).1; simpa using this
      rw [List.getElem?_map, List.getElem?_range hj] at hb
      simp at hb
      subst hb
      obtain ⟨c0, c1, c2, _⟩ := hf j hj
      have h2 := World.cell?_spot (hf 0 (by omega)).1
      obtain ⟨b, o, spot⟩ := y
      have hs : spot = none := by
        simpa [Addr.add] using h2
      subst hs
      rw [Addr.add_lit] at c0
      exact ⟨b, o, (f j).1, (f j).2.2, rfl, World.block_lt_of_cell? _ _ c0, c0, c1, c2⟩
    · intro t ht
      obtain ⟨i, hi, rfl⟩ := List.mem_map.1 ht
      exact (hf i (List.mem_range.1 hi)).2.2.2

end Go.Proofs.Ytpdnceeniokemaa
