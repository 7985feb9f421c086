/-
  Closed facts of the program, and what a list of boxes that came in as an argument is; no conditions.
-/
import Derived.Test.YtdiamcejpjopgaaRows
import Derived.Test.YtdiamcejpjopgaaMem
import Derived.ProofKit
import Derived.OpenShut
import Derived.ShutString
import Derived.ChangeOld
import Derived.Deep.Slices
import Derived.Lib.SmallJoins
namespace Go.Proofs.Ytdiamcejpjopgaa
open Go.ChangeShapes Go.WideShapes Go.ChangeAt Go.RowKit Go.Joins Go.Deep
set_option linter.unusedVariables false
set_option linter.unusedSimpArgs false
theorem own : ownKnob Try.prog.godebug = none := by kernel_rfl
theorem laidOut : laidOutB Try.prog = true := by kernel_rfl
theorem cells63 : Try.prog.cellsOf 63 = 3 := by kernel_rfl
theorem cells5 : Try.prog.cellsOf 5 = 1 := by kernel_rfl
theorem cells9 : Try.prog.cellsOf 9 = 1 := by kernel_rfl
theorem cells2 : Try.prog.cellsOf 2 = 1 := by kernel_rfl
theorem cells22 : Try.prog.cellsOf 22 = 1 := by kernel_rfl

theorem row_in {H : Type} {enc : TypeId × Value → H} {W : World} {fuel : Nat} {a : Option Addr} {len cap : Nat} {x : DataW H × List MemPlace}
    (h : DataW.trod enc Try.prog W 0 (fun _ => true) true fuel 22 [.slice a len cap] = some x) : ∃ zs : List Int, zs.length = len ∧ len ≤ cap ∧ cap ≤ maxLen ∧ Row false 0 W.heap.size W a zs := by
  rcases open_ints Try.underlying22 Try.underlying5 cells5 h with ⟨hcs, _⟩ | ⟨y, l, c, zs, hcs, _, hl, hm, hz, _, hcell, hwz⟩
  · simp at hcs
    obtain ⟨rfl, rfl, rfl⟩ := hcs
    exact ⟨[], rfl, Nat.le_refl _, Nat.zero_le _, Row.nil⟩
  · simp at hcs
    obtain ⟨rfl, rfl, rfl⟩ := hcs
    have hz' : zs.length = cap := by simpa using hz
    refine ⟨zs.take len, by simp; omega, hl, hm, ?_⟩
    intro j z hj
    have hjl : j < len := by have := (List.getElem?_eq_some_iff.1 hj).1; simp at this; omega
    rw [List.getElem?_take, if_pos hjl] at hj
    have h1 := hcell j (by omega)
    have h2 := World.cell?_spot (hcell 0 (by omega))
    obtain ⟨b, o, spot⟩ := y
    have hs : spot = none := by simpa [Addr.add] using h2
    subst hs
    have e : zs.getD j 0 = z := by rw [List.getD_eq_getElem?_getD, hj]; rfl
    rw [e, Addr.add_lit] at h1
    have h5 := bounds_u8 (hwz z (List.mem_of_getElem? hj))
    exact ⟨b, o, rfl, Nat.zero_le _, World.block_lt_of_cell? _ _ h1, h1, h5.1, by omega, fun h => by cases h⟩

def ElemIn (W : World) (a : Addr) (i : Nat) (q : Bx × (Option Addr × Nat)) : Prop :=
  W.cell? (a.add (i * 3)) = some (.string q.1.k) ∧ W.cell? (a.add (i * 3 + 1)) = some (.int .i64 q.1.d) ∧ W.cell? (a.add (i * 3 + 2)) = some (.slice q.2.1 q.1.z.length q.2.2) ∧ Row false 0 W.heap.size W q.2.1 q.1.z ∧ q.1.k.size ≤ maxLen ∧ -9223372036854775808 ≤ q.1.d ∧ q.1.d ≤ 9223372036854775807 ∧ q.1.z.length ≤ q.2.2 ∧ q.2.2 ≤ maxLen

theorem elem_in {H : Type} {enc : TypeId × Value → H} {W : World} {n i : Nat} {a : Addr} {cs : List Value} {x : DataW H × List MemPlace} (hc : W.cells? 0 (a.add (i * 3)) 3 = some cs)
    (h : DataW.trod enc Try.prog W 0 (fun _ => true) true n 63 cs = some x) : ∃ q, ElemIn W a i q := by
  obtain ⟨_, hlen, hcell⟩ := World.cells?_some hc
  obtain ⟨y0, y1, y2, m, _, _, h0, h1, h2⟩ := trod_struct3 Try.underlying63 h
  match cs, hlen with
  | [v0, v1, v2], _ =>
    simp [cells9, cells2, cells22] at h0 h1 h2
    have e0 := hcell 0 (by omega)
    have e1 := hcell 1 (by omega)
    have e2 := hcell 2 (by omega)
    rw [add_add] at e0 e1 e2
    simp at e0 e1 e2
    obtain ⟨s, hs, _, hsl⟩ := DataW.trod_string Try.underlying9 h0
    obtain ⟨d, hd, _, hw⟩ := DataW.trod_int Try.underlying2 h1
    simp at hs hd
    subst hs hd
    have hwb := bounds_i64 hw
    have hsl2 : ∃ a' len cap, v2 = .slice a' len cap := by
      rcases open_ints Try.underlying22 Try.underlying5 cells5 h2 with ⟨hcs, _⟩ | ⟨y, l, c, zs, hcs, _⟩
      · simp at hcs; exact ⟨_, _, _, hcs⟩
      · simp at hcs; exact ⟨_, _, _, hcs⟩
    obtain ⟨a', len, cap, rfl⟩ := hsl2
    obtain ⟨zs, hzl, hlc, hcm, hrow⟩ := row_in h2
    subst hzl
    exact ⟨(⟨s, d, zs⟩, (a', cap)), e0, e1, e2, hrow, hsl, by show _ ≤ d; omega, by show d ≤ _; omega, hlc, hcm⟩

theorem boxes_in {H : Type} {enc : TypeId × Value → H} {W : World} {fuel : Nat} {a : Option Addr} {len cap : Nat} {x : DataW H × List MemPlace}
    (h : DataW.trod enc Try.prog W 0 (fun _ => true) true fuel 39 [.slice a len cap] = some x) : ∃ (A : Nat → Option Addr × Nat) (l : List Bx), l.length = len ∧ len ≤ maxLen ∧ Bxs false 0 W.heap.size W a A l := by
  rcases open_slice Try.underlying39 h with ⟨hcs, _⟩ | ⟨y, l, c, m, n, D, Pl, hcs, _, hl, hm, hmm, _, hx⟩
  · simp at hcs
    obtain ⟨rfl, rfl, rfl⟩ := hcs
    exact ⟨fun _ => (none, 0), [], rfl, Nat.zero_le _, Bxs.nil⟩
  · simp at hcs
    obtain ⟨rfl, rfl, rfl⟩ := hcs
    rw [cells63] at hx
    have hm2 : m = cap := by simpa using hmm
    have hinh : Inhabited (Bx × (Option Addr × Nat)) := ⟨(⟨ByteArray.empty, 0, []⟩, (none, 0))⟩
    obtain ⟨f, hf⟩ := choose_lt (n := len) (p := fun i q => ElemIn W y i q) (fun i hi => by
      obtain ⟨cs, h1, h2⟩ := hx i (by omega)
      exact elem_in h1 h2)
    refine ⟨fun i => (f i).2, (List.range len).map fun i => (f i).1, by simp, by omega, ?_⟩
    intro j b hb
    have hj : j < len := by have := (List.getElem?_eq_some_iff.1 hb).1; simpa using this
    rw [List.getElem?_map, List.getElem?_range hj] at hb
    simp at hb
    subst hb
    obtain ⟨c0, c1, c2, r⟩ := hf j hj
    have h2 := World.cell?_spot (hf 0 (by omega)).1
    obtain ⟨b, o, spot⟩ := y
    have hs : spot = none := by
      simpa [Addr.add] using h2
    subst hs
    rw [Addr.add_lit] at c0 c1 c2
    exact ⟨b, o, rfl, Nat.zero_le _, World.block_lt_of_cell? _ _ c0, c0, c1, c2, r.1, r.2.1, r.2.2.1, r.2.2.2.1, r.2.2.2.2.1, r.2.2.2.2.2, fun h => by cases h⟩
end Go.Proofs.Ytdiamcejpjopgaa
