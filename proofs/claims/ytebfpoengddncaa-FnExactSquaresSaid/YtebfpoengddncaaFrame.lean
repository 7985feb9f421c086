/-
  Closed facts of the program that the frame of each law's proof takes; how arguments that are numbers or lists of them are opened; no conditions.
-/
import Derived.Test.YtebfpoengddncaaRows
import Derived.Test.YtebfpoengddncaaMem
import Derived.ProofKit
import Derived.OpenShut
import Derived.ShutString
import Derived.ChangeOld
import Derived.Deep.Slices
import Derived.Lib.SmallJoins
import Derived.Laws.Cover2
namespace Go.Proofs.Ytebfpoengddncaa
open Go.ChangeShapes Go.WideShapes Go.ChangeAt Go.RowKit Go.Joins Go.Deep
set_option linter.unusedVariables false
set_option linter.unusedSimpArgs false
theorem own : ownKnob Try.prog.godebug = none := by kernel_rfl
theorem laidOut : laidOutB Try.prog = true := by kernel_rfl
theorem cells22 : Try.prog.cellsOf 30 = 1 := by kernel_rfl

theorem trod_float {H : Type} {enc : TypeId × Value → H} {P : Program} {w : World} {base : Nat} {spare : Nat → Bool} {held : Bool} {fuel : Nat} {t : TypeId} {cs : List Value} {x : DataW H × List MemPlace} {k : FloatKind}
    (ht : P.underlying t = some (.float k)) (h : DataW.trod enc P w base spare held fuel t cs = some x) : ∃ n, cs = [.float k n] ∧ x = (.lit (.float k n), []) ∧ (Lit.float k n).wf = true := by
  cases fuel with
  | zero => simp [DataW.trod] at h
  | succ n =>
    unfold DataW.trod at h
    rw [ht] at h
    split at h <;> simp_all

def ElemC (W : World) (a : Addr) (i : Nat) (q : Nat × Nat) : Prop := W.cell? (a.add (i * 2)) = some (.float .f64 q.1) ∧ W.cell? (a.add (i * 2 + 1)) = some (.float .f64 q.2)


theorem elem_f {H : Type} {enc : TypeId × Value → H} {W : World} {n i : Nat} {a : Addr} {cs : List Value} {x : DataW H × List MemPlace} (hc : W.cells? 0 (a.add (i * 1)) 1 = some cs)
    (h : DataW.trod enc Try.prog W 0 (fun _ => true) true n 30 cs = some x) : ∃ q, W.cell? (a.add i) = some (.float .f64 q) := by
  obtain ⟨_, hlen, hcell⟩ := World.cells?_some hc
  obtain ⟨s, hs, _, _⟩ := trod_float Try.underlying30 h
  subst hs
  have e0 := hcell 0 (by simp)
  rw [add_add] at e0
  simp at e0
  exact ⟨s, e0⟩

theorem fls_in {H : Type} {enc : TypeId × Value → H} {W : World} {fuel : Nat} {a : Option Addr} {len cap : Nat} {x : DataW H × List MemPlace}
    (h : DataW.trod enc Try.prog W 0 (fun _ => true) true fuel 22 [.slice a len cap] = some x) : ∃ l : List Nat, l.length = len ∧ len ≤ maxLen ∧ Fls false 0 W.heap.size W a l := by
  rcases open_slice Try.underlying22 h with ⟨hcs, _⟩ | ⟨y, l, c, m, n, D, Pl, hcs, _, hl, hm, hmm, _, hx⟩
  · simp at hcs
    obtain ⟨rfl, rfl, rfl⟩ := hcs
    exact ⟨[], rfl, Nat.zero_le _, Fls.nil⟩
  · simp at hcs
    obtain ⟨rfl, rfl, rfl⟩ := hcs
    rw [cells22] at hx
    have hm2 : m = cap := by simpa using hmm
    obtain ⟨f, hf⟩ := choose_lt (n := len) (p := fun i q => W.cell? (y.add i) = some (.float .f64 q)) (fun i hi => by
      obtain ⟨cs, h1, h2⟩ := hx i (by omega)
      exact elem_f h1 h2)
    refine ⟨(List.range len).map fun i => f i, by simp, by omega, ?_⟩
    intro j b hb
    have hj : j < len := by have := (List.getElem?_eq_some_iff.1 hb).1; simpa using this
    rw [List.getElem?_map, List.getElem?_range hj] at hb
    simp at hb
    subst hb
    have c0 := hf j hj
    have h2 := World.cell?_spot (hf 0 (by omega))
    obtain ⟨b, o, spot⟩ := y
    have hs : spot = none := by
      simpa [Addr.add] using h2
    subst hs
    rw [Addr.add_lit] at c0
    exact ⟨b, o, rfl, Nat.zero_le _, World.block_lt_of_cell? _ _ c0, c0, fun h => by cases h⟩

end Go.Proofs.Ytebfpoengddncaa
