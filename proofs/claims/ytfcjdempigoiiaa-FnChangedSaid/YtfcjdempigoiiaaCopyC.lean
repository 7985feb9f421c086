/-
  Contracts of the law's functions that weigh, copy and hold against each other lists of changes, write marks into them and look for them again.
-/
import Derived.Test.YtfcjdempigoiiaaMemC
namespace Go.Proofs.Ytfcjdempigoiiaa
open Go.RowKit
set_option linter.unusedVariables false
set_option linter.unusedSimpArgs false

def midC (l : List Ch) (n k : Nat) : List Ch := l.take k ++ List.replicate (n - k) (0, 0, 0, 0)
theorem midC_len {l : List Ch} {n k : Nat} (hl : l.length = n) (hk : k ≤ n) : (midC l n k).length = n := by simp [midC]; omega
theorem take_snocC {l : List Ch} {k : Nat} {c : Ch} (h : l[k]? = some c) : l.take (k + 1) = l.take k ++ [c] := by
  rw [List.take_add_one, h]; rfl
theorem midC_set {l : List Ch} {n k : Nat} {x : Ch} (hl : l.length = n) (h : l[k]? = some x) : (midC l n k).set k x = midC l n (k + 1) := by
  have hk : k < l.length := (List.getElem?_eq_some_iff.1 h).1
  unfold midC
  rw [take_snocC h, List.set_append_right _ _ (by simp; omega)]
  have e : n - k = (n - (k + 1)) + 1 := by omega
  rw [e, List.replicate_succ]
  have e2 : k - (l.take k).length = 0 := by simp; omega
  rw [e2]; simp
theorem flC_rep (n : Nat) : flC (List.replicate n (0, 0, 0, 0)) = List.replicate (n * 4) (iv 0) := by
  induction n with
  | zero => rfl
  | succ n ih =>
    have e : (n + 1) * 4 = n * 4 + 1 + 1 + 1 + 1 := by omega
    rw [e, List.replicate_succ, List.replicate_succ, List.replicate_succ, List.replicate_succ, List.replicate_succ, ← ih]
    rfl
theorem made_flC (n : Nat) : (madeCells #[.int .i64 0, .int .i64 0, .int .i64 0, .int .i64 0] (n * 4)).toList = flC (List.replicate n (0, 0, 0, 0)) := by
  rw [flC_rep]
  apply List.ext_getElem
  · simp [madeCells]
  · intro i h1 h2
    simp [madeCells, iv]
    have : i % 4 = 0 ∨ i % 4 = 1 ∨ i % 4 = 2 ∨ i % 4 = 3 := by omega
    rcases this with h | h | h | h <;> simp [h]

theorem keep8 {w w0 w1 : World} {a1 a2 a3 a4 a5 a6 a7 a8 : Addr} {v1 v2 v3 v4 v5 v6 v7 v8 : Value}
    (h : w0.cell? a1 = some v1 ∧ w0.cell? a2 = some v2 ∧ w0.cell? a3 = some v3 ∧ w0.cell? a4 = some v4 ∧ w0.cell? a5 = some v5 ∧ w0.cell? a6 = some v6 ∧ w0.cell? a7 = some v7 ∧ w0.cell? a8 = some v8 ∧ Below w.heap.size w w0) (hb : Below w0.heap.size w0 w1) :
    w1.cell? a1 = some v1 ∧ w1.cell? a2 = some v2 ∧ w1.cell? a3 = some v3 ∧ w1.cell? a4 = some v4 ∧ w1.cell? a5 = some v5 ∧ w1.cell? a6 = some v6 ∧ w1.cell? a7 = some v7 ∧ w1.cell? a8 = some v8 ∧ Below w.heap.size w w1 := by
  obtain ⟨h1, h2, h3, h4, h5, h6, h7, h8, h9⟩ := h
  exact ⟨cell_later hb h1, cell_later hb h2, cell_later hb h3, cell_later hb h4, cell_later hb h5, cell_later hb h6, cell_later hb h7, cell_later hb h8, h9.trans (hb.mono h9.size)⟩
theorem keep8d {w w0 : World} {a1 a2 a3 a4 a5 a6 a7 a8 : Addr} {v1 v2 v3 v4 v5 v6 v7 v8 : Value}
    (h : w0.cell? a1 = some v1 ∧ w0.cell? a2 = some v2 ∧ w0.cell? a3 = some v3 ∧ w0.cell? a4 = some v4 ∧ w0.cell? a5 = some v5 ∧ w0.cell? a6 = some v6 ∧ w0.cell? a7 = some v7 ∧ w0.cell? a8 = some v8 ∧ Below w.heap.size w w0) :
    w0.drew.cell? a1 = some v1 ∧ w0.drew.cell? a2 = some v2 ∧ w0.drew.cell? a3 = some v3 ∧ w0.drew.cell? a4 = some v4 ∧ w0.drew.cell? a5 = some v5 ∧ w0.drew.cell? a6 = some v6 ∧ w0.drew.cell? a7 = some v7 ∧ w0.drew.cell? a8 = some v8 ∧ Below w.heap.size w w0.drew := by
  obtain ⟨h1, h2, h3, h4, h5, h6, h7, h8, h9⟩ := h
  exact ⟨h1, h2, h3, h4, h5, h6, h7, h8, h9.drew⟩

theorem mark_four {wr : World} {B g n cap k : Nat} {q : Int} {ys : List Value} (hlt : k < n) (hy : wr.ownsRow B 60 4 (.slice (some ⟨g, 0, none⟩) n cap) n ys) (hm : Mkd q (k * 4) ys) :
    ∃ ys, ((((wr.setCell ⟨g, k * 4, none⟩ (.int .i64 (q + k * 4))).setCell ⟨g, k * 4 + 1, none⟩ (.int .i64 (q + k * 4 + 1))).setCell ⟨g, k * 4 + 2, none⟩ (.int .i64 (q + k * 4 + 1 + 1))).setCell ⟨g, k * 4 + 3, none⟩ (.int .i64 (q + k * 4 + 1 + 1 + 1))).ownsRow B 60 4 (.slice (some ⟨g, 0, none⟩) n cap) n ys ∧ Mkd q ((k + 1) * 4) ys := by
  have hl : ys.length = n * 4 := hy.1
  have h1 := (hy.stored (k * 4) (iv (q + ((k * 4 : Nat) : Int)))).1
  have m1 := hm.set (by omega)
  have h2 := (h1.stored (k * 4 + 1) (iv (q + ((k * 4 + 1 : Nat) : Int)))).1
  have m2 := m1.set (by rw [List.length_set]; omega)
  have h3 := (h2.stored (k * 4 + 2) (iv (q + ((k * 4 + 2 : Nat) : Int)))).1
  have m3 := m2.set (by rw [List.length_set, List.length_set]; omega)
  have h4 := (h3.stored (k * 4 + 3) (iv (q + ((k * 4 + 3 : Nat) : Int)))).1
  have m4 := m3.set (by rw [List.length_set, List.length_set, List.length_set]; omega)
  have e1 : q + ((k * 4 : Nat) : Int) = q + k * 4 := by omega
  have e2 : q + ((k * 4 + 1 : Nat) : Int) = q + k * 4 + 1 := by omega
  have e3 : q + ((k * 4 + 2 : Nat) : Int) = q + k * 4 + 1 + 1 := by omega
  have e4 : q + ((k * 4 + 1 + 1 : Nat) : Int) = q + k * 4 + 1 + 1 := by omega
  have e6 : q + ((k * 4 + 3 : Nat) : Int) = q + k * 4 + 1 + 1 + 1 := by omega
  have e7 : q + ((k * 4 + 1 + 1 + 1 : Nat) : Int) = q + k * 4 + 1 + 1 + 1 := by omega
  have e5 : (k + 1) * 4 = k * 4 + 1 + 1 + 1 + 1 := by omega
  rw [e1, e2, e3, e6] at h4
  rw [e1, e2, e4, e7] at m4
  rw [e5]
  exact ⟨_, h4, m4⟩

end Go.Proofs.Ytfcjdempigoiiaa
