/-
  Contracts of the law's functions that weigh, copy and hold against each other lists of structs, write marks into them and look for them again.
-/
import Derived.Test.YtcpllfjhhlbmiaaDoorMemV
namespace Go.Proofs.YtcpllfjhhlbmiaaDoor
open Go.RowKit
set_option linter.unusedVariables false
set_option linter.unusedSimpArgs false
namespace V

theorem keepN {w w0 w1 : World} {a0 a1 a2 a3 : Addr} {v0 v1 v2 v3 : Value}
    (h : w0.cell? a0 = some v0 ∧ w0.cell? a1 = some v1 ∧ w0.cell? a2 = some v2 ∧ w0.cell? a3 = some v3 ∧ Below w.heap.size w w0) (hb : Below w0.heap.size w0 w1) :
    w1.cell? a0 = some v0 ∧ w1.cell? a1 = some v1 ∧ w1.cell? a2 = some v2 ∧ w1.cell? a3 = some v3 ∧ Below w.heap.size w w1 := by
  obtain ⟨h0, h1, h2, h3, hB⟩ := h
  exact ⟨cell_later hb h0, cell_later hb h1, cell_later hb h2, cell_later hb h3, hB.trans (hb.mono hB.size)⟩
theorem keepNd {w w0 : World} {a0 a1 a2 a3 : Addr} {v0 v1 v2 v3 : Value}
    (h : w0.cell? a0 = some v0 ∧ w0.cell? a1 = some v1 ∧ w0.cell? a2 = some v2 ∧ w0.cell? a3 = some v3 ∧ Below w.heap.size w w0) : w0.drew.cell? a0 = some v0 ∧ w0.drew.cell? a1 = some v1 ∧ w0.drew.cell? a2 = some v2 ∧ w0.drew.cell? a3 = some v3 ∧ Below w.heap.size w w0.drew := by
  obtain ⟨h0, h1, h2, h3, hB⟩ := h
  exact ⟨h0, h1, h2, h3, hB.drew⟩

/-- the first i cells bear the marks from q on -/
def Mkd (q : Int) (i : Nat) (xs : List Value) : Prop := ∀ j, j < i → xs[j]? = some (iv (q + j))
theorem Mkd.set {q : Int} {i : Nat} {xs : List Value} (h : Mkd q i xs) (hi : i < xs.length) : Mkd q (i + 1) (xs.set i (iv (q + i))) := by
  intro j hj
  by_cases e : j = i
  · subst e; simp [hi]
  · rw [List.getElem?_set_ne (by omega)]; exact h j (by omega)
theorem grown_refl (w : World) (g : Option Nat) : w.grownBy w g := ⟨rfl, rfl, rfl, Nat.le_refl _, fun _ _ _ => rfl⟩
theorem grown_trans {w w1 w2 : World} {g : Option Nat} (h : w.grownBy w1 g) (k : w1.grownBy w2 g) : w.grownBy w2 g :=
  ⟨k.os.trans h.os, k.tape.trans h.tape, k.output.trans h.output, Nat.le_trans h.size k.size, fun j hj hn => (k.block j (Nat.lt_of_lt_of_le hj h.size) hn).trans (h.block j hj hn)⟩
theorem grown_set {w w1 : World} {g i : Nat} {v : Value} (h : w.grownBy w1 (some g)) : w.grownBy (w1.setCell ⟨g, i, none⟩ v) (some g) :=
  grown_trans h ⟨rfl, rfl, rfl, by simp, fun j hj hn => by
    have hg : g ≠ j := fun e => hn (by rw [e])
    simp [World.setCell, Array.getElem?_modify, hg]⟩
theorem own_at {w : World} {B g n m cap i : Nat} {e : TypeId} {xs : List Value} (h : w.ownsRow B e m (.slice (some ⟨g, 0, none⟩) n cap) n xs) (hi : i < n * m) : ∃ v, w.cell? ⟨g, i, none⟩ = some v ∧ w.frozen? ⟨g, i, none⟩ = false ∧ xs[i]? = some v ∧ xs.length = n * m := by
  have hl : xs.length = n * m := h.1
  have hc := h.cellAt i hi
  exact ⟨xs[i]'(by omega), by rw [hc, List.getElem?_eq_getElem (by omega)], h.frozenAt i, List.getElem?_eq_getElem (by omega), hl⟩

theorem mark_n {wr : World} {B g n cap k : Nat} {q : Int} {ys : List Value} (hlt : k < n) (hy : wr.ownsRow B 42 2 (.slice (some ⟨g, 0, none⟩) n cap) n ys) (hm : Mkd q (k * 2) ys) :
    ∃ ys, (((wr.setCell ⟨g, k * 2, none⟩ (.int .i64 (q + k * 2))).setCell ⟨g, k * 2 + 1, none⟩ (.int .i64 (q + k * 2 + 1)))).ownsRow B 42 2 (.slice (some ⟨g, 0, none⟩) n cap) n ys ∧ Mkd q ((k + 1) * 2) ys := by
  have hl : ys.length = n * 2 := hy.1
  have h0 := (hy.stored (k * 2) (iv (q + ((k * 2 : Nat) : Int)))).1
  have m0 := hm.set (by omega)
  have h1 := (h0.stored (k * 2 + 1) (iv (q + ((k * 2 + 1 : Nat) : Int)))).1
  have m1 := m0.set (by rw [List.length_set]; omega)
  have e0 : q + ((k * 2 : Nat) : Int) = q + k * 2 := by omega
  have e1 : q + ((k * 2 + 1 : Nat) : Int) = q + k * 2 + 1 := by omega
  have z5 : (k + 1) * 2 = k * 2 + 1 + 1 := by omega
  rw [e0, e1] at h1
  rw [e0, e1] at m1
  rw [z5]
  exact ⟨_, h1, m1⟩

end V
end Go.Proofs.YtcpllfjhhlbmiaaDoor
