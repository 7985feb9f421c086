/-
  Contracts of the law's functions that weigh, copy and hold against each other lists of clips, write marks into them and look for them again.
-/
import Derived.Test.YtfhbmfndjbdhcaaGreatDoorMem
namespace Go.Proofs.YtfhbmfndjbdhcaaGreatDoor
open Go.RowKit
set_option linter.unusedVariables false
set_option linter.unusedSimpArgs false

/-- the copy's list as it stands: the first are there, nought behind them -/
def mid (l : List Kl) (n k : Nat) : List Kl := l.take k ++ List.replicate (n - k) (0, 0, 0)
theorem mid_len {l : List Kl} {n k : Nat} (hl : l.length = n) (hk : k ≤ n) : (mid l n k).length = n := by simp [mid]; omega
theorem mid_set {l : List Kl} {n k : Nat} {x : Kl} (hl : l.length = n) (h : l[k]? = some x) : (mid l n k).set k x = mid l n (k + 1) := by
  have hk : k < l.length := (List.getElem?_eq_some_iff.1 h).1
  unfold mid
  rw [take_snocK h, List.set_append_right _ _ (by simp; omega)]
  have e : n - k = (n - (k + 1)) + 1 := by omega
  rw [e, List.replicate_succ]
  have e2 : k - (l.take k).length = 0 := by simp; omega
  rw [e2]; simp
theorem flK_rep (n : Nat) : flK (List.replicate n (0, 0, 0)) = List.replicate (n * 3) (iv 0) := by
  induction n with
  | zero => rfl
  | succ n ih =>
    have e : (n + 1) * 3 = n * 3 + 1 + 1 + 1 := by omega
    rw [e, List.replicate_succ, List.replicate_succ, List.replicate_succ, List.replicate_succ, ← ih]
    rfl
theorem made_flK (n : Nat) : (madeCells #[.int .i64 0, .int .i64 0, .int .i64 0] (n * 3)).toList = flK (List.replicate n (0, 0, 0)) := by
  rw [flK_rep]
  apply List.ext_getElem
  · simp [madeCells]
  · intro i h1 h2
    simp [madeCells, iv]
    have : i % 3 = 0 ∨ i % 3 = 1 ∨ i % 3 = 2 := by omega
    rcases this with h | h | h <;> simp [h]

theorem keep6 {w w0 w1 : World} {a1 a2 a3 a4 a5 a6 : Addr} {v1 v2 v3 v4 v5 v6 : Value}
    (h : w0.cell? a1 = some v1 ∧ w0.cell? a2 = some v2 ∧ w0.cell? a3 = some v3 ∧ w0.cell? a4 = some v4 ∧ w0.cell? a5 = some v5 ∧ w0.cell? a6 = some v6 ∧ Below w.heap.size w w0) (hb : Below w0.heap.size w0 w1) :
    w1.cell? a1 = some v1 ∧ w1.cell? a2 = some v2 ∧ w1.cell? a3 = some v3 ∧ w1.cell? a4 = some v4 ∧ w1.cell? a5 = some v5 ∧ w1.cell? a6 = some v6 ∧ Below w.heap.size w w1 := by
  obtain ⟨h1, h2, h3, h4, h5, h6, h7⟩ := h
  exact ⟨cell_later hb h1, cell_later hb h2, cell_later hb h3, cell_later hb h4, cell_later hb h5, cell_later hb h6, h7.trans (hb.mono h7.size)⟩
theorem keep6d {w w0 : World} {a1 a2 a3 a4 a5 a6 : Addr} {v1 v2 v3 v4 v5 v6 : Value}
    (h : w0.cell? a1 = some v1 ∧ w0.cell? a2 = some v2 ∧ w0.cell? a3 = some v3 ∧ w0.cell? a4 = some v4 ∧ w0.cell? a5 = some v5 ∧ w0.cell? a6 = some v6 ∧ Below w.heap.size w w0) :
    w0.drew.cell? a1 = some v1 ∧ w0.drew.cell? a2 = some v2 ∧ w0.drew.cell? a3 = some v3 ∧ w0.drew.cell? a4 = some v4 ∧ w0.drew.cell? a5 = some v5 ∧ w0.drew.cell? a6 = some v6 ∧ Below w.heap.size w w0.drew := by
  obtain ⟨h1, h2, h3, h4, h5, h6, h7⟩ := h
  exact ⟨h1, h2, h3, h4, h5, h6, h7.drew⟩

/-- the first i cells bear the marks from q on -/
def Mkd (q : Int) (i : Nat) (xs : List Value) : Prop := ∀ j, j < i → xs[j]? = some (iv (q + j))
theorem Mkd.set {q : Int} {i : Nat} {xs : List Value} (h : Mkd q i xs) (hi : i < xs.length) : Mkd q (i + 1) (xs.set i (iv (q + i))) := by
  intro j hj
  by_cases e : j = i
  · subst e; simp [hi]
  · rw [List.getElem?_set_ne (by omega)]; exact h j (by omega)
theorem grown_refl (w : World) (g : Option Nat) : w.grownBy w g := ⟨rfl, rfl, rfl, Nat.le_refl _, fun _ _ _ => rfl⟩
theorem grown_trans {w w1 w2 : World} {g : Option Nat} (h : w.grownBy w1 g) (k : w1.grownBy w2 g) : w.grownBy w2 g :=
  ⟨k.os.trans h.os, k.tape.trans h.tape, k.output.trans h.output, Nat.le_trans h.size k.size, fun j hj hn => (k.block j (Nat.lt_of_lt_of_le hj h.size) hn).trans (h.block j hj hn)⟩
theorem grown_set {w w1 : World} {g i : Nat} {v : Value} (h : w.grownBy w1 (some g)) : w.grownBy (w1.setCell ⟨g, i, none⟩ v) (some g) :=
  grown_trans h ⟨rfl, rfl, rfl, by simp, fun j hj hn => by
    have hg : g ≠ j := fun e => hn (by rw [e])
    simp [World.setCell, Array.getElem?_modify, hg]⟩
theorem own_at {w : World} {B g n m cap i : Nat} {e : TypeId} {xs : List Value} (h : w.ownsRow B e m (.slice (some ⟨g, 0, none⟩) n cap) n xs) (hi : i < n * m) : ∃ v, w.cell? ⟨g, i, none⟩ = some v ∧ w.frozen? ⟨g, i, none⟩ = false ∧ xs[i]? = some v ∧ xs.length = n * m := by
  have hl : xs.length = n * m := h.1
  have hc := h.cellAt i hi
  exact ⟨xs[i]'(by omega), by rw [hc, List.getElem?_eq_getElem (by omega)], h.frozenAt i, List.getElem?_eq_getElem (by omega), hl⟩
theorem mark_three {wr : World} {B g n cap k : Nat} {q : Int} {ys : List Value} (hlt : k < n) (hy : wr.ownsRow B 44 3 (.slice (some ⟨g, 0, none⟩) n cap) n ys) (hm : Mkd q (k * 3) ys) :
    ∃ ys, (((wr.setCell ⟨g, k * 3, none⟩ (.int .i64 (q + k * 3))).setCell ⟨g, k * 3 + 1, none⟩ (.int .i64 (q + k * 3 + 1))).setCell ⟨g, k * 3 + 2, none⟩ (.int .i64 (q + k * 3 + 1 + 1))).ownsRow B 44 3 (.slice (some ⟨g, 0, none⟩) n cap) n ys ∧ Mkd q ((k + 1) * 3) ys := by
  have hl : ys.length = n * 3 := hy.1
  have h1 := (hy.stored (k * 3) (iv (q + ((k * 3 : Nat) : Int)))).1
  have m1 := hm.set (by omega)
  have h2 := (h1.stored (k * 3 + 1) (iv (q + ((k * 3 + 1 : Nat) : Int)))).1
  have m2 := m1.set (by rw [List.length_set]; omega)
  have h3 := (h2.stored (k * 3 + 2) (iv (q + ((k * 3 + 2 : Nat) : Int)))).1
  have m3 := m2.set (by rw [List.length_set, List.length_set]; omega)
  have e1 : q + ((k * 3 : Nat) : Int) = q + k * 3 := by omega
  have e2 : q + ((k * 3 + 1 : Nat) : Int) = q + k * 3 + 1 := by omega
  have e3 : q + ((k * 3 + 2 : Nat) : Int) = q + k * 3 + 1 + 1 := by omega
  have e4 : q + ((k * 3 + 1 + 1 : Nat) : Int) = q + k * 3 + 1 + 1 := by omega
  have e5 : (k + 1) * 3 = k * 3 + 1 + 1 + 1 := by omega
  rw [e1, e2, e3] at h3
  rw [e1, e2, e4] at m3
  rw [e5]
  exact ⟨_, h3, m3⟩

end Go.Proofs.YtfhbmfndjbdhcaaGreatDoor
