/-
  Contracts of the law's functions that copy lists of floats and hold them against each other; nothing that was there is written.
-/
import Derived.Test.YtmhciigjjamjkaaMem
namespace Go.Proofs.Ytmhciigjjamjkaa
open Go.RowKit
set_option linter.unusedVariables false
set_option linter.unusedSimpArgs false

def fl (x : Nat) : Value := .float .f64 x
theorem info22 : (Try.prog.info? 26).map (fun i => (i.zero, i.size, i.bytes)) = some (some (.float .f64 0), 1, 8) := by kernel_rfl
theorem info25 : (Try.prog.info? 28).map (fun i => (i.zero, i.size, i.bytes)) = some (some (.agg #[.float .f64 0, .float .f64 0]), 2, 16) := by kernel_rfl
theorem take_snoc {α : Type} {l : List α} {k : Nat} {x : α} (h : l[k]? = some x) : l.take (k + 1) = l.take k ++ [x] := by
  rw [List.take_add_one, h]; rfl
theorem ownsRow_below {w w1 : World} {B n m : Nat} {e : TypeId} {v : Value} {xs : List Value} (h : w.ownsRow B e m v n xs) (hb : Below w.heap.size w w1) : w1.ownsRow B e m v n xs := by
  obtain ⟨h1, h2⟩ := h
  refine ⟨h1, ?_⟩
  rcases h2 with h2 | ⟨g, cap, cur, hv, hg, hh, r⟩
  · exact Or.inl h2
  · exact Or.inr ⟨g, cap, cur, hv, hg, by rw [hb.block g (by have := (Array.getElem?_eq_some_iff.1 hh).1; exact this)]; exact hh, r⟩
theorem own_mono {w : World} {B B' n m : Nat} {e : TypeId} {v : Value} {xs : List Value} (h : w.ownsRow B e m v n xs) (hB : B' ≤ B) : w.ownsRow B' e m v n xs := by
  obtain ⟨h1, h2⟩ := h
  refine ⟨h1, ?_⟩
  rcases h2 with h2 | ⟨g, cap, cur, hv, hg, r⟩
  · exact Or.inl h2
  · exact Or.inr ⟨g, cap, cur, hv, by omega, r⟩
theorem own_lt {w : World} {B g n cap m : Nat} {e : TypeId} {xs : List Value} (h : w.ownsRow B e m (.slice (some ⟨g, 0, none⟩) n cap) n xs) : g < w.heap.size := (h.lt g rfl).2
theorem fls_of_own {w : World} {B g n cap : Nat} {l : List Nat} (h : w.ownsRow B 26 1 (.slice (some ⟨g, 0, none⟩) n cap) n (l.map fl)) : Fls true g (g + 1) w (some ⟨g, 0, none⟩) l := by
  intro j z hj
  have hl : l.length = n := by have := h.1; simpa using this
  have hjl : j < l.length := (List.getElem?_eq_some_iff.1 hj).1
  have hc := h.cellAt j (by omega)
  rw [List.getElem?_map, hj] at hc
  exact ⟨g, 0, rfl, by omega, by omega, by rw [Nat.zero_add]; exact hc, fun _ => by rw [Nat.zero_add]; exact h.frozenAt j⟩
theorem tof_step {w : World} {B g n k : Nat} {zs : List Nat} {z : Nat} (hl : zs.length = n) (hz : zs[k]? = some z) (h : w.ownsRow B 26 1 (.slice (some ⟨g, 0, none⟩) n n) n ((zs.take k).map fl ++ List.replicate (n - k) (fl 0))) :
    (w.setCell ⟨g, k, none⟩ (.float .f64 z)).ownsRow B 26 1 (.slice (some ⟨g, 0, none⟩) n n) n ((zs.take (k + 1)).map fl ++ List.replicate (n - (k + 1)) (fl 0)) := by
  have hk : k < zs.length := (List.getElem?_eq_some_iff.1 hz).1
  have h1 := (h.stored k (fl z)).1
  have e : ((zs.take k).map fl ++ List.replicate (n - k) (fl 0)).set k (fl z) = (zs.take (k + 1)).map fl ++ List.replicate (n - (k + 1)) (fl 0) := by
    rw [take_snoc hz, List.set_append_right _ _ (by simp; omega)]
    have e : n - k = (n - (k + 1)) + 1 := by omega
    rw [e, List.replicate_succ]
    have e2 : k - ((zs.take k).map fl).length = 0 := by simp; omega
    rw [e2]; simp
  rw [e] at h1
  exact h1
theorem tof_cell {w : World} {B g n k : Nat} {zs : List Nat} (hl : zs.length = n) (hk : k < n) (h : w.ownsRow B 26 1 (.slice (some ⟨g, 0, none⟩) n n) n ((zs.take k).map fl ++ List.replicate (n - k) (fl 0))) :
    w.cell? ⟨g, k, none⟩ = some (.float .f64 0) ∧ w.frozen? ⟨g, k, none⟩ = false := by
  refine ⟨?_, h.frozenAt k⟩
  rw [h.cellAt k (by omega), List.getElem?_append_right (by simp; omega)]
  have e2 : k - ((zs.take k).map fl).length = 0 := by simp; omega
  rw [e2]
  have e : n - k = (n - (k + 1)) + 1 := by omega
  rw [e, List.replicate_succ]; rfl

/-- like lists, all NaNs one -/
def SmL (l m : List Nat) : Prop := l.length = m.length ∧ ∀ (j x y : Nat), l[j]? = some x → m[j]? = some y → Sm x y
theorem SmL.rfl {l : List Nat} : SmL l l := ⟨_root_.rfl, fun j x y h1 h2 => by rw [h1] at h2; cases h2; exact Sm.rfl⟩

theorem keep2 {w w0 w1 : World} {a1 a2 : Addr} {v1 v2 : Value}
    (h : w0.cell? a1 = some v1 ∧ w0.cell? a2 = some v2 ∧ Below w.heap.size w w0) (hb : Below w0.heap.size w0 w1) :
    w1.cell? a1 = some v1 ∧ w1.cell? a2 = some v2 ∧ Below w.heap.size w w1 := by
  obtain ⟨h1, h2, h7⟩ := h
  exact ⟨cell_later hb h1, cell_later hb h2, h7.trans (hb.mono h7.size)⟩
theorem keep2d {w w0 : World} {a1 a2 : Addr} {v1 v2 : Value}
    (h : w0.cell? a1 = some v1 ∧ w0.cell? a2 = some v2 ∧ Below w.heap.size w w0) :
    w0.drew.cell? a1 = some v1 ∧ w0.drew.cell? a2 = some v2 ∧ Below w.heap.size w w0.drew := by
  obtain ⟨h1, h2, h7⟩ := h
  exact ⟨h1, h2, h7.drew⟩

end Go.Proofs.Ytmhciigjjamjkaa
