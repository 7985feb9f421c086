/-
  An owned list of boxes with one field of one box set. No program's function is named here; no conditions.
-/
import Derived.Test.YtfdbnlmfnhhcbaaIUp
import Derived.Test.YtfdbnlmfnhhcbaaMark
namespace Go.Proofs.Ytfdbnlmfnhhcbaa
open Go.RowKit
set_option linter.unusedVariables false
set_option linter.unusedSimpArgs false

theorem flatL_set (L : List (Bx × (Option Addr × Nat))) : ∀ (k : Nat) (p p' : Bx × (Option Addr × Nat)) (f : Nat) (u : Value), L[k]? = some p → f < 3 → (cell3 p).set f u = cell3 p' → (flatL L).set (k * 3 + f) u = flatL (L.set k p') := by
  induction L with
  | nil => intro k p p' f u h; simp at h
  | cons x t ih =>
    intro k p p' f u h hf hc
    have hl : ∀ q : Bx × (Option Addr × Nat), (cell3 q).length = 3 := fun q => rfl
    cases k with
    | zero =>
      simp at h
      subst h
      rw [List.set_cons_zero]
      show (cell3 x ++ flatL t).set (0 * 3 + f) u = cell3 p' ++ flatL t
      rw [List.set_append_left _ _ (by rw [hl]; omega), Nat.zero_mul, Nat.zero_add, hc]
    | succ k =>
      rw [List.getElem?_cons_succ] at h
      rw [List.set_cons_succ]
      show (cell3 x ++ flatL t).set ((k + 1) * 3 + f) u = cell3 x ++ flatL (t.set k p')
      rw [List.set_append_right _ _ (by rw [hl]; omega), hl, show (k + 1) * 3 + f - 3 = k * 3 + f by omega, ih k p p' f u h hf hc]
theorem OwnL.upd {w : World} {B G cap k f : Nat} {L : List (Bx × (Option Addr × Nat))} {p p' : Bx × (Option Addr × Nat)} {u : Value} (h : OwnL w B (.slice (some ⟨G, 0, none⟩) L.length cap) L) (hk : L[k]? = some p) (hf : f < 3) (hc : (cell3 p).set f u = cell3 p')
    (hp : GoodP w B (.slice (some ⟨G, 0, none⟩) L.length cap) p') (hd : ∀ j q x y, j ≠ k → L[j]? = some q → q.2.1 = some x → p'.2.1 = some y → x.block ≠ y.block) :
    OwnL (w.setCell ⟨G, k * 3 + f, none⟩ u) B (.slice (some ⟨G, 0, none⟩) L.length cap) (L.set k p') := by
  have hkl : k < L.length := (List.getElem?_eq_some_iff.1 hk).1
  have hkeep : ∀ q, GoodP w B (.slice (some ⟨G, 0, none⟩) L.length cap) q → GoodP (w.setCell ⟨G, k * 3 + f, none⟩ u) B (.slice (some ⟨G, 0, none⟩) L.length cap) q := fun q hq =>
    hq.kept (by simp [World.setCell]) (fun y hy _ _ => Below.heap_setCell _ _ _ _ (fun e => (hq.2.2.2.2.2.2 y hy).2 (by
      show some G = some y.block
      first | exact congrArg some e | exact congrArg some e.symm)))
  refine ⟨?_, ?_, ?_⟩
  · rw [List.length_set, ← flatL_set L k p p' f u hk hf hc]
    exact (h.1.stored (k * 3 + f) u).1
  · intro q hq
    rcases List.mem_or_eq_of_mem_set hq with hq | rfl
    · exact hkeep q (h.2.1 q hq)
    · exact hkeep q hp
  · intro i j a b x y hij ha hb hx hy
    rw [List.getElem?_set] at ha hb
    split at ha
    · rename_i hi
      subst hi
      rw [if_neg (by omega)] at hb
      simp at ha
      obtain ⟨_, rfl⟩ := ha
      exact fun e => hd j b y x (by omega) hb hy hx e.symm
    · split at hb
      · rename_i hj
        subst hj
        simp at hb
        obtain ⟨_, rfl⟩ := hb
        exact hd i a x y (by omega) ha hx hy
      · exact h.2.2 i j a b x y hij ha hb hx hy
end Go.Proofs.Ytfdbnlmfnhhcbaa
