/-
  What an owned row is behind a call that grows another block; no conditions.
-/
import Derived.Test.YtdemcjppokhonaaLf
import Derived.Test.YtdemcjppokhonaaMark
namespace Go.Proofs.Ytdemcjppokhonaa
open Go.RowKit
set_option linter.unusedVariables false
set_option linter.unusedSimpArgs false

theorem own_kept {w w1 : World} {B g n m cap h : Nat} {e : TypeId} {xs : List Value} (ho : w.ownsRow B e m (.slice (some ⟨g, 0, none⟩) n cap) n xs) (hg : w.grownBy w1 (some h)) (hne : g ≠ h) : w1.ownsRow B e m (.slice (some ⟨g, 0, none⟩) n cap) n xs := by
  have hlt := own_lt ho
  obtain ⟨h1, h2⟩ := ho
  refine ⟨h1, ?_⟩
  rcases h2 with h2 | ⟨g', cap', cur, hv, hB, hh, r⟩
  · exact Or.inl h2
  · refine Or.inr ⟨g', cap', cur, hv, hB, ?_, r⟩
    injection hv with e1
    injection e1 with e1
    injection e1 with e1
    subst e1
    rw [hg.block g hlt (by intro hh; injection hh with hh; exact hne hh)]; exact hh
theorem below_grown {W w w1 : World} {g : Nat} (h : Below W.heap.size W w) (hg : w.grownBy w1 (some g)) (hB : W.heap.size ≤ g) : Below W.heap.size W w1 :=
  h.grown hg h.size (fun k hk => by injection hk with hk; omega)
end Go.Proofs.Ytdemcjppokhonaa
