/-
  Contracts of the law's functions that write marks into lists of complex numbers and look for them again.
-/
import Derived.Test.YtmhciigjjamjkaaMark
namespace Go.Proofs.Ytmhciigjjamjkaa
open Go.RowKit
set_option linter.unusedVariables false
set_option linter.unusedSimpArgs false

theorem mark_two {wr : World} {B g n cap k : Nat} {q : Int} {ys : List Value} (hlt : k < n) (hy : wr.ownsRow B 28 2 (.slice (some ⟨g, 0, none⟩) n cap) n ys) (hm : Mkd q (k * 2) ys) :
    ∃ ys, ((wr.setCell ⟨g, k * 2, none⟩ (.float .f64 (floatOfInt .f64 (q + k * 2)))).setCell ⟨g, k * 2 + 1, none⟩ (.float .f64 (floatOfInt .f64 (q + k * 2 + 1)))).ownsRow B 28 2 (.slice (some ⟨g, 0, none⟩) n cap) n ys ∧ Mkd q ((k + 1) * 2) ys := by
  have hl : ys.length = n * 2 := hy.1
  have h1 := (hy.stored (k * 2) (fl (floatOfInt .f64 (q + ((k * 2 : Nat) : Int))))).1
  have m1 := hm.set (by omega)
  have h2 := (h1.stored (k * 2 + 1) (fl (floatOfInt .f64 (q + ((k * 2 + 1 : Nat) : Int))))).1
  have m2 := m1.set (by rw [List.length_set]; omega)
  have e1 : q + ((k * 2 : Nat) : Int) = q + k * 2 := by omega
  have e2 : q + ((k * 2 + 1 : Nat) : Int) = q + k * 2 + 1 := by omega
  have e3 : (k + 1) * 2 = k * 2 + 1 + 1 := by omega
  rw [e1, e2] at h2 m2
  rw [e3]
  exact ⟨_, h2, m2⟩

end Go.Proofs.Ytmhciigjjamjkaa
