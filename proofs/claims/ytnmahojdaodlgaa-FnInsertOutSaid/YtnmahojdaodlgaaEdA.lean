/-
  What an edit of the program has made is a list of clips in bounds; facts held through a region.
-/
import Derived.Test.YtnmahojdaodlgaaTrm
import Derived.Test.YtnmahojdaodlgaaJn2
import Derived.Test.YtnmahojdaodlgaaOpn
import Derived.Test.YtnmahojdaodlgaaSEd2
import Derived.Laws.EntriesVeiled
namespace Go.Proofs.Ytnmahojdaodlgaa
open Go.RowKit
set_option linter.unusedVariables false
set_option linter.unusedSimpArgs false

theorem repl_aok {l ins x : List Kl} {t n : Int} (hT : TOk l) (hl : ins.length ≤ 10) (h : repl l t n ins = some x) : AOk x ∧ x.length ≤ 1000 := by
  unfold repl at h
  split at h
  · rename_i hc
    injection h with h
    subst h
    refine ⟨((part_ok hT.2.1 _ _).append hc.2.2).append (part_ok hT.2.1 _ _), ?_⟩
    have h1 := part_len l 0 t
    have h2 := part_len l (t + n) (clen l)
    have h3 := hT.1
    simp only [List.length_append]; omega
  · cases h
theorem trim_aok {l ts x : List Kl} (hT : TOk l) (h : trimL l ts = some x) : AOk x ∧ x.length ≤ 1000 := by
  obtain ⟨h1, h2⟩ := trimL_ok hT.2.1 h
  have h3 := hT.1
  exact ⟨h1, by omega⟩
theorem ext_aok {l x : List Kl} {t n : Int} (hT : TOk l) (h : (if n < 1 then none else repl l t n []) = some x) : AOk x ∧ x.length ≤ 1000 := by
  split at h
  · cases h
  · exact repl_aok hT (by simp) h
theorem keep8 {w w0 w1 : World} {a1 a2 a3 a4 a5 a6 a7 a8 : Addr} {v1 v2 v3 v4 v5 v6 v7 v8 : Value}
    (h : w0.cell? a1 = some v1 ∧ w0.cell? a2 = some v2 ∧ w0.cell? a3 = some v3 ∧ w0.cell? a4 = some v4 ∧ w0.cell? a5 = some v5 ∧ w0.cell? a6 = some v6 ∧ w0.cell? a7 = some v7 ∧ w0.cell? a8 = some v8 ∧ Below w.heap.size w w0) (hb : Below w0.heap.size w0 w1) :
    w1.cell? a1 = some v1 ∧ w1.cell? a2 = some v2 ∧ w1.cell? a3 = some v3 ∧ w1.cell? a4 = some v4 ∧ w1.cell? a5 = some v5 ∧ w1.cell? a6 = some v6 ∧ w1.cell? a7 = some v7 ∧ w1.cell? a8 = some v8 ∧ Below w.heap.size w w1 := by
  obtain ⟨h1, h2, h3, h4, h5, h6, h7, h8, h9⟩ := h
  exact ⟨cell_later hb h1, cell_later hb h2, cell_later hb h3, cell_later hb h4, cell_later hb h5, cell_later hb h6, cell_later hb h7, cell_later hb h8, h9.trans (hb.mono h9.size)⟩
theorem keep8d {w w0 : World} {a1 a2 a3 a4 a5 a6 a7 a8 : Addr} {v1 v2 v3 v4 v5 v6 v7 v8 : Value}
    (h : w0.cell? a1 = some v1 ∧ w0.cell? a2 = some v2 ∧ w0.cell? a3 = some v3 ∧ w0.cell? a4 = some v4 ∧ w0.cell? a5 = some v5 ∧ w0.cell? a6 = some v6 ∧ w0.cell? a7 = some v7 ∧ w0.cell? a8 = some v8 ∧ Below w.heap.size w w0) :
    w0.drew.cell? a1 = some v1 ∧ w0.drew.cell? a2 = some v2 ∧ w0.drew.cell? a3 = some v3 ∧ w0.drew.cell? a4 = some v4 ∧ w0.drew.cell? a5 = some v5 ∧ w0.drew.cell? a6 = some v6 ∧ w0.drew.cell? a7 = some v7 ∧ w0.drew.cell? a8 = some v8 ∧ Below w.heap.size w w0.drew := by
  obtain ⟨h1, h2, h3, h4, h5, h6, h7, h8, h9⟩ := h
  exact ⟨h1, h2, h3, h4, h5, h6, h7, h8, h9.drew⟩
theorem edR_join {w w2 : World} {x : List Kl} {g c : Nat} (hg : w.heap.size ≤ g) (ho : Own w2 w.heap.size g (join x).length c (join x)) (hT : TOk (join x)) (hb : Below w.heap.size w w2) : EdR w w2 (med (some x)) (.returned (.tuple #[.slice (some ⟨g, 0, none⟩) (join x).length c, .bool true])) := by
  have e : med (some x) = some (join x) := if_pos hT
  rw [e]
  exact ⟨g, c, rfl, hg, ho, hb⟩
theorem med_no {x : List Kl} (hT : ¬ TOk (join x)) : med (some x) = none := if_neg hT

end Go.Proofs.Ytnmahojdaodlgaa
