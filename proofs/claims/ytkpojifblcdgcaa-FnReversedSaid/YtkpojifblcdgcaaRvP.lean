/-
  Plain facts: a track that is reversed shows its frames in the other order, and reversed again it is the track, joined; no program is named.
-/
import Derived.Test.YtkpojifblcdgcaaSpP
namespace Go.Proofs.Ytkpojifblcdgcaa
set_option linter.unusedVariables false
set_option linter.unusedSimpArgs false

theorem rev_back {l u : List Kl} (h : revOf l = some u) : TOk l ∧ clen l ≤ 2000 ∧ TOk u ∧ clen u = clen l ∧ (∀ i, 0 ≤ i → i < clen l → seen u (clen l - 1 - i) = seen l i) ∧ revOf u = some (join l) := by
  unfold revOf at h
  split at h
  · rename_i h1
    obtain ⟨hT, hc⟩ := h1
    obtain ⟨m1, m2, m3⟩ := revM_facts hT.2.1
    rw [edit_ok m1] at h
    split at h
    · rename_i hU
      injection h with h
      subst h
      have hcu : clen (join (revM l)) = clen l := by rw [clen_join, m2]
      have hs : ∀ i, 0 ≤ i → i < clen l → seen (join (revM l)) i = seen l (clen l - 1 - i) := fun i h0 h1 => by rw [seen_join m1.nn h0, m3 i h0 h1]
      refine ⟨hT, hc, hU, hcu, fun i h0 h1 => ?_, ?_⟩
      · rw [hs _ (by omega) (by omega)]; congr 1; omega
      · obtain ⟨n1, n2, n3⟩ := revM_facts hU.2.1
        rw [rev_yes hU (by omega), edit_ok n1]
        have hJ : join (revM (join (revM l))) = join l := by
          refine sees_join n1 hT.2.1 (join_aok n1 (by rw [n2]; exact hU.2.2)) (join_aok hT.2.1 hT.2.2) (by rw [n2, hcu]) (fun i h0 h1 => ?_)
          rw [n2, hcu] at h1
          rw [n3 i h0 (by omega), hcu, hs _ (by omega) (by omega)]
          congr 1; omega
        rw [hJ, if_pos (join_tok hT)]
    · cases h
  · cases h
end Go.Proofs.Ytkpojifblcdgcaa
