/-
  Plain facts on reading a line as the model does: the source of a word, what goes on, the track behind a line. No program is named here; there are no conditions.
-/
import Derived.Test.YthjggjnkhhoigaaGreatDoorLnP
import Derived.Test.YthjggjnkhhoigaaGreatDoorSNm
namespace Go.Proofs.YthjggjnkhhoigaaGreatDoor
open Go.RowKit
set_option linter.unusedVariables false
set_option linter.unusedSimpArgs false

theorem src_num_ok {b : UInt8} {r : List UInt8} {x : Int} (h : NmR r x true) (hb : b = 82) (h1 : 1 ≤ x) (h5 : x ≤ 500) : srcO (b :: r) = some x := by
  refine srcO_ok (.inl ⟨rfl, by omega, h5, ?_⟩)
  unfold srcW
  rw [if_neg (by omega), hb, h.1 rfl h1]
theorem src_num_no {b : UInt8} {r : List UInt8} {x : Int} {ok : Bool} (h : NmR r x ok) (hl : b :: r ≠ [66, 76]) (hn : ¬ (b = 82 ∧ ok = true ∧ 1 ≤ x ∧ x ≤ 500)) : srcO (b :: r) = none := by
  refine srcO_no (x := 0) (.inr ⟨rfl, rfl, fun y h0 h5 e => ?_⟩)
  unfold srcW at e
  split at e
  · exact hl e
  · injection e with e1 e2
    obtain ⟨a1, a2⟩ := h.2 y.toNat (by omega) (by omega) e2
    exact hn ⟨e1, a1, by omega, by omega⟩
theorem src_gap : srcO [66, 76] = some 0 := srcO_ok (.inl ⟨rfl, by omega, by omega, rfl⟩)
theorem join_more (tr : List Kl) (c : Kl) : join (tr ++ [c]) = jstep (join tr) c := by unfold join; rw [List.foldl_append]; rfl
theorem join_same {tr : List Kl} {c : Kl} (hj : join tr = tr) : (join (tr ++ [c])).length ≠ (tr ++ [c]).length ↔ lastGoes tr c := by
  rw [join_more, hj]
  rcases List.eq_nil_or_concat tr with rfl | ⟨o, p, rfl⟩
  · rw [jstep_nil]
    simp [not_lastGoes_nil]
  · rw [List.concat_eq_append, jstep_snoc, lastGoes_snoc]
    by_cases hg : goes p c
    · rw [if_pos hg]; simp [hg]
    · rw [if_neg hg]; simp [hg]
theorem join_keeps {tr : List Kl} {c : Kl} (hj : join tr = tr) (h : ¬ lastGoes tr c) : join (tr ++ [c]) = tr ++ [c] := by
  rw [join_more, hj]
  rcases List.eq_nil_or_concat tr with rfl | ⟨o, p, rfl⟩
  · rw [jstep_nil]; rfl
  · rw [List.concat_eq_append] at h ⊢
    rw [lastGoes_snoc] at h
    rw [jstep_snoc, if_neg h]
/-- a line without a fault: its clip goes behind the track, which stays joined and a track -/
theorem addO_zero {tr : List Kl} {en : Int} {c k : Kl} {fr tu : Int} (h : addO tr en c fr tu = (0, k)) : k = c ∧ COk c ∧ fr = en ∧ tu - fr = c.2.2 ∧ ¬ lastGoes tr c ∧ TOk (tr ++ [c]) := by
  unfold addO at h
  split at h
  · injection h with h; omega
  · rename_i h1
    split at h
    · injection h with h; omega
    · rename_i h2
      split at h
      · injection h with h; omega
      · rename_i h3
        injection h with _ h
        refine ⟨h.symm, Classical.not_not.1 h1, Classical.byContradiction fun e => h2 (.inl e), Classical.byContradiction fun e => h2 (.inr e), fun e => h3 (.inl e), Classical.byContradiction fun e => h3 (.inr e)⟩

end Go.Proofs.YthjggjnkhhoigaaGreatDoor
