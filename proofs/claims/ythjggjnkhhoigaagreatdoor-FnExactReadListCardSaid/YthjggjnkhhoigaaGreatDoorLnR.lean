/-
  Plain facts on reading a line as the model does: the source of a word, what goes on, the track behind a line. No program is named here; there are no conditions.
  Plain facts on reading a list: its lines, and the fold over them. No program is named here; there are no conditions.
-/
import Derived.Test.YthjggjnkhhoigaaGreatDoorLnP
import Derived.Test.YthjggjnkhhoigaaGreatDoorSNm
namespace Go.Proofs.YthjggjnkhhoigaaGreatDoor
open Go.RowKit
set_option linter.unusedVariables false
set_option linter.unusedSimpArgs false

theorem src_num_ok {b : UInt8} {r : List UInt8} {x : Int} (h : NmR r x true) (hb : b = 82) (h1 : 1 ≤ x) (h5 : x ≤ 500) : srcO (b :: r) = some x := by
  refine srcO_ok (.inl ⟨rfl, by omega, h5, ?_⟩)
  unfold srcW
  rw [if_neg (by omega), hb, h.1 rfl h1]
theorem src_num_no {b : UInt8} {r : List UInt8} {x : Int} {ok : Bool} (h : NmR r x ok) (hl : b :: r ≠ [66, 76]) (hn : ¬ (b = 82 ∧ ok = true ∧ 1 ≤ x ∧ x ≤ 500)) : srcO (b :: r) = none := by
  refine srcO_no (x := 0) (.inr ⟨rfl, rfl, fun y h0 h5 e => ?_⟩)
  unfold srcW at e
  split at e
  · exact hl e
  · injection e with e1 e2
    obtain ⟨a1, a2⟩ := h.2 y.toNat (by omega) (by omega) e2
    exact hn ⟨e1, a1, by omega, by omega⟩
theorem src_gap : srcO [66, 76] = some 0 := srcO_ok (.inl ⟨rfl, by omega, by omega, rfl⟩)
theorem join_more (tr : List Kl) (c : Kl) : join (tr ++ [c]) = jstep (join tr) c := by unfold join; rw [List.foldl_append]; rfl
theorem join_same {tr : List Kl} {c : Kl} (hj : join tr = tr) : (join (tr ++ [c])).length ≠ (tr ++ [c]).length ↔ lastGoes tr c := by
  rw [join_more, hj]
  rcases List.eq_nil_or_concat tr with rfl | ⟨o, p, rfl⟩
  · rw [jstep_nil]
    simp [not_lastGoes_nil]
  · rw [List.concat_eq_append, jstep_snoc, lastGoes_snoc]
    by_cases hg : goes p c
    · rw [if_pos hg]; simp [hg]
    · rw [if_neg hg]; simp [hg]
theorem join_keeps {tr : List Kl} {c : Kl} (hj : join tr = tr) (h : ¬ lastGoes tr c) : join (tr ++ [c]) = tr ++ [c] := by
  rw [join_more, hj]
  rcases List.eq_nil_or_concat tr with rfl | ⟨o, p, rfl⟩
  · rw [jstep_nil]; rfl
  · rw [List.concat_eq_append] at h ⊢
    rw [lastGoes_snoc] at h
    rw [jstep_snoc, if_neg h]
/-- a line without a fault: its clip goes behind the track, which stays joined and a track -/
theorem addO_zero {tr : List Kl} {en : Int} {c k : Kl} {fr tu : Int} (h : addO tr en c fr tu = (0, k)) : k = c ∧ COk c ∧ fr = en ∧ tu - fr = c.2.2 ∧ ¬ lastGoes tr c ∧ TOk (tr ++ [c]) := by
  unfold addO at h
  split at h
  · injection h with h; omega
  · rename_i h1
    split at h
    · injection h with h; omega
    · rename_i h2
      split at h
      · injection h with h; omega
      · rename_i h3
        injection h with _ h
        refine ⟨h.symm, Classical.not_not.1 h1, Classical.byContradiction fun e => h2 (.inl e), Classical.byContradiction fun e => h2 (.inr e), fun e => h3 (.inl e), Classical.byContradiction fun e => h3 (.inr e)⟩

end Go.Proofs.YthjggjnkhhoigaaGreatDoor

namespace Go.Proofs.YthjggjnkhhoigaaGreatDoor
open Go.RowKit
set_option linter.unusedVariables false
set_option linter.unusedSimpArgs false

/-- the lines of a text, where one is under way -/
def linesG : List UInt8 → List UInt8 → List (List UInt8)
  | _, [] => []
  | cur, b :: r => if b = 10 then cur :: linesG [] r else linesG (cur ++ [b]) r
/-- the lines of a text, each without its byte 10 -/
def linesOf (t : List UInt8) : List (List UInt8) := linesG [] t
theorem linesG_10 (cur r : List UInt8) : linesG cur (10 :: r) = cur :: linesOf r := by simp [linesG, linesOf]
theorem linesG_ne {b : UInt8} (h : b ≠ 10) (cur r : List UInt8) : linesG cur (b :: r) = linesG (cur ++ [b]) r := by simp [linesG, h]
theorem linesG_at {l : List UInt8} {k f : Nat} {b : UInt8} (h : l[k]? = some b) (hb : b ≠ 10) (hf : f ≤ k) : linesG ((l.take k).drop f) (l.drop k) = linesG ((l.take (k + 1)).drop f) (l.drop (k + 1)) := by
  have hk : k < l.length := (List.getElem?_eq_some_iff.1 h).1
  rw [List.drop_eq_getElem_cons hk, drop_snoc h hf]
  have : l[k] = b := by rw [List.getElem?_eq_getElem hk] at h; exact Option.some.inj h
  rw [this, linesG_ne hb]
theorem linesG_end {l : List UInt8} {k f : Nat} (h : l[k]? = some 10) : linesG ((l.take k).drop f) (l.drop k) = (l.take k).drop f :: linesG ((l.take (k + 1)).drop (k + 1)) (l.drop (k + 1)) := by
  have hk : k < l.length := (List.getElem?_eq_some_iff.1 h).1
  have : l[k] = 10 := by rw [List.getElem?_eq_getElem hk] at h; exact Option.some.inj h
  rw [List.drop_eq_getElem_cons hk, this, linesG_10]
  have e : (l.take (k + 1)).drop (k + 1) = [] := by rw [List.drop_eq_nil_iff]; simp; omega
  rw [e]; rfl
theorem linesG_pre (a r : List UInt8) : ∀ cur, 10 ∉ a → linesG cur (a ++ 10 :: r) = (cur ++ a) :: linesOf r := by
  induction a with
  | nil => intro cur _; rw [List.nil_append, linesG_10, List.append_nil]
  | cons b a ih =>
    intro cur h
    rw [List.cons_append, linesG_ne (fun e => h (by simp [e])), ih _ (fun e => h (by simp [e]))]
    simp
theorem linesOf_pre {a r : List UInt8} (h : 10 ∉ a) : linesOf (a ++ 10 :: r) = a :: linesOf r := by unfold linesOf; rw [linesG_pre a r [] h]; rfl
theorem linesG_len (l : List UInt8) : ∀ cur, (linesG cur l).length = l.count 10 := by
  induction l with
  | nil => intro cur; rfl
  | cons b l ih =>
    intro cur
    by_cases h : b = 10
    · subst h; rw [linesG_10]; simp; exact ih []
    · rw [linesG_ne h, ih, List.count_cons_of_ne (by simpa using h)]
theorem linesOf_len (l : List UInt8) : (linesOf l).length = l.count 10 := linesG_len l []

open Classical in
/-- what a list is told as: its track, a code, a line -/
noncomputable def readF (n d : Int) (dr : Bool) : List (List UInt8) → List Kl → Int → List Kl × Int × Int
  | [], tr, _ => (tr, 0, 0)
  | l :: ls, tr, en => if (lineO n d dr l tr en).1 = 0 then readF n d dr ls (tr ++ [(lineO n d dr l tr en).2]) (en + (lineO n d dr l tr en).2.2.2) else ([], (lineO n d dr l tr en).1, (tr.length : Int))
variable {n d : Int} {dr : Bool} {l : List UInt8} {ls : List (List UInt8)} {tr : List Kl} {en : Int}
theorem readF_ok (h : (lineO n d dr l tr en).1 = 0) : readF n d dr (l :: ls) tr en = readF n d dr ls (tr ++ [(lineO n d dr l tr en).2]) (en + (lineO n d dr l tr en).2.2.2) := by rw [readF, if_pos h]
theorem readF_no (h : (lineO n d dr l tr en).1 ≠ 0) : readF n d dr (l :: ls) tr en = ([], (lineO n d dr l tr en).1, (tr.length : Int)) := by rw [readF, if_neg h]
/-- what holds of the track so far -/
structure TrI (tr : List Kl) (en : Int) : Prop where
  ok : TOk tr
  jo : join tr = tr
  at0 : en = clen tr
theorem TrI.zero : TrI [] 0 := ⟨⟨by simp, fun c h => by simp at h, by simp [clen]⟩, rfl, rfl⟩
theorem lineO_zero {k : Kl} (h : lineO n d dr l tr en = (0, k)) : ∃ c fr tu, addO tr en c fr tu = (0, k) := by
  by_cases hg : goodW (wordsL l)
  · obtain ⟨a, b, c, t0, t1, t2, t3, hw⟩ := good_seven hg
    by_cases ha : a = numW tr.length
    · cases hs : srcO b with
      | none => rw [lineO_6 hg hw ha (.inl hs)] at h; injection h with h; omega
      | some s =>
        by_cases hc : c = [67]
        · cases h0 : timeO n d dr t0 with
          | none => rw [lineO_7 hg hw ha hs hc (.inl h0)] at h; injection h with h; omega
          | some x0 =>
            cases h1 : timeO n d dr t1 with
            | none => rw [lineO_7 hg hw ha hs hc (.inr (.inl h1))] at h; injection h with h; omega
            | some x1 =>
              cases h2 : timeO n d dr t2 with
              | none => rw [lineO_7 hg hw ha hs hc (.inr (.inr (.inl h2)))] at h; injection h with h; omega
              | some x2 =>
                cases h3 : timeO n d dr t3 with
                | none => rw [lineO_7 hg hw ha hs hc (.inr (.inr (.inr h3)))] at h; injection h with h; omega
                | some x3 => rw [lineO_add hg hw ha hs hc h0 h1 h2 h3] at h; exact ⟨_, _, _, h⟩
        · rw [lineO_6 hg hw ha (.inr hc)] at h; injection h with h; omega
    · rw [lineO_5 hg hw ha] at h; injection h with h; omega
  · rw [lineO_4 hg] at h; injection h with h; omega
theorem TrI.step (h : TrI tr en) (h0 : (lineO n d dr l tr en).1 = 0) : TrI (tr ++ [(lineO n d dr l tr en).2]) (en + (lineO n d dr l tr en).2.2.2) := by
  obtain ⟨c, fr, tu, ha⟩ := lineO_zero (k := (lineO n d dr l tr en).2) (n := n) (d := d) (dr := dr) (l := l) (tr := tr) (en := en) (by rw [← h0])
  obtain ⟨e, hc, h1, h2, h3, h4⟩ := addO_zero ha
  rw [e]
  exact ⟨h4, join_keeps h.jo h3, by rw [clen_append, h.at0]; simp [clen]⟩

end Go.Proofs.YthjggjnkhhoigaaGreatDoor
