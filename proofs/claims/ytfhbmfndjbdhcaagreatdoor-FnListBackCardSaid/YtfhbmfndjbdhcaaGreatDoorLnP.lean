/-
  Plain facts on reading a line: what it is told as. No program is named here; there are no conditions.
  Plain facts on reading a line as the model does: the source of a word, what goes on, the track behind a line. No program is named here; there are no conditions.
  Plain facts on reading a list: its lines, and the fold over them. No program is named here; there are no conditions.
-/
import Derived.Test.YtfhbmfndjbdhcaaGreatDoorIWo
import Derived.Test.YtfhbmfndjbdhcaaGreatDoorLrQ
import Derived.Test.YtfhbmfndjbdhcaaGreatDoorEdP
import Derived.Test.YtfhbmfndjbdhcaaGreatDoorSNm
namespace Go.Proofs.YtfhbmfndjbdhcaaGreatDoor
open Go.RowKit
set_option linter.unusedVariables false
set_option linter.unusedSimpArgs false

open Classical in
/-- the frame that a text tells -/
noncomputable def timeO (n d : Int) (dr : Bool) (t : List UInt8) : Option Int := if h : ∃ x, Pl.RD n d dr t x true then some (Classical.choose h) else none
theorem timeO_ok {n d : Int} {dr : Bool} {t : List UInt8} {x : Int} (h : Pl.RD n d dr t x true) : timeO n d dr t = some x := by
  have he : ∃ x, Pl.RD n d dr t x true := ⟨x, h⟩
  unfold timeO
  rw [dif_pos he, (Pl.RD_one (Classical.choose_spec he) h).1]
theorem timeO_no {n d : Int} {dr : Bool} {t : List UInt8} {x : Int} (h : Pl.RD n d dr t x false) : timeO n d dr t = none := by
  unfold timeO
  rw [dif_neg]
  rintro ⟨y, hy⟩
  have := (Pl.RD_one hy h).2
  cases this
open Classical in
/-- the source that a word tells -/
noncomputable def srcO (t : List UInt8) : Option Int := if h : ∃ x, SrcR t x true then some (Classical.choose h) else none
theorem srcO_ok {t : List UInt8} {x : Int} (h : SrcR t x true) : srcO t = some x := by
  have he : ∃ x, SrcR t x true := ⟨x, h⟩
  unfold srcO
  rw [dif_pos he, ((Classical.choose_spec he).one h).1]
theorem srcO_no {t : List UInt8} {x : Int} (h : SrcR t x false) : srcO t = none := by
  unfold srcO
  rw [dif_neg]
  rintro ⟨y, hy⟩
  have := (hy.one h).2
  cases this
/-- the last clip goes on in c -/
def lastGoes (l : List Kl) (c : Kl) : Prop := ∃ o p, l = o ++ [p] ∧ goes p c
open Classical in
/-- what a clip more is told as -/
noncomputable def addO (tr : List Kl) (en : Int) (c : Kl) (fr tu : Int) : Int × Kl :=
  if ¬ COk c then (8, (0, 0, 0)) else if fr ≠ en ∨ tu - fr ≠ c.2.2 then (9, (0, 0, 0)) else if lastGoes tr c ∨ ¬ TOk (tr ++ [c]) then (10, (0, 0, 0)) else (0, c)
open Classical in
/-- what a line is told as: a code, and a clip -/
noncomputable def lineO (n d : Int) (dr : Bool) (l : List UInt8) (tr : List Kl) (en : Int) : Int × Kl :=
  match wordsL l with
  | [a, b, c, t0, t1, t2, t3] =>
    if ¬ goodW [a, b, c, t0, t1, t2, t3] then (4, (0, 0, 0)) else if a ≠ numW tr.length then (5, (0, 0, 0)) else
    match srcO b with
    | none => (6, (0, 0, 0))
    | some s => if c ≠ [67] then (6, (0, 0, 0)) else
      match timeO n d dr t0, timeO n d dr t1, timeO n d dr t2, timeO n d dr t3 with
      | some x0, some x1, some x2, some x3 => addO tr en (s, x0, x1 - x0) x2 x3
      | _, _, _, _ => (7, (0, 0, 0))
  | _ => (4, (0, 0, 0))
variable {n d : Int} {dr : Bool} {l : List UInt8} {tr : List Kl} {en : Int}
theorem lineO_4 (h : ¬ goodW (wordsL l)) : lineO n d dr l tr en = (4, (0, 0, 0)) := by
  unfold lineO
  split
  · rename_i e; rw [e] at h; rw [if_pos h]
  · rfl
theorem good_seven {ws : List (List UInt8)} (h : goodW ws) : ∃ a b c t0 t1 t2 t3, ws = [a, b, c, t0, t1, t2, t3] := by
  match ws, h.1 with
  | [a, b, c, t0, t1, t2, t3], _ => exact ⟨a, b, c, t0, t1, t2, t3, rfl⟩
variable {a b c t0 t1 t2 t3 : List UInt8}
theorem lineO_5 (h : goodW (wordsL l)) (hw : wordsL l = [a, b, c, t0, t1, t2, t3]) (ha : a ≠ numW tr.length) : lineO n d dr l tr en = (5, (0, 0, 0)) := by
  unfold lineO
  rw [hw] at h ⊢
  simp only [if_neg (Classical.not_not.2 h), if_pos ha]
theorem lineO_6 (h : goodW (wordsL l)) (hw : wordsL l = [a, b, c, t0, t1, t2, t3]) (ha : a = numW tr.length) (hs : srcO b = none ∨ c ≠ [67]) : lineO n d dr l tr en = (6, (0, 0, 0)) := by
  unfold lineO
  rw [hw] at h ⊢
  simp only [if_neg (Classical.not_not.2 h), if_neg (Classical.not_not.2 ha)]
  cases hb : srcO b with
  | none => rfl
  | some s =>
    rcases hs with hs | hs
    · rw [hs] at hb; cases hb
    · simp only [if_pos hs]
theorem lineO_7 {s : Int} (h : goodW (wordsL l)) (hw : wordsL l = [a, b, c, t0, t1, t2, t3]) (ha : a = numW tr.length) (hs : srcO b = some s) (hc : c = [67]) (ht : timeO n d dr t0 = none ∨ timeO n d dr t1 = none ∨ timeO n d dr t2 = none ∨ timeO n d dr t3 = none) : lineO n d dr l tr en = (7, (0, 0, 0)) := by
  unfold lineO
  rw [hw] at h ⊢
  simp only [if_neg (Classical.not_not.2 h), if_neg (Classical.not_not.2 ha), hs, if_neg (Classical.not_not.2 hc)]
  split
  · rename_i e0 e1 e2 e3
    rw [e0, e1, e2, e3] at ht
    simp at ht
  · rfl
theorem lineO_add {s x0 x1 x2 x3 : Int} (h : goodW (wordsL l)) (hw : wordsL l = [a, b, c, t0, t1, t2, t3]) (ha : a = numW tr.length) (hs : srcO b = some s) (hc : c = [67]) (h0 : timeO n d dr t0 = some x0) (h1 : timeO n d dr t1 = some x1) (h2 : timeO n d dr t2 = some x2) (h3 : timeO n d dr t3 = some x3) : lineO n d dr l tr en = addO tr en (s, x0, x1 - x0) x2 x3 := by
  unfold lineO
  rw [hw] at h ⊢
  simp only [if_neg (Classical.not_not.2 h), if_neg (Classical.not_not.2 ha), hs, if_neg (Classical.not_not.2 hc), h0, h1, h2, h3]
variable {k : Kl} {fr tu : Int}
theorem addO_8 (h : ¬ COk k) : addO tr en k fr tu = (8, (0, 0, 0)) := if_pos h
theorem addO_9 (h : COk k) (h2 : fr ≠ en ∨ tu - fr ≠ k.2.2) : addO tr en k fr tu = (9, (0, 0, 0)) := by unfold addO; rw [if_neg (Classical.not_not.2 h), if_pos h2]
theorem addO_10 (h : COk k) (h1 : fr = en) (h2 : tu - fr = k.2.2) (h3 : lastGoes tr k ∨ ¬ TOk (tr ++ [k])) : addO tr en k fr tu = (10, (0, 0, 0)) := by unfold addO; rw [if_neg (Classical.not_not.2 h), if_neg (by simp [h1]; rw [← h1]; exact h2), if_pos h3]
theorem addO_0 (h : COk k) (h1 : fr = en) (h2 : tu - fr = k.2.2) (h3 : ¬ lastGoes tr k) (h4 : TOk (tr ++ [k])) : addO tr en k fr tu = (0, k) := by unfold addO; rw [if_neg (Classical.not_not.2 h), if_neg (by simp [h1]; rw [← h1]; exact h2), if_neg (by simp [h3, h4])]
theorem not_lastGoes_nil : ¬ lastGoes [] k := by rintro ⟨o, p, h, _⟩; simp at h
theorem lastGoes_snoc {o : List Kl} {p : Kl} : lastGoes (o ++ [p]) k ↔ goes p k := by
  constructor
  · rintro ⟨o', p', h, hg⟩
    have := List.append_inj' h rfl
    have h2 := this.2
    injection h2 with h2
    rw [h2]; exact hg
  · intro h; exact ⟨o, p, rfl, h⟩
theorem RD_bd {t : List UInt8} {x : Int} (h : Pl.RD n d dr t x true) : 0 ≤ x ∧ x ≤ 10000000 := by
  rcases h with ⟨_, h1, h2⟩ | ⟨h, _⟩
  · obtain ⟨_, h3, _⟩ := Pl.tt_some (n := n) (d := d) (dr := dr) (f := x) (by rw [h2]; exact h1)
    exact Pl.isf_bd h3
  · cases h

end Go.Proofs.YtfhbmfndjbdhcaaGreatDoor

namespace Go.Proofs.YtfhbmfndjbdhcaaGreatDoor
open Go.RowKit
set_option linter.unusedVariables false
set_option linter.unusedSimpArgs false

theorem src_num_ok {b : UInt8} {r : List UInt8} {x : Int} (h : NmR r x true) (hb : b = 82) (h1 : 1 ≤ x) (h5 : x ≤ 500) : srcO (b :: r) = some x := by
  refine srcO_ok (.inl ⟨rfl, by omega, h5, ?_⟩)
  unfold srcW
  rw [if_neg (by omega), hb, h.1 rfl h1]
theorem src_num_no {b : UInt8} {r : List UInt8} {x : Int} {ok : Bool} (h : NmR r x ok) (hl : b :: r ≠ [66, 76]) (hn : ¬ (b = 82 ∧ ok = true ∧ 1 ≤ x ∧ x ≤ 500)) : srcO (b :: r) = none := by
  refine srcO_no (x := 0) (.inr ⟨rfl, rfl, fun y h0 h5 e => ?_⟩)
  unfold srcW at e
  split at e
  · exact hl e
  · injection e with e1 e2
    obtain ⟨a1, a2⟩ := h.2 y.toNat (by omega) (by omega) e2
    exact hn ⟨e1, a1, by omega, by omega⟩
theorem src_gap : srcO [66, 76] = some 0 := srcO_ok (.inl ⟨rfl, by omega, by omega, rfl⟩)
theorem join_more (tr : List Kl) (c : Kl) : join (tr ++ [c]) = jstep (join tr) c := by unfold join; rw [List.foldl_append]; rfl
theorem join_same {tr : List Kl} {c : Kl} (hj : join tr = tr) : (join (tr ++ [c])).length ≠ (tr ++ [c]).length ↔ lastGoes tr c := by
  rw [join_more, hj]
  rcases List.eq_nil_or_concat tr with rfl | ⟨o, p, rfl⟩
  · rw [jstep_nil]
    simp [not_lastGoes_nil]
  · rw [List.concat_eq_append, jstep_snoc, lastGoes_snoc]
    by_cases hg : goes p c
    · rw [if_pos hg]; simp [hg]
    · rw [if_neg hg]; simp [hg]
theorem join_keeps {tr : List Kl} {c : Kl} (hj : join tr = tr) (h : ¬ lastGoes tr c) : join (tr ++ [c]) = tr ++ [c] := by
  rw [join_more, hj]
  rcases List.eq_nil_or_concat tr with rfl | ⟨o, p, rfl⟩
  · rw [jstep_nil]; rfl
  · rw [List.concat_eq_append] at h ⊢
    rw [lastGoes_snoc] at h
    rw [jstep_snoc, if_neg h]
/-- a line without a fault: its clip goes behind the track, which stays joined and a track -/
theorem addO_zero {tr : List Kl} {en : Int} {c k : Kl} {fr tu : Int} (h : addO tr en c fr tu = (0, k)) : k = c ∧ COk c ∧ fr = en ∧ tu - fr = c.2.2 ∧ ¬ lastGoes tr c ∧ TOk (tr ++ [c]) := by
  unfold addO at h
  split at h
  · injection h with h; omega
  · rename_i h1
    split at h
    · injection h with h; omega
    · rename_i h2
      split at h
      · injection h with h; omega
      · rename_i h3
        injection h with _ h
        refine ⟨h.symm, Classical.not_not.1 h1, Classical.byContradiction fun e => h2 (.inl e), Classical.byContradiction fun e => h2 (.inr e), fun e => h3 (.inl e), Classical.byContradiction fun e => h3 (.inr e)⟩

end Go.Proofs.YtfhbmfndjbdhcaaGreatDoor

namespace Go.Proofs.YtfhbmfndjbdhcaaGreatDoor
open Go.RowKit
set_option linter.unusedVariables false
set_option linter.unusedSimpArgs false

/-- the lines of a text, where one is under way -/
def linesG : List UInt8 → List UInt8 → List (List UInt8)
  | _, [] => []
  | cur, b :: r => if b = 10 then cur :: linesG [] r else linesG (cur ++ [b]) r
/-- the lines of a text, each without its byte 10 -/
def linesOf (t : List UInt8) : List (List UInt8) := linesG [] t
theorem linesG_10 (cur r : List UInt8) : linesG cur (10 :: r) = cur :: linesOf r := by simp [linesG, linesOf]
theorem linesG_ne {b : UInt8} (h : b ≠ 10) (cur r : List UInt8) : linesG cur (b :: r) = linesG (cur ++ [b]) r := by simp [linesG, h]
theorem linesG_at {l : List UInt8} {k f : Nat} {b : UInt8} (h : l[k]? = some b) (hb : b ≠ 10) (hf : f ≤ k) : linesG ((l.take k).drop f) (l.drop k) = linesG ((l.take (k + 1)).drop f) (l.drop (k + 1)) := by
  have hk : k < l.length := (List.getElem?_eq_some_iff.1 h).1
  rw [List.drop_eq_getElem_cons hk, drop_snoc h hf]
  have : l[k] = b := by rw [List.getElem?_eq_getElem hk] at h; exact Option.some.inj h
  rw [this, linesG_ne hb]
theorem linesG_end {l : List UInt8} {k f : Nat} (h : l[k]? = some 10) : linesG ((l.take k).drop f) (l.drop k) = (l.take k).drop f :: linesG ((l.take (k + 1)).drop (k + 1)) (l.drop (k + 1)) := by
  have hk : k < l.length := (List.getElem?_eq_some_iff.1 h).1
  have : l[k] = 10 := by rw [List.getElem?_eq_getElem hk] at h; exact Option.some.inj h
  rw [List.drop_eq_getElem_cons hk, this, linesG_10]
  have e : (l.take (k + 1)).drop (k + 1) = [] := by rw [List.drop_eq_nil_iff]; simp; omega
  rw [e]; rfl
theorem linesG_pre (a r : List UInt8) : ∀ cur, 10 ∉ a → linesG cur (a ++ 10 :: r) = (cur ++ a) :: linesOf r := by
  induction a with
  | nil => intro cur _; rw [List.nil_append, linesG_10, List.append_nil]
  | cons b a ih =>
    intro cur h
    rw [List.cons_append, linesG_ne (fun e => h (by simp [e])), ih _ (fun e => h (by simp [e]))]
    simp
theorem linesOf_pre {a r : List UInt8} (h : 10 ∉ a) : linesOf (a ++ 10 :: r) = a :: linesOf r := by unfold linesOf; rw [linesG_pre a r [] h]; rfl
theorem linesG_len (l : List UInt8) : ∀ cur, (linesG cur l).length = l.count 10 := by
  induction l with
  | nil => intro cur; rfl
  | cons b l ih =>
    intro cur
    by_cases h : b = 10
    · subst h; rw [linesG_10]; simp; exact ih []
    · rw [linesG_ne h, ih, List.count_cons_of_ne (by simpa using h)]
theorem linesOf_len (l : List UInt8) : (linesOf l).length = l.count 10 := linesG_len l []

open Classical in
/-- what a list is told as: its track, a code, a line -/
noncomputable def readF (n d : Int) (dr : Bool) : List (List UInt8) → List Kl → Int → List Kl × Int × Int
  | [], tr, _ => (tr, 0, 0)
  | l :: ls, tr, en => if (lineO n d dr l tr en).1 = 0 then readF n d dr ls (tr ++ [(lineO n d dr l tr en).2]) (en + (lineO n d dr l tr en).2.2.2) else ([], (lineO n d dr l tr en).1, (tr.length : Int))
variable {n d : Int} {dr : Bool} {l : List UInt8} {ls : List (List UInt8)} {tr : List Kl} {en : Int}
theorem readF_ok (h : (lineO n d dr l tr en).1 = 0) : readF n d dr (l :: ls) tr en = readF n d dr ls (tr ++ [(lineO n d dr l tr en).2]) (en + (lineO n d dr l tr en).2.2.2) := by rw [readF, if_pos h]
theorem readF_no (h : (lineO n d dr l tr en).1 ≠ 0) : readF n d dr (l :: ls) tr en = ([], (lineO n d dr l tr en).1, (tr.length : Int)) := by rw [readF, if_neg h]
/-- what holds of the track so far -/
structure TrI (tr : List Kl) (en : Int) : Prop where
  ok : TOk tr
  jo : join tr = tr
  at0 : en = clen tr
theorem TrI.zero : TrI [] 0 := ⟨⟨by simp, fun c h => by simp at h, by simp [clen]⟩, rfl, rfl⟩
theorem lineO_zero {k : Kl} (h : lineO n d dr l tr en = (0, k)) : ∃ c fr tu, addO tr en c fr tu = (0, k) := by
  by_cases hg : goodW (wordsL l)
  · obtain ⟨a, b, c, t0, t1, t2, t3, hw⟩ := good_seven hg
    by_cases ha : a = numW tr.length
    · cases hs : srcO b with
      | none => rw [lineO_6 hg hw ha (.inl hs)] at h; injection h with h; omega
      | some s =>
        by_cases hc : c = [67]
        · cases h0 : timeO n d dr t0 with
          | none => rw [lineO_7 hg hw ha hs hc (.inl h0)] at h; injection h with h; omega
          | some x0 =>
            cases h1 : timeO n d dr t1 with
            | none => rw [lineO_7 hg hw ha hs hc (.inr (.inl h1))] at h; injection h with h; omega
            | some x1 =>
              cases h2 : timeO n d dr t2 with
              | none => rw [lineO_7 hg hw ha hs hc (.inr (.inr (.inl h2)))] at h; injection h with h; omega
              | some x2 =>
                cases h3 : timeO n d dr t3 with
                | none => rw [lineO_7 hg hw ha hs hc (.inr (.inr (.inr h3)))] at h; injection h with h; omega
                | some x3 => rw [lineO_add hg hw ha hs hc h0 h1 h2 h3] at h; exact ⟨_, _, _, h⟩
        · rw [lineO_6 hg hw ha (.inr hc)] at h; injection h with h; omega
    · rw [lineO_5 hg hw ha] at h; injection h with h; omega
  · rw [lineO_4 hg] at h; injection h with h; omega
theorem TrI.step (h : TrI tr en) (h0 : (lineO n d dr l tr en).1 = 0) : TrI (tr ++ [(lineO n d dr l tr en).2]) (en + (lineO n d dr l tr en).2.2.2) := by
  obtain ⟨c, fr, tu, ha⟩ := lineO_zero (k := (lineO n d dr l tr en).2) (n := n) (d := d) (dr := dr) (l := l) (tr := tr) (en := en) (by rw [← h0])
  obtain ⟨e, hc, h1, h2, h3, h4⟩ := addO_zero ha
  rw [e]
  exact ⟨h4, join_keeps h.jo h3, by rw [clen_append, h.at0]; simp [clen]⟩

end Go.Proofs.YtfhbmfndjbdhcaaGreatDoor
