/-
  Plain facts on reading a line: what it is told as. No program is named here; there are no conditions.
-/
import Derived.Test.YthjggjnkhhoigaaGreatDoorIWo
import Derived.Test.YthjggjnkhhoigaaGreatDoorLrQ
import Derived.Test.YthjggjnkhhoigaaGreatDoorEdP
namespace Go.Proofs.YthjggjnkhhoigaaGreatDoor
open Go.RowKit
set_option linter.unusedVariables false
set_option linter.unusedSimpArgs false

open Classical in
/-- the frame that a text tells -/
noncomputable def timeO (n d : Int) (dr : Bool) (t : List UInt8) : Option Int := if h : ∃ x, Pl.RD n d dr t x true then some (Classical.choose h) else none
theorem timeO_ok {n d : Int} {dr : Bool} {t : List UInt8} {x : Int} (h : Pl.RD n d dr t x true) : timeO n d dr t = some x := by
  have he : ∃ x, Pl.RD n d dr t x true := ⟨x, h⟩
  unfold timeO
  rw [dif_pos he, (Pl.RD_one (Classical.choose_spec he) h).1]
theorem timeO_no {n d : Int} {dr : Bool} {t : List UInt8} {x : Int} (h : Pl.RD n d dr t x false) : timeO n d dr t = none := by
  unfold timeO
  rw [dif_neg]
  rintro ⟨y, hy⟩
  have := (Pl.RD_one hy h).2
  cases this
open Classical in
/-- the source that a word tells -/
noncomputable def srcO (t : List UInt8) : Option Int := if h : ∃ x, SrcR t x true then some (Classical.choose h) else none
theorem srcO_ok {t : List UInt8} {x : Int} (h : SrcR t x true) : srcO t = some x := by
  have he : ∃ x, SrcR t x true := ⟨x, h⟩
  unfold srcO
  rw [dif_pos he, ((Classical.choose_spec he).one h).1]
theorem srcO_no {t : List UInt8} {x : Int} (h : SrcR t x false) : srcO t = none := by
  unfold srcO
  rw [dif_neg]
  rintro ⟨y, hy⟩
  have := (hy.one h).2
  cases this
/-- the last clip goes on in c -/
def lastGoes (l : List Kl) (c : Kl) : Prop := ∃ o p, l = o ++ [p] ∧ goes p c
open Classical in
/-- what a clip more is told as -/
noncomputable def addO (tr : List Kl) (en : Int) (c : Kl) (fr tu : Int) : Int × Kl :=
  if ¬ COk c then (8, (0, 0, 0)) else if fr ≠ en ∨ tu - fr ≠ c.2.2 then (9, (0, 0, 0)) else if lastGoes tr c ∨ ¬ TOk (tr ++ [c]) then (10, (0, 0, 0)) else (0, c)
open Classical in
/-- what a line is told as: a code, and a clip -/
noncomputable def lineO (n d : Int) (dr : Bool) (l : List UInt8) (tr : List Kl) (en : Int) : Int × Kl :=
  match wordsL l with
  | [a, b, c, t0, t1, t2, t3] =>
    if ¬ goodW [a, b, c, t0, t1, t2, t3] then (4, (0, 0, 0)) else if a ≠ numW tr.length then (5, (0, 0, 0)) else
    match srcO b with
    | none => (6, (0, 0, 0))
    | some s => if c ≠ [67] then (6, (0, 0, 0)) else
      match timeO n d dr t0, timeO n d dr t1, timeO n d dr t2, timeO n d dr t3 with
      | some x0, some x1, some x2, some x3 => addO tr en (s, x0, x1 - x0) x2 x3
      | _, _, _, _ => (7, (0, 0, 0))
  | _ => (4, (0, 0, 0))
variable {n d : Int} {dr : Bool} {l : List UInt8} {tr : List Kl} {en : Int}
theorem lineO_4 (h : ¬ goodW (wordsL l)) : lineO n d dr l tr en = (4, (0, 0, 0)) := by
  unfold lineO
  split
  · rename_i e; rw [e] at h; rw [if_pos h]
  · rfl
theorem good_seven {ws : List (List UInt8)} (h : goodW ws) : ∃ a b c t0 t1 t2 t3, ws = [a, b, c, t0, t1, t2, t3] := by
  match ws, h.1 with
  | [a, b, c, t0, t1, t2, t3], _ => exact ⟨a, b, c, t0, t1, t2, t3, rfl⟩
variable {a b c t0 t1 t2 t3 : List UInt8}
theorem lineO_5 (h : goodW (wordsL l)) (hw : wordsL l = [a, b, c, t0, t1, t2, t3]) (ha : a ≠ numW tr.length) : lineO n d dr l tr en = (5, (0, 0, 0)) := by
  unfold lineO
  rw [hw] at h ⊢
  simp only [if_neg (Classical.not_not.2 h), if_pos ha]
theorem lineO_6 (h : goodW (wordsL l)) (hw : wordsL l = [a, b, c, t0, t1, t2, t3]) (ha : a = numW tr.length) (hs : srcO b = none ∨ c ≠ [67]) : lineO n d dr l tr en = (6, (0, 0, 0)) := by
  unfold lineO
  rw [hw] at h ⊢
  simp only [if_neg (Classical.not_not.2 h), if_neg (Classical.not_not.2 ha)]
  cases hb : srcO b with
  | none => rfl
  | some s =>
    rcases hs with hs | hs
    · rw [hs] at hb; cases hb
    · simp only [if_pos hs]
theorem lineO_7 {s : Int} (h : goodW (wordsL l)) (hw : wordsL l = [a, b, c, t0, t1, t2, t3]) (ha : a = numW tr.length) (hs : srcO b = some s) (hc : c = [67]) (ht : timeO n d dr t0 = none ∨ timeO n d dr t1 = none ∨ timeO n d dr t2 = none ∨ timeO n d dr t3 = none) : lineO n d dr l tr en = (7, (0, 0, 0)) := by
  unfold lineO
  rw [hw] at h ⊢
  simp only [if_neg (Classical.not_not.2 h), if_neg (Classical.not_not.2 ha), hs, if_neg (Classical.not_not.2 hc)]
  split
  · rename_i e0 e1 e2 e3
    rw [e0, e1, e2, e3] at ht
    simp at ht
  · rfl
theorem lineO_add {s x0 x1 x2 x3 : Int} (h : goodW (wordsL l)) (hw : wordsL l = [a, b, c, t0, t1, t2, t3]) (ha : a = numW tr.length) (hs : srcO b = some s) (hc : c = [67]) (h0 : timeO n d dr t0 = some x0) (h1 : timeO n d dr t1 = some x1) (h2 : timeO n d dr t2 = some x2) (h3 : timeO n d dr t3 = some x3) : lineO n d dr l tr en = addO tr en (s, x0, x1 - x0) x2 x3 := by
  unfold lineO
  rw [hw] at h ⊢
  simp only [if_neg (Classical.not_not.2 h), if_neg (Classical.not_not.2 ha), hs, if_neg (Classical.not_not.2 hc), h0, h1, h2, h3]
variable {k : Kl} {fr tu : Int}
theorem addO_8 (h : ¬ COk k) : addO tr en k fr tu = (8, (0, 0, 0)) := if_pos h
theorem addO_9 (h : COk k) (h2 : fr ≠ en ∨ tu - fr ≠ k.2.2) : addO tr en k fr tu = (9, (0, 0, 0)) := by unfold addO; rw [if_neg (Classical.not_not.2 h), if_pos h2]
theorem addO_10 (h : COk k) (h1 : fr = en) (h2 : tu - fr = k.2.2) (h3 : lastGoes tr k ∨ ¬ TOk (tr ++ [k])) : addO tr en k fr tu = (10, (0, 0, 0)) := by unfold addO; rw [if_neg (Classical.not_not.2 h), if_neg (by simp [h1]; rw [← h1]; exact h2), if_pos h3]
theorem addO_0 (h : COk k) (h1 : fr = en) (h2 : tu - fr = k.2.2) (h3 : ¬ lastGoes tr k) (h4 : TOk (tr ++ [k])) : addO tr en k fr tu = (0, k) := by unfold addO; rw [if_neg (Classical.not_not.2 h), if_neg (by simp [h1]; rw [← h1]; exact h2), if_neg (by simp [h3, h4])]
theorem not_lastGoes_nil : ¬ lastGoes [] k := by rintro ⟨o, p, h, _⟩; simp at h
theorem lastGoes_snoc {o : List Kl} {p : Kl} : lastGoes (o ++ [p]) k ↔ goes p k := by
  constructor
  · rintro ⟨o', p', h, hg⟩
    have := List.append_inj' h rfl
    have h2 := this.2
    injection h2 with h2
    rw [h2]; exact hg
  · intro h; exact ⟨o, p, rfl, h⟩
theorem RD_bd {t : List UInt8} {x : Int} (h : Pl.RD n d dr t x true) : 0 ≤ x ∧ x ≤ 10000000 := by
  rcases h with ⟨_, h1, h2⟩ | ⟨h, _⟩
  · obtain ⟨_, h3, _⟩ := Pl.tt_some (n := n) (d := d) (dr := dr) (f := x) (by rw [h2]; exact h1)
    exact Pl.isf_bd h3
  · cases h

end Go.Proofs.YthjggjnkhhoigaaGreatDoor
