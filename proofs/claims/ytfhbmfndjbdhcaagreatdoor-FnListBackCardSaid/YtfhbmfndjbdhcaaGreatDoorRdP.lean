/-
  Plain facts on reading a list: what its text is told as. No program is named here; there are no conditions.
  Plain facts on lists: what is shown is read back, and what is read is shown as it was. No program is named here; there are no conditions.
-/
import Derived.Test.YtfhbmfndjbdhcaaGreatDoorLnP
import Derived.Test.YtfhbmfndjbdhcaaGreatDoorInst
import Derived.Test.YtfhbmfndjbdhcaaGreatDoorJoP
namespace Go.Proofs.YtfhbmfndjbdhcaaGreatDoor
open Go.RowKit
set_option linter.unusedVariables false
set_option linter.unusedSimpArgs false

open Classical in
/-- what a text is told as: its track, a code, a line -/
noncomputable def rdO (n d : Int) (dr : Bool) (l : List UInt8) : List Kl × Int × Int :=
  if Pl.rok n d dr = false then ([], 1, 0) else if 20000 < l.length then ([], 2, 0) else if l ≠ [] ∧ l.getLast? ≠ some 10 then ([], 3, 0) else readF n d dr (linesOf l) [] 0
variable {n d : Int} {dr : Bool} {l : List UInt8}
theorem rd_1 (h : Pl.rok n d dr = false) : rdO n d dr l = ([], 1, 0) := by unfold rdO; rw [if_pos h]
theorem rd_2 (h : Pl.rok n d dr = true) (h2 : 20000 < l.length) : rdO n d dr l = ([], 2, 0) := by unfold rdO; rw [if_neg (by rw [h]; decide), if_pos h2]
theorem rd_3 (h : Pl.rok n d dr = true) (h2 : l.length ≤ 20000) (h3 : l ≠ [] ∧ l.getLast? ≠ some 10) : rdO n d dr l = ([], 3, 0) := by unfold rdO; rw [if_neg (by rw [h]; decide), if_neg (by omega), if_pos h3]
theorem rd_4 (h : Pl.rok n d dr = true) (h2 : l.length ≤ 20000) (h3 : ¬ (l ≠ [] ∧ l.getLast? ≠ some 10)) : rdO n d dr l = readF n d dr (linesOf l) [] 0 := by unfold rdO; rw [if_neg (by rw [h]; decide), if_neg (by omega), if_neg h3]
theorem readF_len {ls : List (List UInt8)} : ∀ {tr : List Kl} {en : Int}, TrI tr en → (readF n d dr ls tr en).1.length ≤ 300 := by
  induction ls with
  | nil => intro tr en h; exact h.ok.1
  | cons x ls ih =>
    intro tr en h
    by_cases h0 : (lineO n d dr x tr en).1 = 0
    · rw [readF_ok h0]; exact ih (h.step h0)
    · rw [readF_no h0]; simp
theorem rd_len : (rdO n d dr l).1.length ≤ 300 := by
  unfold rdO
  split
  · simp
  · split
    · simp
    · split
      · simp
      · exact readF_len TrI.zero
theorem last_at {b : UInt8} (h : l ≠ []) (hb : l[l.length - 1]? = some b) : l.getLast? = some b := by rw [List.getLast?_eq_getElem?]; exact hb
/-- a list read, in memory of its own, and its fault -/
def RlP (w : World) (R : List Kl × Int × Int) (e : Ending) (w' : World) : Prop :=
  ∃ g c, e = .returned (.tuple #[.slice (some ⟨g, 0, none⟩) R.1.length c, .agg #[.int .i64 R.2.1, .int .i64 R.2.2]]) ∧ w.heap.size ≤ g ∧ Own w' w.heap.size g R.1.length c R.1 ∧ Below w.heap.size w w'
end Go.Proofs.YtfhbmfndjbdhcaaGreatDoor

namespace Go.Proofs.YtfhbmfndjbdhcaaGreatDoor
open Go.RowKit
set_option linter.unusedVariables false
set_option linter.unusedSimpArgs false

theorem wordsL_nn (l : List UInt8) : wordsL l ≠ [] := by unfold wordsL; simp
theorem wordsL_cons (b : UInt8) (l : List UInt8) : wordsL (b :: l) = if b = 32 then [] :: wordsL l else glue [b] (wordsL l) := by
  have e : wordsL (b :: l) = (l.foldl stepW (stepW ([], []) b)).1 ++ [(l.foldl stepW (stepW ([], []) b)).2] := rfl
  rw [e]
  by_cases h : b = 32
  · rw [if_pos h]
    have e2 : stepW ([], []) b = ([[]], []) := by unfold stepW; rw [if_pos h]; rfl
    rw [e2, fold_words]
    cases hw : wordsL l with
    | nil => exact absurd hw (wordsL_nn l)
    | cons x t => rfl
  · rw [if_neg h]
    have e2 : stepW ([], []) b = ([], [b]) := by unfold stepW; rw [if_neg h]; rfl
    rw [e2, fold_words]
    rfl
theorem words_pre {w : List UInt8} (h : 32 ∉ w) (r : List UInt8) : wordsL (w ++ 32 :: r) = w :: wordsL r := by
  induction w with
  | nil => rw [List.nil_append, wordsL_cons, if_pos rfl]
  | cons b w ih =>
    have hb : b ≠ 32 := fun e => h (by rw [e]; exact List.mem_cons_self)
    rw [List.cons_append, wordsL_cons, if_neg hb, ih (fun e => h (List.mem_cons_of_mem _ e))]
    rfl
theorem words_one {w : List UInt8} (h : 32 ∉ w) : wordsL w = [w] := by
  induction w with
  | nil => rfl
  | cons b w ih =>
    have hb : b ≠ 32 := fun e => h (by rw [e]; exact List.mem_cons_self)
    rw [wordsL_cons, if_neg hb, ih (fun e => h (List.mem_cons_of_mem _ e))]
    rfl
/-- words with blanks between -/
def unw : List (List UInt8) → List UInt8
  | [] => []
  | [w] => w
  | w :: v :: ws => w ++ 32 :: unw (v :: ws)
theorem unw_words (l : List UInt8) : unw (wordsL l) = l := by
  induction l with
  | nil => rfl
  | cons b l ih =>
    rw [wordsL_cons]
    cases hw : wordsL l with
    | nil => exact absurd hw (wordsL_nn l)
    | cons x t =>
      rw [hw] at ih
      by_cases h : b = 32
      · rw [if_pos h]
        show [] ++ 32 :: unw (x :: t) = _
        rw [ih, h]; rfl
      · rw [if_neg h]
        show unw (([b] ++ x) :: t) = _
        cases t with
        | nil => show [b] ++ x = _; rw [← ih]; rfl
        | cons y t =>
          show ([b] ++ x) ++ 32 :: unw (y :: t) = _
          rw [← ih]; rfl
/-- a line without its last byte -/
def lineBd (n d : Int) (dr : Bool) (i : Nat) (at0 : Int) (c : Kl) : List UInt8 :=
  unw [numW i, srcW c.1, [67], Pl.tt n d dr c.2.1, Pl.tt n d dr (c.2.1 + c.2.2), Pl.tt n d dr at0, Pl.tt n d dr (at0 + c.2.2)]
theorem lineL_bd (n d : Int) (dr : Bool) (i : Nat) (at0 : Int) (c : Kl) : lineL n d dr i at0 c = lineBd n d dr i at0 c ++ [10] := by
  unfold lineL lineBd unw unw unw unw unw unw unw
  simp [List.append_assoc]

variable {n d : Int} {dr : Bool} {l : List UInt8} {ls : List (List UInt8)} {tr : List Kl} {en : Int}
theorem timeO_tt {t : List UInt8} {x : Int} (h : timeO n d dr t = some x) : Pl.tt n d dr x = t ∧ t ≠ [] := by
  unfold timeO at h
  split at h
  · rename_i he
    injection h with h
    have hs := Classical.choose_spec he
    rw [h] at hs
    rcases hs with ⟨_, h1, h2⟩ | ⟨h1, _⟩
    · exact ⟨h2, h1⟩
    · cases h1
  · cases h
theorem srcO_w {t : List UInt8} {x : Int} (h : srcO t = some x) : t = srcW x := by
  unfold srcO at h
  split at h
  · rename_i he
    injection h with h
    have hs := Classical.choose_spec he
    rw [h] at hs
    rcases hs with ⟨_, _, _, h1⟩ | ⟨h1, _⟩
    · exact h1
    · cases h1
  · cases h
/-- a line that is read is the line of its clip -/
theorem line_back {k : Kl} (h : lineO n d dr l tr en = (0, k)) : l = lineBd n d dr tr.length en k ∧ tOk n d dr en k = true := by
  by_cases hg : goodW (wordsL l)
  case neg => rw [lineO_4 hg] at h; simp at h
  obtain ⟨a, b, c, t0, t1, t2, t3, hw⟩ := good_seven hg
  by_cases ha : a = numW tr.length
  case neg => rw [lineO_5 hg hw ha] at h; simp at h
  cases hs : srcO b with
  | none => rw [lineO_6 hg hw ha (.inl hs)] at h; simp at h
  | some s =>
    by_cases hc : c = [67]
    case neg => rw [lineO_6 hg hw ha (.inr hc)] at h; simp at h
    cases h0 : timeO n d dr t0 with
    | none => rw [lineO_7 hg hw ha hs hc (.inl h0)] at h; simp at h
    | some x0 =>
      cases h1 : timeO n d dr t1 with
      | none => rw [lineO_7 hg hw ha hs hc (.inr (.inl h1))] at h; simp at h
      | some x1 =>
        cases h2 : timeO n d dr t2 with
        | none => rw [lineO_7 hg hw ha hs hc (.inr (.inr (.inl h2)))] at h; simp at h
        | some x2 =>
          cases h3 : timeO n d dr t3 with
          | none => rw [lineO_7 hg hw ha hs hc (.inr (.inr (.inr h3)))] at h; simp at h
          | some x3 =>
            rw [lineO_add hg hw ha hs hc h0 h1 h2 h3] at h
            obtain ⟨rfl, hk, hfr, htu, _, _⟩ := addO_zero h
            obtain ⟨e0, n0⟩ := timeO_tt h0
            obtain ⟨e1, n1⟩ := timeO_tt h1
            obtain ⟨e2, n2⟩ := timeO_tt h2
            obtain ⟨e3, n3⟩ := timeO_tt h3
            have eb := srcO_w hs
            simp only at htu
            have q1 : x0 + (x1 - x0) = x1 := by omega
            have q3 : en + (x1 - x0) = x3 := by omega
            subst hfr
            refine ⟨?_, ?_⟩
            · unfold lineBd
              simp only
              rw [q1, q3, e0, e1, e2, e3, ← eb, ← ha, ← hc, ← hw, unw_words]
            · unfold tOk
              simp only
              rw [q1, q3, e0, e1, e2, e3]
              simp [n0, n1, n2, n3]
theorem linesL_pre {v w : List Kl} : ∀ {i : Nat}, i ≤ v.length → linesL n d dr (v ++ w) i = linesL n d dr v i := by
  intro i
  induction i with
  | zero => intro _; rfl
  | succ i ih =>
    intro hi
    unfold linesL
    rw [ih (by omega), List.take_append_of_le_length (by omega)]
    have : kAt (v ++ w) i = kAt v i := by unfold kAt; rw [List.getD_eq_getElem?_getD, List.getD_eq_getElem?_getD, List.getElem?_append_left (by omega)]
    rw [this]
theorem allOk_pre {v w : List Kl} (h : allOk n d dr v v.length) : allOk n d dr (v ++ w) v.length := by
  intro i hi
  have h1 := h i hi
  have : kAt (v ++ w) i = kAt v i := by unfold kAt; rw [List.getD_eq_getElem?_getD, List.getD_eq_getElem?_getD, List.getElem?_append_left (by omega)]
  rw [List.take_append_of_le_length (by omega), this]
  exact h1
theorem kAt_last (v : List Kl) (k : Kl) : kAt (v ++ [k]) v.length = k := by unfold kAt; simp
/-- a list that is read, line by line -/
theorem read_back : ∀ {ls : List (List UInt8)} {tr : List Kl} {en : Int} {v : List Kl} {p : Int}, TrI tr en → allOk n d dr tr tr.length → readF n d dr ls tr en = (v, 0, p) →
    TrI v (clen v) ∧ allOk n d dr v v.length ∧ linesL n d dr v v.length = linesL n d dr tr tr.length ++ ls.flatMap (fun l => l ++ [10]) := by
  intro ls
  induction ls with
  | nil =>
    intro tr en v p hT hA h
    simp only [readF, Prod.mk.injEq] at h
    obtain ⟨rfl, _, _⟩ := h
    exact ⟨by have := hT.at0; rw [← this]; exact hT, hA, by simp⟩
  | cons l ls ih =>
    intro tr en v p hT hA h
    by_cases h0 : (lineO n d dr l tr en).1 = 0
    case neg => rw [readF_no h0] at h; simp only [Prod.mk.injEq] at h; exact absurd h.2.1 h0
    rw [readF_ok h0] at h
    have hT2 := hT.step h0
    obtain ⟨k, hk⟩ : ∃ k, lineO n d dr l tr en = (0, k) := ⟨(lineO n d dr l tr en).2, by rw [← h0]⟩
    rw [hk] at h hT2
    simp only at h hT2
    obtain ⟨e1, e2⟩ := line_back hk
    have hen := hT.at0
    have hlen : (tr ++ [k]).length = tr.length + 1 := by simp
    have hA2 : allOk n d dr (tr ++ [k]) (tr ++ [k]).length := by
      rw [hlen]
      refine allOk_succ (allOk_pre hA) ?_
      rw [List.take_left' rfl, kAt_last, ← hen]
      exact e2
    obtain ⟨r1, r2, r3⟩ := ih hT2 hA2 h
    refine ⟨r1, r2, ?_⟩
    rw [r3, hlen]
    have : linesL n d dr (tr ++ [k]) (tr.length + 1) = linesL n d dr tr tr.length ++ (l ++ [10]) := by
      show linesL n d dr (tr ++ [k]) tr.length ++ lineL n d dr tr.length (clen ((tr ++ [k]).take tr.length)) (kAt (tr ++ [k]) tr.length) = _
      rw [linesL_pre (Nat.le_refl _), List.take_left' rfl, kAt_last, lineL_bd, ← hen, ← e1]
    rw [this]
    simp [List.append_assoc]
theorem lines_cat : ∀ (l cur : List UInt8), (l = [] → cur = []) → (l ≠ [] → l.getLast? = some 10) → (linesG cur l).flatMap (fun x => x ++ [10]) = cur ++ l := by
  intro l
  induction l with
  | nil => intro cur h _; rw [h rfl]; rfl
  | cons b r ih =>
    intro cur _ h
    have hl := h (by simp)
    by_cases hb : b = 10
    · subst hb
      rw [linesG_10]
      unfold linesOf
      rw [List.flatMap_cons, ih [] (fun _ => rfl) (fun hr => by rw [List.getLast?_cons_of_ne_nil hr] at hl; exact hl)]
      simp
    · rw [linesG_ne hb]
      have hr : r ≠ [] := by
        intro e; subst e; simp at hl; exact hb hl
      rw [ih (cur ++ [b]) (fun e => absurd e hr) (fun _ => by rw [List.getLast?_cons_of_ne_nil hr] at hl; exact hl)]
      simp
/-- a text that is read without a fault is the text that its track is shown as -/
theorem list_one {v : List Kl} {p : Int} (h : rdO n d dr l = (v, 0, p)) : showOf n d dr v = l := by
  cases hr : Pl.rok n d dr with
  | false => rw [rd_1 hr] at h; simp at h
  | true =>
    by_cases h2 : l.length ≤ 20000
    case neg => rw [rd_2 hr (by omega)] at h; simp at h
    by_cases h3 : l ≠ [] ∧ l.getLast? ≠ some 10
    · rw [rd_3 hr h2 h3] at h; simp at h
    · rw [rd_4 hr h2 h3] at h
      obtain ⟨r1, r2, r3⟩ := read_back TrI.zero (allOk_zero n d dr []) h
      have h4 : l ≠ [] → l.getLast? = some 10 := fun hl => Classical.byContradiction (fun hc => h3 ⟨hl, hc⟩)
      have hc := lines_cat l [] (fun _ => rfl) h4
      unfold showOf
      rw [if_pos r1.ok, r1.jo, listOf_yes r2, r3]
      exact hc

/-- no blank and no line's end in it -/
def Cl (w : List UInt8) : Prop := 32 ∉ w ∧ 10 ∉ w
theorem Cl.append {v w : List UInt8} (h : Cl v) (k : Cl w) : Cl (v ++ w) := by
  refine ⟨fun e => ?_, fun e => ?_⟩
  · rcases List.mem_append.1 e with e | e
    · exact h.1 e
    · exact k.1 e
  · rcases List.mem_append.1 e with e | e
    · exact h.2 e
    · exact k.2 e
theorem Cl.cons {b : UInt8} {w : List UInt8} (h1 : b ≠ 32) (h2 : b ≠ 10) (k : Cl w) : Cl (b :: w) :=
  Cl.append (v := [b]) ⟨by simpa using fun e => h1 e.symm, by simpa using fun e => h2 e.symm⟩ k
theorem Cl.nil : Cl [] := ⟨by simp, by simp⟩
theorem dg_cl (x : Nat) : Pl.dg x ≠ 32 ∧ Pl.dg x ≠ 10 := by
  have h := Pl.dg_toNat x
  refine ⟨fun e => ?_, fun e => ?_⟩
  · rw [e] at h
    have : (32 : UInt8).toNat = 32 := rfl
    omega
  · rw [e] at h
    have : (10 : UInt8).toNat = 10 := rfl
    omega
theorem two_cl (x : Nat) : Cl (Pl.two x) := Cl.cons (dg_cl _).1 (dg_cl _).2 (Cl.cons (dg_cl _).1 (dg_cl _).2 Cl.nil)
theorem three_cl (x : Nat) : Cl (Pl.three x) := Cl.cons (dg_cl _).1 (dg_cl _).2 (Cl.cons (dg_cl _).1 (dg_cl _).2 (Cl.cons (dg_cl _).1 (dg_cl _).2 Cl.nil))
theorem decF_cl : ∀ (f x : Nat), Cl (Pl.decF f x) := by
  intro f
  induction f with
  | zero => intro x; exact Cl.nil
  | succ f ih =>
    intro x
    unfold Pl.decF
    split
    · exact Cl.cons (dg_cl _).1 (dg_cl _).2 Cl.nil
    · exact (ih _).append (Cl.cons (dg_cl _).1 (dg_cl _).2 Cl.nil)
theorem num_cl (i : Nat) : Cl (numW i) := three_cl _
theorem src_cl (s : Int) : Cl (srcW s) := by
  unfold srcW
  split
  · exact Cl.cons (by decide) (by decide) (Cl.cons (by decide) (by decide) Cl.nil)
  · exact Cl.cons (by decide) (by decide) (decF_cl _ _)
theorem tt_cl (n d : Int) (dr : Bool) (f : Int) : Cl (Pl.tt n d dr f) := by
  unfold Pl.tt
  split
  · split
    · exact Cl.nil
    · unfold Pl.txt
      refine (two_cl _).append (Cl.cons (by decide) (by decide) ((two_cl _).append (Cl.cons (by decide) (by decide) ((two_cl _).append (Cl.cons ?_ ?_ ?_)))))
      · unfold Pl.mark; split <;> decide
      · unfold Pl.mark; split <;> decide
      · unfold Pl.ff; split
        · exact three_cl _
        · exact two_cl _
  · exact Cl.nil
theorem bd_words (n d : Int) (dr : Bool) (i : Nat) (at0 : Int) (c : Kl) : wordsL (lineBd n d dr i at0 c) = [numW i, srcW c.1, [67], Pl.tt n d dr c.2.1, Pl.tt n d dr (c.2.1 + c.2.2), Pl.tt n d dr at0, Pl.tt n d dr (at0 + c.2.2)] := by
  unfold lineBd
  show wordsL (numW i ++ 32 :: (srcW c.1 ++ 32 :: ([67] ++ 32 :: (Pl.tt n d dr c.2.1 ++ 32 :: (Pl.tt n d dr (c.2.1 + c.2.2) ++ 32 :: (Pl.tt n d dr at0 ++ 32 :: Pl.tt n d dr (at0 + c.2.2))))))) = _
  rw [words_pre (num_cl _).1, words_pre (src_cl _).1, words_pre (by decide), words_pre (tt_cl _ _ _ _).1, words_pre (tt_cl _ _ _ _).1, words_pre (tt_cl _ _ _ _).1, words_one (tt_cl _ _ _ _).1]
theorem bd_no10 (n d : Int) (dr : Bool) (i : Nat) (at0 : Int) (c : Kl) : 10 ∉ lineBd n d dr i at0 c := by
  show 10 ∉ numW i ++ 32 :: (srcW c.1 ++ 32 :: ([67] ++ 32 :: (Pl.tt n d dr c.2.1 ++ 32 :: (Pl.tt n d dr (c.2.1 + c.2.2) ++ 32 :: (Pl.tt n d dr at0 ++ 32 :: Pl.tt n d dr (at0 + c.2.2))))))
  have h1 := (num_cl i).2
  have h2 := (src_cl c.1).2
  have h3 := (tt_cl n d dr c.2.1).2
  have h4 := (tt_cl n d dr (c.2.1 + c.2.2)).2
  have h5 := (tt_cl n d dr at0).2
  have h6 := (tt_cl n d dr (at0 + c.2.2)).2
  simp [h1, h2, h3, h4, h5, h6]
/-- the line of a clip is read as the clip -/
theorem line_read {k : Kl} (hk : COk k) (ht : tOk n d dr en k = true) (hg : ¬ lastGoes tr k) (hT : TOk (tr ++ [k])) : lineO n d dr (lineBd n d dr tr.length en k) tr en = (0, k) := by
  have hw := bd_words n d dr tr.length en k
  unfold tOk at ht
  simp only [Bool.not_eq_true', Bool.or_eq_false_iff, List.isEmpty_eq_false_iff] at ht
  obtain ⟨⟨⟨t0, t1⟩, t2⟩, t3⟩ := ht
  obtain ⟨k1, k2, k3, k4, k5⟩ := hk
  have hgood : goodW (wordsL (lineBd n d dr tr.length en k)) := by
    rw [hw]
    refine ⟨rfl, ?_⟩
    intro x hx
    simp only [List.mem_cons, List.not_mem_nil, or_false] at hx
    rcases hx with rfl | rfl | rfl | rfl | rfl | rfl | rfl
    · unfold numW Pl.three; simp
    · unfold srcW; split <;> simp
    · simp
    · exact t0
    · exact t1
    · exact t2
    · exact t3
  have hs : srcO (srcW k.1) = some k.1 := srcO_ok (.inl ⟨rfl, by omega, by omega, rfl⟩)
  rw [lineO_add hgood hw rfl hs rfl (timeO_ok (.inl ⟨rfl, t0, rfl⟩)) (timeO_ok (.inl ⟨rfl, t1, rfl⟩)) (timeO_ok (.inl ⟨rfl, t2, rfl⟩)) (timeO_ok (.inl ⟨rfl, t3, rfl⟩))]
  have e : k.2.1 + k.2.2 - k.2.1 = k.2.2 := by omega
  rw [e]
  exact addO_0 ⟨k1, k2, k3, k4, k5⟩ rfl (by show en + k.2.2 - en = k.2.2; omega) hg hT
theorem nj_pair {o r : List Kl} {p c : Kl} (h : NJ (o ++ p :: c :: r)) : ¬ goes p c := by
  induction o with
  | nil => exact h.1
  | cons x o ih =>
    apply ih
    exact NJ.tail h
theorem nj_last {o r : List Kl} {c : Kl} (h : NJ (o ++ c :: r)) : ¬ lastGoes o c := by
  rintro ⟨o', p, rfl, hg⟩
  have : o' ++ [p] ++ c :: r = o' ++ p :: c :: r := by simp
  rw [this] at h
  exact nj_pair h hg

/-- the line of clip i -/
def bodyAt (n d : Int) (dr : Bool) (J : List Kl) (i : Nat) : List UInt8 := lineBd n d dr i (clen (J.take i)) (kAt J i)
theorem linesL_bodies (n d : Int) (dr : Bool) (J : List Kl) (k : Nat) : linesL n d dr J k = ((List.range k).map (bodyAt n d dr J)).flatMap (fun l => l ++ [10]) := by
  induction k with
  | zero => rfl
  | succ k ih =>
    show linesL n d dr J k ++ lineL n d dr k (clen (J.take k)) (kAt J k) = _
    rw [List.range_succ, List.map_append, List.flatMap_append, ← ih, lineL_bd]
    simp [bodyAt]
theorem linesOf_bodies : ∀ (bs : List (List UInt8)), (∀ b ∈ bs, 10 ∉ b) → linesOf (bs.flatMap (fun l => l ++ [10])) = bs := by
  intro bs
  induction bs with
  | nil => intro _; rfl
  | cons b bs ih =>
    intro h
    rw [List.flatMap_cons, List.append_assoc, List.singleton_append, linesOf_pre (h b List.mem_cons_self), ih (fun x hx => h x (List.mem_cons_of_mem _ hx))]
theorem take_kAt {J : List Kl} {i : Nat} (h : i < J.length) : J.take (i + 1) = J.take i ++ [kAt J i] := by
  rw [List.take_add_one, kAt_get h]; rfl
theorem tok_take {J : List Kl} (h : TOk J) (i : Nat) : TOk (J.take i) := by
  obtain ⟨h1, h2, h3⟩ := h
  refine ⟨by rw [List.length_take]; omega, fun c hc => h2 c (List.mem_of_mem_take hc), ?_⟩
  have e : clen J = clen (J.take i) + clen (J.drop i) := by rw [← clen_append, List.take_append_drop]
  have := clen_nonneg (l := J.drop i) (fun c hc => h2 c (List.mem_of_mem_drop hc))
  omega
theorem read_bodies {J : List Kl} (hJ : NJ J) (hT : TOk J) (hA : allOk n d dr J J.length) : ∀ (m i : Nat), i + m = J.length → readF n d dr ((List.range' i m).map (bodyAt n d dr J)) (J.take i) (clen (J.take i)) = (J, 0, 0) := by
  intro m
  induction m with
  | zero =>
    intro i hi
    have : J.take i = J := List.take_of_length_le (by omega)
    rw [this]
    rfl
  | succ m ih =>
    intro i hi
    have hlt : i < J.length := by omega
    have hli : (J.take i).length = i := by rw [List.length_take]; omega
    have hmem : kAt J i ∈ J := List.mem_of_getElem? (kAt_get hlt)
    have hl : lineO n d dr (bodyAt n d dr J i) (J.take i) (clen (J.take i)) = (0, kAt J i) := by
      have h := line_read (n := n) (d := d) (dr := dr) (tr := J.take i) (en := clen (J.take i)) (k := kAt J i) (hT.2.1 _ hmem) (hA i hlt) ?_ ?_
      · rw [hli] at h; exact h
      · have e : J.take i ++ kAt J i :: J.drop (i + 1) = J := by
          have := List.take_append_drop (i + 1) J
          rw [take_kAt hlt, List.append_assoc, List.singleton_append] at this
          exact this
        exact nj_last (r := J.drop (i + 1)) (by rw [e]; exact hJ)
      · rw [← take_kAt hlt]; exact tok_take hT _
    rw [List.range'_succ, List.map_cons, readF_ok (by rw [hl]), hl]
    have e2 : clen (J.take i) + (kAt J i).2.2 = clen (J.take (i + 1)) := by
      rw [take_kAt hlt, clen_append]; simp [clen]
    simp only
    rw [← take_kAt hlt, e2]
    exact ih (i + 1) (by omega)
theorem lines_last (n d : Int) (dr : Bool) (J : List Kl) (k : Nat) : linesL n d dr J k ≠ [] → (linesL n d dr J k).getLast? = some 10 := by
  cases k with
  | zero => intro h; exact absurd rfl h
  | succ k =>
    intro _
    show (linesL n d dr J k ++ lineL n d dr k (clen (J.take k)) (kAt J k)).getLast? = some 10
    rw [lineL_bd, ← List.append_assoc, List.getLast?_append]
    rfl
/-- a cut that is shown is read back, joined -/
theorem list_back {c : List Kl} (hs : showOf n d dr c ≠ []) (hl : (showOf n d dr c).length ≤ 20000) : TOk c ∧ rdO n d dr (showOf n d dr c) = (join c, 0, 0) := by
  by_cases hT : TOk c
  case neg => exact absurd (showOf_no hT) hs
  cases hr : Pl.rok n d dr with
  | false => exact absurd (showOf_rate hr) hs
  | true =>
    have e0 : showOf n d dr c = listOf n d dr (join c) := by unfold showOf; rw [if_pos hT]
    have hA : allOk n d dr (join c) (join c).length := Classical.byContradiction (fun h => hs (by rw [e0]; unfold listOf; rw [if_neg h]))
    have e1 : showOf n d dr c = linesL n d dr (join c) (join c).length := by rw [e0, listOf_yes hA]
    refine ⟨hT, ?_⟩
    rw [e1] at hl ⊢
    rw [rd_4 hr hl (fun h => h.2 (lines_last n d dr _ _ h.1)), linesL_bodies, linesOf_bodies _ (fun b hb => by
      obtain ⟨i, _, rfl⟩ := List.mem_map.1 hb
      exact bd_no10 _ _ _ _ _ _), List.range_eq_range']
    exact read_bodies (nj_join c) (join_tok hT) hA (join c).length 0 (by omega)

end Go.Proofs.YtfhbmfndjbdhcaaGreatDoor
