/-
  Plain facts on what can't be read of titles: signs, lines, the widest of them; worries in their order. No program is named here; there are no conditions.
-/
import Derived.Test.YtcpllfjhhlbmiaaDoorTxP
namespace Go.Proofs.YtcpllfjhhlbmiaaDoor
open Go.RowKit
set_option linter.unusedVariables false
set_option linter.unusedSimpArgs false

/-- a byte that counts as a sign -/
def isS (b : UInt8) : Bool := decide (b.toNat < 128) || decide (191 < b.toNat)
def sgs (x : List UInt8) : Nat := x.countP isS
def sms : List (List UInt8) → Nat
  | [] => 0
  | x :: xs => sgs x + sms xs
def mxs : List (List UInt8) → Nat
  | [] => 0
  | x :: xs => max (sgs x) (mxs xs)
theorem sms_snoc (xs : List (List UInt8)) (x : List UInt8) : sms (xs ++ [x]) = sms xs + sgs x := by
  induction xs with
  | nil => simp [sms]
  | cons y ys ih => simp only [List.cons_append, sms, ih]; omega
theorem mxs_snoc (xs : List (List UInt8)) (x : List UInt8) : mxs (xs ++ [x]) = max (mxs xs) (sgs x) := by
  induction xs with
  | nil => simp [mxs]
  | cons y ys ih => simp only [List.cons_append, mxs, ih]; omega
theorem sgs_le (x : List UInt8) : sgs x ≤ x.length := List.countP_le_length
theorem sms_le (l : List UInt8) : sms (linesL l) ≤ l.length := by
  induction l with
  | nil => decide
  | cons b l ih =>
    obtain ⟨y, ys, hy⟩ := linesL_ne l
    by_cases hb : b = 10
    · subst hb; rw [linesL_newline]; simp [sms, sgs]; omega
    · rw [linesL_char hb, hy]
      rw [hy] at ih
      simp only [glue, List.singleton_append, sms, List.length_cons, sgs, List.countP_cons] at ih ⊢
      split <;> omega
theorem mxs_le_sms (xs : List (List UInt8)) : mxs xs ≤ sms xs := by
  induction xs with
  | nil => exact Nat.le_refl _
  | cons y ys ih => simp only [mxs, sms]; omega
/-- the model's four numbers: signs, lines, signs of the line under way, the widest so far -/
def stepU (st : Nat × Nat × Nat × Nat) (b : UInt8) : Nat × Nat × Nat × Nat :=
  if b = 10 then (st.1, st.2.1 + 1, 0, st.2.2.2) else if isS b = true then (st.1 + 1, st.2.1, st.2.2.1 + 1, max st.2.2.2 (st.2.2.1 + 1)) else st
def stU (l : List UInt8) : Nat × Nat × Nat × Nat := l.foldl stepU (0, 1, 0, 0)
theorem stU_one {l : List UInt8} {k : Nat} {c : UInt8} (h : l[k]? = some c) : stU (l.take (k + 1)) = stepU (stU (l.take k)) c := by
  rw [List.take_add_one, h]; unfold stU; rw [List.foldl_append]; rfl
theorem foldU (l : List UInt8) : ∀ (st : Nat × Nat × Nat × Nat) x xs, st.2.2.1 ≤ st.2.2.2 → linesL l = x :: xs →
    (l.foldl stepU st).1 = st.1 + sgs x + sms xs ∧ (l.foldl stepU st).2.1 = st.2.1 + xs.length ∧ (l.foldl stepU st).2.2.2 = max (max st.2.2.2 (st.2.2.1 + sgs x)) (mxs xs) := by
  induction l with
  | nil =>
    intro st x xs hst h
    have : linesL [] = [[]] := rfl
    rw [this] at h
    injection h with h1 h2
    subst h1 h2
    simp [sgs, sms, mxs]; omega
  | cons b l ih =>
    intro st x xs hst h
    obtain ⟨y, ys, hy⟩ := linesL_ne l
    rw [List.foldl_cons]
    by_cases hb : b = 10
    · subst hb
      rw [linesL_newline, hy] at h
      injection h with h1 h2
      subst h1 h2
      have e : stepU st 10 = (st.1, st.2.1 + 1, 0, st.2.2.2) := if_pos rfl
      rw [e]
      obtain ⟨i1, i2, i3⟩ := ih (st.1, st.2.1 + 1, 0, st.2.2.2) y ys (Nat.zero_le _) hy
      simp only at i1 i2 i3
      rw [i1, i2, i3]
      simp only [sgs, sms, mxs, List.countP_nil, List.length_cons]
      refine ⟨by omega, by omega, by omega⟩
    · rw [linesL_char hb, hy] at h
      simp only [glue, List.singleton_append] at h
      injection h with h1 h2
      subst h1 h2
      by_cases hs : isS b = true
      · have e : stepU st b = (st.1 + 1, st.2.1, st.2.2.1 + 1, max st.2.2.2 (st.2.2.1 + 1)) := by unfold stepU; rw [if_neg hb, if_pos hs]
        rw [e]
        obtain ⟨i1, i2, i3⟩ := ih (st.1 + 1, st.2.1, st.2.2.1 + 1, max st.2.2.2 (st.2.2.1 + 1)) y ys (by simp only; omega) hy
        simp only at i1 i2 i3
        rw [i1, i2, i3]
        have hc : sgs (b :: y) = sgs y + 1 := by unfold sgs; rw [List.countP_cons, if_pos hs]
        rw [hc]
        refine ⟨by omega, rfl, by omega⟩
      · have e : stepU st b = st := by unfold stepU; rw [if_neg hb, if_neg hs]
        rw [e]
        obtain ⟨i1, i2, i3⟩ := ih st y ys hst hy
        have hc : sgs (b :: y) = sgs y := by unfold sgs; rw [List.countP_cons, if_neg hs]; rfl
        rw [hc]
        exact ⟨i1, i2, i3⟩
theorem stU_end (l : List UInt8) : (stU l).1 = sms (linesL l) ∧ (stU l).2.1 = (linesL l).length ∧ (stU l).2.2.2 = mxs (linesL l) := by
  obtain ⟨x, xs, h⟩ := linesL_ne l
  obtain ⟨h1, h2, h3⟩ := foldU l (0, 1, 0, 0) x xs (Nat.le_refl _) h
  unfold stU
  rw [h1, h2, h3, h]
  simp only [sms, mxs, List.length_cons]
  refine ⟨by omega, by omega, by omega⟩
theorem stU_bd (l : List UInt8) : (stU l).1 ≤ l.length ∧ (stU l).2.1 ≤ l.length + 1 ∧ (stU l).2.2.1 ≤ l.length ∧ (stU l).2.2.2 ≤ l.length := by
  unfold stU
  have key : ∀ (l : List UInt8) (st : Nat × Nat × Nat × Nat) (n : Nat), st.1 ≤ n → st.2.1 ≤ n + 1 → st.2.2.1 ≤ n → st.2.2.2 ≤ n → (l.foldl stepU st).1 ≤ n + l.length ∧ (l.foldl stepU st).2.1 ≤ n + l.length + 1 ∧ (l.foldl stepU st).2.2.1 ≤ n + l.length ∧ (l.foldl stepU st).2.2.2 ≤ n + l.length := by
    intro l
    induction l with
    | nil => intro st n h1 h2 h3 h4; simp; omega
    | cons b l ih =>
      intro st n h1 h2 h3 h4
      rw [List.foldl_cons]
      have hs : (stepU st b).1 ≤ n + 1 ∧ (stepU st b).2.1 ≤ n + 1 + 1 ∧ (stepU st b).2.2.1 ≤ n + 1 ∧ (stepU st b).2.2.2 ≤ n + 1 := by
        unfold stepU
        by_cases hb : b = 10
        · rw [if_pos hb]; refine ⟨?_, ?_, ?_, ?_⟩ <;> simp only <;> omega
        · rw [if_neg hb]
          by_cases hs : isS b = true
          · rw [if_pos hs]; refine ⟨?_, ?_, ?_, ?_⟩ <;> simp only <;> omega
          · rw [if_neg hs]; omega
      have := ih (stepU st b) (n + 1) hs.1 hs.2.1 hs.2.2.1 hs.2.2.2
      simp only [List.length_cons]
      omega
  have := key l (0, 1, 0, 0) 0 (by simp) (by simp) (by simp) (by simp)
  simpa using this

/-- five numbers that say what can be read -/
abbrev Sy := Int × Int × Int × Int × Int
def syOk (s : Sy) : Bool := (decide (1 ≤ s.1) && decide (s.1 ≤ 359999999)) && ((decide (0 ≤ s.2.1) && decide (s.2.1 ≤ 359999999)) && ((decide (1 ≤ s.2.2.1) && decide (s.2.2.1 ≤ 359999999)) && ((decide (1 ≤ s.2.2.2.1) && decide (s.2.2.2.1 ≤ 359999999)) && (decide (1 ≤ s.2.2.2.2) && decide (s.2.2.2.2 ≤ 359999999)))))
/-- what is wrong with title k, behind one that ends at p -/
def tf (s : Sy) (k : Nat) (p : Int) (x : Kl) : Nat → Bool
  | 1 => decide (x.2.1 - x.1 < s.1)
  | 2 => decide (0 < k) && decide (x.1 - p < s.2.1)
  | 3 => decide (s.2.2.1 * (x.2.1 - x.1) < (sms (linesL x.2.2.data.toList) : Int) * 1000)
  | 4 => decide (s.2.2.2.1 < ((linesL x.2.2.data.toList).length : Int))
  | 5 => decide (s.2.2.2.2 < (mxs (linesL x.2.2.data.toList) : Int))
  | _ => false
/-- the worries below j of a title -/
def wup (k : Nat) (f : Nat → Bool) : Nat → List (Int × Int)
  | 0 => []
  | j + 1 => wup k f j ++ (if f j = true then [((k : Int), (j : Int))] else [])
theorem wup_yes {k j : Nat} {f : Nat → Bool} (h : f j = true) : wup k f (j + 1) = wup k f j ++ [((k : Int), (j : Int))] := by
  rw [wup, if_pos h]
theorem wup_no {k j : Nat} {f : Nat → Bool} (h : f j = false) : wup k f (j + 1) = wup k f j := by
  rw [wup, if_neg (by rw [h]; decide), List.append_nil]
theorem wup_len (k : Nat) (f : Nat → Bool) (j : Nat) : (wup k f j).length ≤ j := by
  induction j with
  | zero => exact Nat.le_refl _
  | succ j ih => rw [wup, List.length_append]; split <;> simp <;> omega
def pTo (l : List Kl) (k : Nat) : Int := match l[k - 1]? with | some p => p.2.1 | none => 0
/-- the worries of the first k titles -/
def unl (s : Sy) (l : List Kl) : Nat → List (Int × Int)
  | 0 => []
  | k + 1 => unl s l k ++ (match l[k]? with | some x => wup k (tf s k (pTo l k) x) 6 | none => [])
theorem unl_step {s : Sy} {l : List Kl} {k : Nat} {x : Kl} (h : l[k]? = some x) : unl s l (k + 1) = unl s l k ++ wup k (tf s k (pTo l k) x) 6 := by
  rw [unl, h]
theorem unl_len (s : Sy) (l : List Kl) (k : Nat) : (unl s l k).length ≤ 6 * k := by
  induction k with
  | zero => exact Nat.le_refl _
  | succ k ih =>
    rw [unl, List.length_append]
    cases l[k]? with
    | none => simp; omega
    | some x => have := wup_len k (tf s k (pTo l k) x) 6; simp only; omega
/-- what is answered -/
def unr (s : Sy) (l : List Kl) : List (Int × Int) := if tOk l = true then if syOk s = true then unl s l l.length else [] else []
theorem unr_len (s : Sy) (l : List Kl) : (unr s l).length ≤ 1200 := by
  unfold unr
  split
  · rename_i h
    unfold tOk at h
    rw [Bool.and_eq_true] at h
    have h1 : l.length ≤ 200 := by simpa using h.1
    split
    · have := unl_len s l l.length; omega
    · simp
  · simp

end Go.Proofs.YtcpllfjhhlbmiaaDoor
