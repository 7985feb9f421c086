/-
  Plain facts of a block as a list of sixteen numbers, turned; no program is named.
-/
import Derived.Test.YtdppnjafkbopiaaPcP
namespace Go.Proofs.Ytdppnjafkbopiaa
set_option linter.unusedVariables false
set_option linter.unusedSimpArgs false

/-- number i of a list -/
def nth (l : List Int) (i : Nat) : Int := l.getD i 0
theorem nth_at {l : List Int} {i : Nat} (h : i < l.length) : l[i]? = some (nth l i) := by
  unfold nth
  rw [List.getElem?_eq_getElem h, List.getD_eq_getElem?_getD, List.getElem?_eq_getElem h]; rfl
/-- n numbers as f tells -/
def fl (f : Nat → Int) (n : Nat) : List Int := (List.range n).map f
theorem fl_len (f : Nat → Int) (n : Nat) : (fl f n).length = n := by simp [fl]
theorem fl_at (f : Nat → Int) {n i : Nat} (h : i < n) : (fl f n)[i]? = some (f i) := by
  unfold fl; rw [List.getElem?_map, List.getElem?_range h]; rfl
theorem fl_eq {f g : Nat → Int} {n : Nat} (h : ∀ i, i < n → f i = g i) : fl f n = fl g n := by
  unfold fl; apply List.map_congr_left; intro i hi; exact h i (by simpa using hi)
theorem fl_add4 (f : Nat → Int) (r : Nat) : fl f (4 * r) ++ [f (4 * r), f (4 * r + 1), f (4 * r + 2), f (4 * r + 3)] = fl f (4 * r + 4) := by
  unfold fl
  rw [List.range_succ, List.range_succ, List.range_succ, List.range_succ]
  simp
theorem fl_set (f : Nat → Int) (n k : Nat) (v : Int) : (fl f n).set k v = fl (fun i => if i = k then v else f i) n := by
  apply List.ext_getElem?
  intro i
  by_cases hi : i < n
  · rw [fl_at _ hi]
    by_cases e : i = k
    · subst e; rw [List.getElem?_set_self (by rw [fl_len]; exact hi), if_pos rfl]
    · rw [List.getElem?_set_ne (by omega), fl_at _ hi, if_neg e]
  · rw [List.getElem?_eq_none (by simp [fl_len]; omega), List.getElem?_eq_none (by simp [fl_len]; omega)]
theorem fl_nth {l : List Int} {n : Nat} (h : l.length = n) : fl (nth l) n = l := by
  apply List.ext_getElem?
  intro i
  by_cases hi : i < n
  · rw [fl_at _ hi, nth_at (by omega)]
  · rw [List.getElem?_eq_none (by simp [fl_len]; omega), List.getElem?_eq_none (by omega)]
theorem nth_fl (f : Nat → Int) {n i : Nat} (h : i < n) : nth (fl f n) i = f i := by
  have := nth_at (l := fl f n) (i := i) (by rw [fl_len]; exact h)
  rw [fl_at f h] at this
  injection this with this
  exact this.symm
theorem fl_rep (n : Nat) : fl (fun _ => 0) n = List.replicate n 0 := by
  unfold fl; apply List.ext_getElem <;> simp
theorem asl_eq {f g : Nat → Int} (h : ∀ i, i < 16 → f i = g i) : ∀ i, i < 16 → asl f i = asl g i := by
  intro i hi
  unfold asl
  rw [h _ (by omega), h _ (by omega), h _ (by omega), h _ (by omega)]
theorem trn_eq {f g : Nat → Int} (h : ∀ i, i < 16 → f i = g i) : ∀ i, i < 16 → trn f i = trn g i := asl_eq (asl_eq h)
/-- the columns turned as far as column k and its number r -/
def colK (f : Nat → Int) (k r i : Nat) : Int := if i % 4 < k ∨ (i % 4 = k ∧ i / 4 < r) then trn f i else 0
theorem colK_put (f : Nat → Int) (k r : Nat) (hk : k < 4) (hr : r < 4) (i : Nat) (hi : i < 16) : (if i = 4 * r + k then four (mid f k) (mid f (k + 4)) (mid f (k + 8)) (mid f (k + 12)) r else colK f k r i) = colK f k (r + 1) i := by
  unfold colK
  by_cases e : i = 4 * r + k
  · rw [if_pos e, if_pos (by omega), e, trn_mid f k r hk hr]
  · rw [if_neg e]
    by_cases c : i % 4 < k ∨ (i % 4 = k ∧ i / 4 < r)
    · rw [if_pos c, if_pos (by omega)]
    · rw [if_neg c, if_neg (by omega)]
theorem colK_row (f : Nat → Int) (k : Nat) (i : Nat) (hi : i < 16) : colK f k 4 i = colK f (k + 1) 0 i := by
  unfold colK
  by_cases c : i % 4 < k ∨ (i % 4 = k ∧ i / 4 < 4)
  · rw [if_pos c, if_pos (by omega)]
  · rw [if_neg c, if_neg (by omega)]
theorem colK_end (f : Nat → Int) (i : Nat) (hi : i < 16) : colK f 4 0 i = trn f i := by
  unfold colK; rw [if_pos (by omega)]
theorem colK_zero (f : Nat → Int) (i : Nat) : colK f 0 0 i = 0 := by
  unfold colK; rw [if_neg (by omega)]
def By7 (n : Int) : Prop := -10000000 ≤ n ∧ n ≤ 10000000
instance (n : Int) : Decidable (By7 n) := by unfold By7; infer_instance
theorem by7_b (x : Int) : decide (By7 x) = (decide (-10000000 ≤ x) && decide (x ≤ 10000000)) := by
  rw [Bool.eq_iff_iff, decide_eq_true_iff]; simp [By7]
def TnOk (l : List Int) : Prop := l.length = 16 ∧ ∀ x ∈ l, By7 x
open Classical in
noncomputable def trnOf (l : List Int) : List Int := if TnOk l then fl (trn (nth l)) 16 else []
theorem trn_yes {l : List Int} (h : TnOk l) : trnOf l = fl (trn (nth l)) 16 := if_pos h
theorem trn_no {l : List Int} (h : ¬ TnOk l) : trnOf l = [] := if_neg h
theorem trn_len (l : List Int) : (trnOf l).length ≤ 1000 := by
  by_cases h : TnOk l
  · rw [trn_yes h, fl_len]; omega
  · rw [trn_no h]; simp
theorem tn_bdd {l : List Int} (h : TnOk l) : Bdd 10000000 (nth l) := by
  intro i hi
  have e := nth_at (l := l) (i := i) (by rw [h.1]; exact hi)
  exact h.2 _ (List.mem_of_getElem? e)
theorem mid_bd {B : Int} {f : Nat → Int} (h : Bdd B f) (i : Nat) (hi : i < 16) : -(4 * B) ≤ mid f i ∧ mid f i ≤ 4 * B :=
  four_bd (h _ (by omega)) (h _ (by omega)) (h _ (by omega)) (h _ (by omega)) _
end Go.Proofs.Ytdppnjafkbopiaa
