/-
  Plain facts on the bytes that a list of boxes is shown as. No program is named here; no conditions.
-/
import Derived.Test.YtfdbnlmfnhhcbaaFindP
import Derived.Test.YtfdbnlmfnhhcbaaOkP
import Derived.Lib.AppendStr
namespace Go.Proofs.Ytfdbnlmfnhhcbaa
open Go.RowKit
set_option linter.unusedVariables false
set_option linter.unusedSimpArgs false

def tot (l : List Bx) : Nat := 8 * l.length + total l
def kb (k : ByteArray) : List Int := k.data.toList.map fun c => (c.toNat : Int)
def be4 (n : Nat) : List Int := [((n / 16777216 % 256 : Nat) : Int), ((n / 65536 % 256 : Nat) : Int), ((n / 256 % 256 : Nat) : Int), ((n % 256 : Nat) : Int)]
def dpr (x : Bx) (t : List Bx) : List Bx := t.takeWhile fun y => decide (x.d < y.d)
def aft (x : Bx) (t : List Bx) : List Bx := t.dropWhile fun y => decide (x.d < y.d)
def fl : List Bx → List Int
  | [] => []
  | x :: t => be4 (tot (x :: dpr x t)) ++ (kb x.k ++ (x.z ++ fl t))
theorem fl_cons (x : Bx) (t : List Bx) : fl (x :: t) = be4 (tot (x :: dpr x t)) ++ (kb x.k ++ (x.z ++ fl t)) := rfl
theorem tot_cons (x : Bx) (t : List Bx) : tot (x :: t) = 8 + x.z.length + tot t := by simp [tot, total]; omega
theorem tot_append (l m : List Bx) : tot (l ++ m) = tot l + tot m := by simp [tot, total]; omega
theorem tot_take {l : List Bx} {k : Nat} {x : Bx} (hx : l[k]? = some x) : tot (l.take (k + 1)) = tot (l.take k) + (8 + x.z.length) := by
  have hk := (List.getElem?_eq_some_iff.1 hx).1
  have := total_take hx
  unfold tot
  rw [this, List.length_take, List.length_take]
  omega
theorem kb_len (k : ByteArray) : (kb k).length = k.size := by unfold kb; rw [List.length_map, Array.length_toList]; rfl
theorem kb_cells (k : ByteArray) : (kb k).map u8 = Lib.strCells k := by unfold kb Lib.strCells; rw [List.map_map]; rfl
theorem kb_bd (k : ByteArray) : ∀ z ∈ kb k, 0 ≤ z ∧ z ≤ 255 := by
  intro z hz
  obtain ⟨c, _, rfl⟩ := List.mem_map.1 hz
  have := c.toNat_lt
  exact ⟨by omega, by omega⟩
theorem be4_bd (n : Nat) : ∀ z ∈ be4 n, 0 ≤ z ∧ z ≤ 255 := by
  intro z hz
  simp [be4] at hz
  rcases hz with rfl | rfl | rfl | rfl <;> omega
theorem fl_bd (l : List Bx) (h : ∀ x ∈ l, ∀ z ∈ x.z, 0 ≤ z ∧ z ≤ 255) : ∀ z ∈ fl l, 0 ≤ z ∧ z ≤ 255 := by
  induction l with
  | nil => intro z hz; simp [fl] at hz
  | cons x t ih =>
    intro z hz
    unfold fl at hz
    rcases List.mem_append.1 hz with hz | hz
    · exact be4_bd _ z hz
    · rcases List.mem_append.1 hz with hz | hz
      · exact kb_bd _ z hz
      · rcases List.mem_append.1 hz with hz | hz
        · exact h x (by simp) z hz
        · exact ih (fun y hy => h y (by simp [hy])) z hz
theorem fl_len (l : List Bx) (h : ∀ x ∈ l, x.k.size = 4) : (fl l).length = tot l := by
  induction l with
  | nil => rfl
  | cons x t ih =>
    rw [fl_cons, tot_cons x t]
    simp only [List.length_append, kb_len, h x (by simp), ih (fun y hy => h y (by simp [hy]))]
    simp [be4]; omega
theorem eoN_sub (l : List Bx) (d : Int) (n : Nat) : ∀ j, l.length - j = n → eoN l d n j = j + ((l.drop j).takeWhile fun y => decide (d < y.d)).length := by
  induction n with
  | zero =>
    intro j h
    rw [List.drop_eq_nil_of_le (by omega)]
    rfl
  | succ n ih =>
    intro j h
    have hj : j < l.length := by omega
    rw [List.drop_eq_getElem_cons hj, List.takeWhile_cons]
    unfold eoN deeper
    rw [List.getElem?_eq_getElem hj]
    by_cases hd : d < l[j].d
    · simp only [hd, decide_true, if_true]
      rw [ih (j + 1) (by omega)]
      simp; omega
    · simp [hd]
theorem eo_sub {l : List Bx} {i : Nat} {x : Bx} (hx : l[i]? = some x) : eo l i = i + 1 + (dpr x (l.drop (i + 1))).length := by
  unfold eo depAt
  rw [hx]
  exact eoN_sub l x.d _ (i + 1) rfl
theorem take_dpr (x : Bx) (t : List Bx) : t.take (dpr x t).length = dpr x t := by
  induction t with
  | nil => rfl
  | cons y t ih =>
    unfold dpr at ih ⊢
    rw [List.takeWhile_cons]
    split
    · rw [List.length_cons, List.take_succ_cons, ih]
    · rfl
theorem drop_dpr (x : Bx) (t : List Bx) : t.drop (dpr x t).length = aft x t := by
  induction t with
  | nil => rfl
  | cons y t ih =>
    unfold dpr at ih ⊢
    unfold aft at ih ⊢
    rw [List.takeWhile_cons, List.dropWhile_cons]
    split
    · rw [List.length_cons, List.drop_succ_cons, ih]
    · rfl
theorem in_sub {l : List Bx} {i : Nat} {x : Bx} (hx : l[i]? = some x) : (l.take (eo l i)).drop (i + 1) = dpr x (l.drop (i + 1)) := by
  rw [List.drop_take, eo_sub hx, show i + 1 + (dpr x (l.drop (i + 1))).length - (i + 1) = (dpr x (l.drop (i + 1))).length by omega, take_dpr]
theorem aft_sub {l : List Bx} {i : Nat} {x : Bx} (hx : l[i]? = some x) : l.drop (eo l i) = aft x (l.drop (i + 1)) := by
  rw [eo_sub hx, ← List.drop_drop, drop_dpr]
theorem drop_at {l : List Bx} {i : Nat} {x : Bx} (hx : l[i]? = some x) : l.drop i = x :: l.drop (i + 1) := by
  have hi := (List.getElem?_eq_some_iff.1 hx).1
  rw [List.drop_eq_getElem_cons hi, (List.getElem?_eq_some_iff.1 hx).2]
theorem own_sub {l : List Bx} {i : Nat} {x : Bx} (hx : l[i]? = some x) : (l.take (eo l i)).drop i = x :: dpr x (l.drop (i + 1)) := by
  rw [List.drop_take, drop_at hx, show eo l i - i = (dpr x (l.drop (i + 1))).length + 1 by rw [eo_sub hx]; omega, List.take_succ_cons, take_dpr]
theorem dpr_append (x : Bx) (s r : List Bx) (h : ∀ y, r.head? = some y → y.d ≤ x.d) : dpr x (s ++ r) = dpr x s := by
  induction s with
  | nil =>
    cases r with
    | nil => rfl
    | cons y r =>
      have := h y rfl
      unfold dpr
      rw [List.nil_append, List.takeWhile_cons, if_neg (by simp; omega)]
      rfl
  | cons y s ih =>
    unfold dpr at ih ⊢
    rw [List.cons_append, List.takeWhile_cons, List.takeWhile_cons, ih]
theorem fl_append (s r : List Bx) (h : ∀ x ∈ s, ∀ y, r.head? = some y → y.d ≤ x.d) : fl (s ++ r) = fl s ++ fl r := by
  induction s with
  | nil => rfl
  | cons x s ih =>
    rw [List.cons_append]
    rw [fl_cons, fl_cons]
    rw [dpr_append x s r (h x (by simp)), ih (fun y hy => h y (by simp [hy]))]
    simp only [List.append_assoc]
theorem dpr_mem (x : Bx) (t : List Bx) : ∀ y ∈ dpr x t, x.d < y.d := by
  induction t with
  | nil => intro y hy; simp [dpr] at hy
  | cons z t ih =>
    intro y hy
    unfold dpr at hy ih
    rw [List.takeWhile_cons] at hy
    split at hy
    · rename_i hz
      rcases List.mem_cons.1 hy with rfl | hy
      · simpa using hz
      · exact ih y hy
    · simp at hy
theorem aft_head (x : Bx) (t : List Bx) : ∀ y, (aft x t).head? = some y → y.d ≤ x.d := by
  induction t with
  | nil => intro y hy; simp [aft] at hy
  | cons z t ih =>
    intro y hy
    unfold aft at hy ih
    rw [List.dropWhile_cons] at hy
    split at hy
    · exact ih y hy
    · rename_i hz
      simp at hy hz
      subst hy
      exact hz
theorem fl_split (x : Bx) (t : List Bx) : fl t = fl (dpr x t) ++ fl (aft x t) := by
  have : t = dpr x t ++ aft x t := by unfold dpr aft; rw [List.takeWhile_append_dropWhile]
  conv => lhs; rw [this]
  refine fl_append _ _ (fun y hy z hz => ?_)
  have h1 := dpr_mem x t y hy
  have h2 := aft_head x t z hz
  omega
/-- one box and all that is in it -/
theorem fl_step {l : List Bx} {i : Nat} {x : Bx} (hx : l[i]? = some x) : fl (l.drop i) = be4 (8 + x.z.length + tot ((l.take (eo l i)).drop (i + 1))) ++ (kb x.k ++ ((x.z ++ fl ((l.take (eo l i)).drop (i + 1))) ++ fl (l.drop (eo l i)))) := by
  rw [drop_at hx, in_sub hx, aft_sub hx]
  conv => lhs; unfold fl
  rw [tot_cons, fl_split x (l.drop (i + 1))]
  simp [List.append_assoc]
theorem fl_next {l : List Bx} {i : Nat} {x : Bx} (hx : l[i]? = some x) : fl (l.drop i) = be4 (tot ((l.take (eo l i)).drop i)) ++ (kb x.k ++ (x.z ++ fl (l.drop (i + 1)))) := by
  rw [drop_at hx, own_sub hx]
  conv => lhs; unfold fl
end Go.Proofs.Ytfdbnlmfnhhcbaa
