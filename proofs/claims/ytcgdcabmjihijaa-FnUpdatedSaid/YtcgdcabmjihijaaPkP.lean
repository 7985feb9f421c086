/-
  Assets and packages as plain values; no conditions.
-/
import Derived.Test.YtcgdcabmjihijaaBy
import Derived.Lib.Strings
namespace Go.Proofs.Ytcgdcabmjihijaa
open Go.RowKit
set_option linter.unusedVariables false
set_option linter.unusedSimpArgs false

abbrev Kl := ByteArray × Int × Int
theorem take_snocK {l : List Kl} {k : Nat} {c : Kl} (h : l[k]? = some c) : l.take (k + 1) = l.take k ++ [c] := by rw [List.take_add_one, h]; rfl
/-- a sign of a name -/
def chOk (x : Int) : Bool := (decide (48 ≤ x) && decide (x ≤ 57)) || (decide (97 ≤ x) && decide (x ≤ 122)) || (decide (65 ≤ x) && decide (x ≤ 90)) || decide (x = 95) || decide (x = 46)
theorem ch_yes {x : Int} (h : chOk x = true) : (48 ≤ x ∧ x ≤ 57) ∨ (97 ≤ x ∧ x ≤ 122) ∨ (65 ≤ x ∧ x ≤ 90) ∨ x = 95 ∨ x = 46 := by simp [chOk] at h; omega
theorem ch_no {x : Int} (h : chOk x = false) : ¬ (48 ≤ x ∧ x ≤ 57) ∧ ¬ (97 ≤ x ∧ x ≤ 122) ∧ ¬ (65 ≤ x ∧ x ≤ 90) ∧ ¬ x = 95 ∧ ¬ x = 46 := by simp [chOk] at h; omega
def nmOk (s : ByteArray) : Bool := decide (1 ≤ s.size) && decide (s.size ≤ 40) && s.data.toList.all fun c => chOk (c.toNat : Int)
theorem nm_short {s : ByteArray} (h : ¬ 1 ≤ s.size) : nmOk s = false := by simp only [nmOk, decide_eq_false h, Bool.false_and]
theorem nm_long {s : ByteArray} (h : ¬ s.size ≤ 40) : nmOk s = false := by simp only [nmOk, decide_eq_false h, Bool.false_and, Bool.and_false]
theorem nm_bad {s : ByteArray} {k : Nat} {c : UInt8} (hk : s.data.toList[k]? = some c) (h : chOk (c.toNat : Int) = false) : nmOk s = false := by
  have : (s.data.toList.all fun c => chOk (c.toNat : Int)) = false := by
    rw [List.all_eq_false]
    exact ⟨c, List.mem_of_getElem? hk, by simp [h]⟩
  simp only [nmOk, this, Bool.and_false]
theorem nm_good {s : ByteArray} (h1 : 1 ≤ s.size) (h2 : s.size ≤ 40) (h : ∀ (k : Nat) (c : UInt8), s.data.toList[k]? = some c → chOk (c.toNat : Int) = true) : nmOk s = true := by
  have : (s.data.toList.all fun c => chOk (c.toNat : Int)) = true := by
    rw [List.all_eq_true]
    intro c hc
    obtain ⟨k, hk⟩ := List.getElem?_of_mem hc
    exact h k c hk
  simp only [nmOk, this, Bool.and_true, Bool.and_eq_true, decide_eq_true_eq]
  exact ⟨h1, h2⟩
theorem nm_size {s : ByteArray} (h : nmOk s = true) : 1 ≤ s.size ∧ s.size ≤ 40 := by
  simp only [nmOk, Bool.and_eq_true, decide_eq_true_eq] at h; exact h.1
/-- one text stands ahead of the other -/
def bef (a b : ByteArray) : Bool := Op.bytesLess a.toList b.toList
theorem bef_eq (a b : ByteArray) : bef a b = Op.bytesLess a.data.toList b.data.toList := by unfold bef; rw [Lib.toList_data, Lib.toList_data]
theorem bl_skip : ∀ (k : Nat) (x y : List UInt8), k ≤ x.length → k ≤ y.length → (∀ j, j < k → x[j]? = y[j]?) → Op.bytesLess x y = Op.bytesLess (x.drop k) (y.drop k)
  | 0, _, _, _, _, _ => by simp
  | k + 1, x, y, hx, hy, h => by
    match x, y, hx, hy with
    | a :: x, b :: y, hx, hy =>
      have e : a = b := by simpa using h 0 (by omega)
      subst e
      rw [Op.bytesLess]
      simp only [List.drop_succ_cons]
      rw [← bl_skip k x y (by simpa using hx) (by simpa using hy) (fun j hj => by simpa using h (j + 1) (by omega))]
      simp
theorem bl_at {x y : List UInt8} {k : Nat} {a b : UInt8} (ha : x[k]? = some a) (hb : y[k]? = some b) (h : ∀ j : Nat, j < k → x[j]? = y[j]?) (hne : a ≠ b) : Op.bytesLess x y = decide ((a.toNat : Int) < b.toNat) := by
  have h1 := (List.getElem?_eq_some_iff.1 ha).1
  have h2 := (List.getElem?_eq_some_iff.1 hb).1
  rw [bl_skip k x y (by omega) (by omega) h, List.drop_eq_getElem_cons h1, List.drop_eq_getElem_cons h2]
  have e1 : x[k] = a := (List.getElem?_eq_some_iff.1 ha).2
  have e2 : y[k] = b := (List.getElem?_eq_some_iff.1 hb).2
  rw [e1, e2, Op.bytesLess]
  have e3 : (a == b) = false := by simp [hne]
  rw [e3]
  simp only [Bool.false_and, Bool.or_false]
  rw [Bool.eq_iff_iff]; simp [UInt8.lt_iff_toNat_lt]
theorem bl_end {x y : List UInt8} (h : ∀ j, j < x.length → j < y.length → x[j]? = y[j]?) : Op.bytesLess x y = decide ((x.length : Int) < y.length) := by
  rcases Nat.lt_or_ge x.length y.length with h1 | h1
  · rw [bl_skip x.length x y (Nat.le_refl _) (by omega) (fun j hj => h j hj (by omega)), List.drop_length]
    obtain ⟨b, t, e⟩ : ∃ b t, y.drop x.length = b :: t := ⟨_, _, List.drop_eq_getElem_cons h1⟩
    rw [e, Op.bytesLess]; simp; omega
  · rw [bl_skip y.length x y h1 (Nat.le_refl _) (fun j hj => h j (by omega) hj), List.drop_length]
    have : Op.bytesLess (x.drop y.length) [] = false := by cases x.drop y.length <;> rfl
    rw [this]; simp; omega
def asOk (x : Kl) : Bool := nmOk x.1 && (decide (0 ≤ x.2.1) && decide (x.2.1 ≤ 40000)) && (decide (0 ≤ x.2.2) && decide (x.2.2 ≤ 1000000006))
/-- asset k is one, and stands behind the one ahead of it -/
def itOk (l : List Kl) (k : Nat) : Bool :=
  match l[k]? with
  | some x => asOk x && (k == 0 || match l[k - 1]? with
    | some y => bef y.1 x.1
    | none => true)
  | none => true
def pOk (l : List Kl) : Bool := decide (l.length ≤ 100) && (List.range l.length).all (itOk l)
theorem pOk_long {l : List Kl} (h : ¬ l.length ≤ 100) : pOk l = false := by simp only [pOk, decide_eq_false h, Bool.false_and]
theorem pOk_bad {l : List Kl} {k : Nat} (hk : k < l.length) (h : itOk l k = false) : pOk l = false := by
  have : (List.range l.length).all (itOk l) = false := by
    rw [List.all_eq_false]; exact ⟨k, by simpa using hk, by simp [h]⟩
  simp only [pOk, this, Bool.and_false]
theorem pOk_good {l : List Kl} (h1 : l.length ≤ 100) (h : ∀ k, k < l.length → itOk l k = true) : pOk l = true := by
  have : (List.range l.length).all (itOk l) = true := by
    rw [List.all_eq_true]; intro k hk; exact h k (by simpa using hk)
  simp only [pOk, this, Bool.and_true, decide_eq_true_eq]; exact h1
theorem pOk_parts {l : List Kl} (h : pOk l = true) : l.length ≤ 100 ∧ ∀ k, k < l.length → itOk l k = true := by
  simp only [pOk, Bool.and_eq_true, decide_eq_true_eq, List.all_eq_true, List.mem_range] at h; exact h
theorem it_zero {l : List Kl} {x : Kl} (h : l[0]? = some x) : itOk l 0 = asOk x := by simp [itOk, h]
theorem it_succ {l : List Kl} {k : Nat} {x y : Kl} (h : l[k]? = some x) (h0 : 0 < k) (hy : l[k - 1]? = some y) : itOk l k = (asOk x && bef y.1 x.1) := by
  have : (k == 0) = false := by simp; omega
  simp [itOk, h, hy, this]

end Go.Proofs.Ytcgdcabmjihijaa
