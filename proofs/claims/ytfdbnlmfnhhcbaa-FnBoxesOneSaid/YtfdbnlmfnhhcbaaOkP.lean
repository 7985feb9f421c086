/-
  Plain facts on boxes: what a kind is, what a container is, what a film is. No program is named here; no conditions.
-/
import Derived.Test.YtfdbnlmfnhhcbaaMem
namespace Go.Proofs.Ytfdbnlmfnhhcbaa
open Go.RowKit
set_option linter.unusedVariables false

def ldN (n : Nat) : Bool := (decide (48 ≤ n) && decide (n ≤ 57)) || (decide (97 ≤ n) && decide (n ≤ 122)) || (decide (65 ≤ n) && decide (n ≤ 90))
def capN (n : Nat) : Bool := decide (65 ≤ n) && decide (n ≤ 90)
def ld (c : UInt8) : Bool := ldN c.toNat
def kindOk (s : ByteArray) : Bool := decide (s.size = 4) && s.data.toList.all ld
def holdsL : List UInt8 → Bool | [] => false | c :: _ => capN c.toNat
def holds (s : ByteArray) : Bool := holdsL s.data.toList

theorem bytes_snoc (s : ByteArray) (k : Nat) (h : k < s.size) : s.data.toList.take (k + 1) = s.data.toList.take k ++ [s[k]] := by
  rw [List.take_succ_eq_append_getElem (by simpa using h)]; rfl
theorem all_snoc {s : ByteArray} {k : Nat} (h : k < s.size) (hp : (s.data.toList.take k).all ld = true) (hc : ldN s[k].toNat = true) : (s.data.toList.take (k + 1)).all ld = true := by
  rw [bytes_snoc s k h, List.all_append, hp]; simp [ld, hc]
theorem all_no {s : ByteArray} {k : Nat} (h : k < s.size) (hc : ldN s[k].toNat = false) : s.data.toList.all ld = false := by
  rw [List.all_eq_false]
  exact ⟨s[k], by exact List.getElem_mem (l := s.data.toList) (by simpa using h), by simp [ld, hc]⟩
theorem kindOk_size {s : ByteArray} (h : kindOk s = true) : s.size = 4 := by
  simp [kindOk] at h; exact h.1
theorem holds_at {s : ByteArray} (h : 0 < s.size) : holds s = capN s[0].toNat := by
  unfold holds
  have e : s.data.toList = s[0] :: s.data.toList.drop 1 := by
    have h2 := bytes_snoc s 0 h
    have h3 := List.take_append_drop 1 s.data.toList
    rw [h2] at h3
    simpa using h3.symm
  rw [e]; rfl

def dpOf : Option Bx → Int | none => 0 | some p => p.d + (if holds p.k = true then 1 else 0)
def stepOk (p : Option Bx) (x : Bx) : Bool := kindOk x.k && decide (0 ≤ x.d) && decide (x.d ≤ 8) && (!holds x.k || decide (x.z.length = 0)) && decide (x.d ≤ dpOf p)
def strOk : Option Bx → List Bx → Bool | _, [] => true | p, x :: t => stepOk p x && strOk (some x) t
def total (l : List Bx) : Nat := (l.map (·.z.length)).sum
def ok (l : List Bx) : Bool := decide (l.length ≤ 200) && strOk none l && decide (total l ≤ 20000)
def lastOr (p : Option Bx) : List Bx → Option Bx | [] => p | x :: t => lastOr (some x) t

theorem strOk_append (p : Option Bx) (l m : List Bx) : strOk p (l ++ m) = (strOk p l && strOk (lastOr p l) m) := by
  induction l generalizing p with
  | nil => rfl
  | cons x t ih => simp [strOk, lastOr, ih, Bool.and_assoc]
theorem lastOr_eq (p : Option Bx) (l : List Bx) : lastOr p l = if l.length = 0 then p else l[l.length - 1]? := by
  induction l generalizing p with
  | nil => rfl
  | cons x t ih =>
    rw [lastOr, ih]
    cases t with
    | nil => simp
    | cons y t => simp
def prev (l : List Bx) (k : Nat) : Option Bx := if k = 0 then none else l[k - 1]?
theorem lastOr_take {l : List Bx} {k : Nat} (h : k ≤ l.length) : lastOr none (l.take k) = prev l k := by
  rw [lastOr_eq]
  unfold prev
  have e : (l.take k).length = k := by simp; omega
  rw [e]
  split
  · rfl
  · rw [List.getElem?_take, if_pos (by omega)]
theorem strOk_take {l : List Bx} {k : Nat} {x : Bx} (hx : l[k]? = some x) : strOk none (l.take (k + 1)) = (strOk none (l.take k) && stepOk (prev l k) x) := by
  have hk : k < l.length := (List.getElem?_eq_some_iff.1 hx).1
  rw [take_snoc hx, strOk_append, lastOr_take (by omega)]
  simp [strOk]
theorem strOk_no {l : List Bx} {k : Nat} (h : strOk none (l.take k) = false) : strOk none l = false := by
  have := strOk_append none (l.take k) (l.drop k)
  rw [List.take_append_drop, h] at this
  simpa using this
theorem step_no {l : List Bx} {k : Nat} {x : Bx} (hx : l[k]? = some x) (h : stepOk (prev l k) x = false) : ok l = false := by
  have : strOk none l = false := strOk_no (k := k + 1) (by rw [strOk_take hx, h]; simp)
  simp [ok, this]
theorem total_append (l m : List Bx) : total (l ++ m) = total l + total m := by simp [total]
theorem total_take {l : List Bx} {k : Nat} {x : Bx} (hx : l[k]? = some x) : total (l.take (k + 1)) = total (l.take k) + x.z.length := by
  rw [take_snoc hx, total_append]; simp [total]
theorem total_le (l : List Bx) (k : Nat) : total (l.take k) ≤ total l := by
  have := total_append (l.take k) (l.drop k)
  rw [List.take_append_drop] at this
  omega
theorem total_no {l : List Bx} {k : Nat} (h : 20000 < total (l.take k)) : ok l = false := by
  have := total_le l k
  have h2 : ¬ total l ≤ 20000 := by omega
  simp [ok, h2]
theorem ok_yes {l : List Bx} (h : l.length ≤ 200) (h1 : strOk none (l.take l.length) = true) (h2 : total (l.take l.length) ≤ 20000) : ok l = true := by
  rw [List.take_length] at h1 h2
  simp [ok, h, h1, h2]
theorem ok_long {l : List Bx} (h : ¬ l.length ≤ 200) : ok l = false := by simp [ok, h]
theorem small_total {l : List Bx} (h : ∀ x ∈ l, (x.k.size : Int) + (x.z.length : Int) ≤ 1048576) (hl : l.length ≤ 200) : total l ≤ 209715200 := by
  have : ∀ m : List Bx, (∀ x ∈ m, (x.k.size : Int) + (x.z.length : Int) ≤ 1048576) → total m ≤ m.length * 1048576 := by
    intro m
    induction m with
    | nil => intro _; simp [total]
    | cons y t ih =>
      intro hm
      have h1 := hm y (by simp)
      have h2 := ih (fun x hx => hm x (by simp [hx]))
      simp [total] at *
      omega
  have := this l h
  omega

theorem step_yes {p : Option Bx} {x : Bx} (h1 : kindOk x.k = true) (h2 : 0 ≤ x.d) (h3 : x.d ≤ 8) (h4 : holds x.k = false ∨ x.z.length = 0) (h5 : x.d ≤ dpOf p) : stepOk p x = true := by
  unfold stepOk
  rw [h1, decide_eq_true h2, decide_eq_true h3, decide_eq_true h5]
  rcases h4 with h4 | h4 <;> simp [h4]
theorem step_n1 {p : Option Bx} {x : Bx} (h1 : kindOk x.k = false) : stepOk p x = false := by simp [stepOk, h1]
theorem step_n2 {p : Option Bx} {x : Bx} (h : ¬ (0 ≤ x.d ∧ x.d ≤ 8)) : stepOk p x = false := by
  unfold stepOk
  by_cases h1 : 0 ≤ x.d
  · have : ¬ x.d ≤ 8 := fun h2 => h ⟨h1, h2⟩
    simp [this]
  · simp [h1]
theorem step_n3 {p : Option Bx} {x : Bx} (h1 : holds x.k = true) (h2 : ¬ x.z.length = 0) : stepOk p x = false := by
  unfold stepOk; simp [h1]; intros; simp_all
theorem step_n4 {p : Option Bx} {x : Bx} (h1 : ¬ x.d ≤ dpOf p) : stepOk p x = false := by
  unfold stepOk; simp [h1]
end Go.Proofs.Ytfdbnlmfnhhcbaa
