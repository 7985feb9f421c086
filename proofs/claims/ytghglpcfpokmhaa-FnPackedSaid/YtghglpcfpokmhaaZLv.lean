/-
  Assets and packages as plain values; no conditions.
  Packages held against each other, as plain values; no conditions.
  Packages made of names and bodies, as plain values: a list that rises by name and has the same assets is one; no conditions.
  Contracts of the leaves: bounds, secrets, locks; nothing is written.
-/
import Derived.Test.YtghglpcfpokmhaaZDg
import Derived.Lib.Strings
namespace Go.Proofs.Ytghglpcfpokmhaa
open Go.RowKit
set_option linter.unusedVariables false
set_option linter.unusedSimpArgs false

abbrev Kl := ByteArray × Int × Int
theorem take_snocK {l : List Kl} {k : Nat} {c : Kl} (h : l[k]? = some c) : l.take (k + 1) = l.take k ++ [c] := by rw [List.take_add_one, h]; rfl
/-- a sign of a name -/
def chOk (x : Int) : Bool := (decide (48 ≤ x) && decide (x ≤ 57)) || (decide (97 ≤ x) && decide (x ≤ 122)) || (decide (65 ≤ x) && decide (x ≤ 90)) || decide (x = 95) || decide (x = 46)
theorem ch_yes {x : Int} (h : chOk x = true) : (48 ≤ x ∧ x ≤ 57) ∨ (97 ≤ x ∧ x ≤ 122) ∨ (65 ≤ x ∧ x ≤ 90) ∨ x = 95 ∨ x = 46 := by simp [chOk] at h; omega
theorem ch_no {x : Int} (h : chOk x = false) : ¬ (48 ≤ x ∧ x ≤ 57) ∧ ¬ (97 ≤ x ∧ x ≤ 122) ∧ ¬ (65 ≤ x ∧ x ≤ 90) ∧ ¬ x = 95 ∧ ¬ x = 46 := by simp [chOk] at h; omega
def nmOk (s : ByteArray) : Bool := decide (1 ≤ s.size) && decide (s.size ≤ 40) && s.data.toList.all fun c => chOk (c.toNat : Int)
theorem nm_short {s : ByteArray} (h : ¬ 1 ≤ s.size) : nmOk s = false := by simp only [nmOk, decide_eq_false h, Bool.false_and]
theorem nm_long {s : ByteArray} (h : ¬ s.size ≤ 40) : nmOk s = false := by simp only [nmOk, decide_eq_false h, Bool.false_and, Bool.and_false]
theorem nm_bad {s : ByteArray} {k : Nat} {c : UInt8} (hk : s.data.toList[k]? = some c) (h : chOk (c.toNat : Int) = false) : nmOk s = false := by
  have : (s.data.toList.all fun c => chOk (c.toNat : Int)) = false := by
    rw [List.all_eq_false]
    exact ⟨c, List.mem_of_getElem? hk, by simp [h]⟩
  simp only [nmOk, this, Bool.and_false]
theorem nm_good {s : ByteArray} (h1 : 1 ≤ s.size) (h2 : s.size ≤ 40) (h : ∀ (k : Nat) (c : UInt8), s.data.toList[k]? = some c → chOk (c.toNat : Int) = true) : nmOk s = true := by
  have : (s.data.toList.all fun c => chOk (c.toNat : Int)) = true := by
    rw [List.all_eq_true]
    intro c hc
    obtain ⟨k, hk⟩ := List.getElem?_of_mem hc
    exact h k c hk
  simp only [nmOk, this, Bool.and_true, Bool.and_eq_true, decide_eq_true_eq]
  exact ⟨h1, h2⟩
theorem nm_size {s : ByteArray} (h : nmOk s = true) : 1 ≤ s.size ∧ s.size ≤ 40 := by
  simp only [nmOk, Bool.and_eq_true, decide_eq_true_eq] at h; exact h.1
/-- one text stands ahead of the other -/
def bef (a b : ByteArray) : Bool := Op.bytesLess a.toList b.toList
theorem bef_eq (a b : ByteArray) : bef a b = Op.bytesLess a.data.toList b.data.toList := by unfold bef; rw [Lib.toList_data, Lib.toList_data]
theorem bl_skip : ∀ (k : Nat) (x y : List UInt8), k ≤ x.length → k ≤ y.length → (∀ j, j < k → x[j]? = y[j]?) → Op.bytesLess x y = Op.bytesLess (x.drop k) (y.drop k)
  | 0, _, _, _, _, _ => by simp
  | k + 1, x, y, hx, hy, h => by
    match x, y, hx, hy with
    | a :: x, b :: y, hx, hy =>
      have e : a = b := by simpa using h 0 (by omega)
      subst e
      rw [Op.bytesLess]
      simp only [List.drop_succ_cons]
      rw [← bl_skip k x y (by simpa using hx) (by simpa using hy) (fun j hj => by simpa using h (j + 1) (by omega))]
      simp
theorem bl_at {x y : List UInt8} {k : Nat} {a b : UInt8} (ha : x[k]? = some a) (hb : y[k]? = some b) (h : ∀ j : Nat, j < k → x[j]? = y[j]?) (hne : a ≠ b) : Op.bytesLess x y = decide ((a.toNat : Int) < b.toNat) := by
  have h1 := (List.getElem?_eq_some_iff.1 ha).1
  have h2 := (List.getElem?_eq_some_iff.1 hb).1
  rw [bl_skip k x y (by omega) (by omega) h, List.drop_eq_getElem_cons h1, List.drop_eq_getElem_cons h2]
  have e1 : x[k] = a := (List.getElem?_eq_some_iff.1 ha).2
  have e2 : y[k] = b := (List.getElem?_eq_some_iff.1 hb).2
  rw [e1, e2, Op.bytesLess]
  have e3 : (a == b) = false := by simp [hne]
  rw [e3]
  simp only [Bool.false_and, Bool.or_false]
  rw [Bool.eq_iff_iff]; simp [UInt8.lt_iff_toNat_lt]
theorem bl_end {x y : List UInt8} (h : ∀ j, j < x.length → j < y.length → x[j]? = y[j]?) : Op.bytesLess x y = decide ((x.length : Int) < y.length) := by
  rcases Nat.lt_or_ge x.length y.length with h1 | h1
  · rw [bl_skip x.length x y (Nat.le_refl _) (by omega) (fun j hj => h j hj (by omega)), List.drop_length]
    obtain ⟨b, t, e⟩ : ∃ b t, y.drop x.length = b :: t := ⟨_, _, List.drop_eq_getElem_cons h1⟩
    rw [e, Op.bytesLess]; simp; omega
  · rw [bl_skip y.length x y h1 (Nat.le_refl _) (fun j hj => h j (by omega) hj), List.drop_length]
    have : Op.bytesLess (x.drop y.length) [] = false := by cases x.drop y.length <;> rfl
    rw [this]; simp; omega
def asOk (x : Kl) : Bool := nmOk x.1 && (decide (0 ≤ x.2.1) && decide (x.2.1 ≤ 40000)) && (decide (0 ≤ x.2.2) && decide (x.2.2 ≤ 1000000006))
/-- asset k is one, and stands behind the one ahead of it -/
def itOk (l : List Kl) (k : Nat) : Bool :=
  match l[k]? with
  | some x => asOk x && (k == 0 || match l[k - 1]? with
    | some y => bef y.1 x.1
    | none => true)
  | none => true
def pOk (l : List Kl) : Bool := decide (l.length ≤ 100) && (List.range l.length).all (itOk l)
theorem pOk_long {l : List Kl} (h : ¬ l.length ≤ 100) : pOk l = false := by simp only [pOk, decide_eq_false h, Bool.false_and]
theorem pOk_bad {l : List Kl} {k : Nat} (hk : k < l.length) (h : itOk l k = false) : pOk l = false := by
  have : (List.range l.length).all (itOk l) = false := by
    rw [List.all_eq_false]; exact ⟨k, by simpa using hk, by simp [h]⟩
  simp only [pOk, this, Bool.and_false]
theorem pOk_good {l : List Kl} (h1 : l.length ≤ 100) (h : ∀ k, k < l.length → itOk l k = true) : pOk l = true := by
  have : (List.range l.length).all (itOk l) = true := by
    rw [List.all_eq_true]; intro k hk; exact h k (by simpa using hk)
  simp only [pOk, this, Bool.and_true, decide_eq_true_eq]; exact h1
theorem pOk_parts {l : List Kl} (h : pOk l = true) : l.length ≤ 100 ∧ ∀ k, k < l.length → itOk l k = true := by
  simp only [pOk, Bool.and_eq_true, decide_eq_true_eq, List.all_eq_true, List.mem_range] at h; exact h
theorem it_zero {l : List Kl} {x : Kl} (h : l[0]? = some x) : itOk l 0 = asOk x := by simp [itOk, h]
theorem it_succ {l : List Kl} {k : Nat} {x y : Kl} (h : l[k]? = some x) (h0 : 0 < k) (hy : l[k - 1]? = some y) : itOk l k = (asOk x && bef y.1 x.1) := by
  have : (k == 0) = false := by simp; omega
  simp [itOk, h, hy, this]

end Go.Proofs.Ytghglpcfpokmhaa

namespace Go.Proofs.Ytghglpcfpokmhaa
open Go.RowKit
set_option linter.unusedVariables false
set_option linter.unusedSimpArgs false

theorem bl_trans : ∀ (x y z : List UInt8), Op.bytesLess x y = true → Op.bytesLess y z = true → Op.bytesLess x z = true
  | _, [], _, h, _ => by cases ‹List UInt8› <;> simp [Op.bytesLess] at h
  | _, _ :: _, [], _, h => by simp [Op.bytesLess] at h
  | [], _ :: _, _ :: _, _, _ => by simp [Op.bytesLess]
  | a :: x, b :: y, c :: z, h1, h2 => by
    simp only [Op.bytesLess, Bool.or_eq_true, Bool.and_eq_true, decide_eq_true_eq, beq_iff_eq] at h1 h2 ⊢
    rcases h1 with h1 | ⟨rfl, h1⟩
    · rcases h2 with h2 | ⟨rfl, h2⟩
      · left; rw [UInt8.lt_iff_toNat_lt] at *; omega
      · exact .inl h1
    · rcases h2 with h2 | ⟨rfl, h2⟩
      · exact .inl h2
      · exact .inr ⟨rfl, bl_trans x y z h1 h2⟩
theorem bl_irr : ∀ (x : List UInt8), Op.bytesLess x x = false
  | [] => by simp [Op.bytesLess]
  | a :: x => by
    have : ¬ a < a := by rw [UInt8.lt_iff_toNat_lt]; omega
    simp [Op.bytesLess, bl_irr x, this]
theorem bef_trans {a b c : ByteArray} (h1 : bef a b = true) (h2 : bef b c = true) : bef a c = true := bl_trans _ _ _ h1 h2
theorem bef_irr (a : ByteArray) : bef a a = false := bl_irr _
theorem toList_inj {a b : ByteArray} (h : a.toList = b.toList) : a = b := by
  rw [Lib.toList_data, Lib.toList_data] at h
  cases a; cases b
  simp at h
  rw [h]
theorem nmEq {a b : ByteArray} (h : (a.toList == b.toList) = true) : a = b := toList_inj (by simpa using h)
/-- the same asset -/
def kEq (x y : Kl) : Bool := (x.1.toList == y.1.toList) && ((x.2.1 == y.2.1) && (x.2.2 == y.2.2))
theorem kEq_iff {x y : Kl} : kEq x y = true ↔ x = y := by
  obtain ⟨a, b, c⟩ := x
  obtain ⟨a', b', c'⟩ := y
  simp only [kEq, Bool.and_eq_true, beq_iff_eq, Prod.mk.injEq]
  constructor
  · rintro ⟨h1, h2, h3⟩; exact ⟨toList_inj h1, h2, h3⟩
  · rintro ⟨h1, h2, h3⟩; exact ⟨by rw [h1], h2, h3⟩
/-- rising by name -/
theorem rising {l : List Kl} (h : pOk l = true) : ∀ (d i : Nat) (x y : Kl), l[i]? = some x → l[i + d + 1]? = some y → bef x.1 y.1 = true := by
  have step : ∀ (i : Nat) (x y : Kl), l[i]? = some x → l[i + 1]? = some y → bef x.1 y.1 = true := by
    intro i x y hx hy
    have hi := (List.getElem?_eq_some_iff.1 hy).1
    have := (pOk_parts h).2 (i + 1) hi
    rw [it_succ hy (by omega) (by simpa using hx)] at this
    simp only [Bool.and_eq_true] at this
    exact this.2
  intro d
  induction d with
  | zero => exact fun i x y hx hy => step i x y hx hy
  | succ d ih =>
    intro i x y hx hy
    have hi := (List.getElem?_eq_some_iff.1 hy).1
    have hz : l[i + d + 1]? = some l[i + d + 1] := List.getElem?_eq_getElem (by omega)
    exact bef_trans (ih i x _ hx hz) (step (i + d + 1) _ y hz hy)
theorem rise {l : List Kl} (h : pOk l = true) {i j : Nat} {x y : Kl} (hij : i < j) (hx : l[i]? = some x) (hy : l[j]? = some y) : bef x.1 y.1 = true := by
  obtain ⟨d, rfl⟩ : ∃ d, j = i + d + 1 := ⟨j - i - 1, by omega⟩
  exact rising h d i x y hx hy
theorem distinct {l : List Kl} (h : pOk l = true) {i j : Nat} {x y : Kl} (hx : l[i]? = some x) (hy : l[j]? = some y) (he : x.1 = y.1) : i = j := by
  rcases Nat.lt_trichotomy i j with hlt | heq | hgt
  · have := rise h hlt hx hy; rw [he, bef_irr] at this; cases this
  · exact heq
  · have := rise h hgt hy hx; rw [he, bef_irr] at this; cases this
def hasN (l : List Kl) (s : ByteArray) : Bool := l.any fun y => y.1.toList == s.toList
def hasK (l : List Kl) (x : Kl) : Bool := l.any fun y => kEq x y
theorem hasN_no {l : List Kl} {s : ByteArray} (h : ∀ (j : Nat) (y : Kl), l[j]? = some y → (y.1.toList == s.toList) = false) : hasN l s = false := by
  unfold hasN; rw [List.any_eq_false]
  intro y hy
  obtain ⟨j, hj⟩ := List.getElem?_of_mem hy
  rw [h j y hj]; simp
theorem hasN_yes {l : List Kl} {s : ByteArray} {j : Nat} {y : Kl} (hj : l[j]? = some y) (h : (y.1.toList == s.toList) = true) : hasN l s = true := by
  unfold hasN; rw [List.any_eq_true]; exact ⟨y, List.mem_of_getElem? hj, h⟩
theorem hasK_no {l : List Kl} {x : Kl} (h : ∀ (j : Nat) (y : Kl), l[j]? = some y → kEq x y = false) : hasK l x = false := by
  unfold hasK; rw [List.any_eq_false]
  intro y hy
  obtain ⟨j, hj⟩ := List.getElem?_of_mem hy
  rw [h j y hj]; simp
theorem hasK_yes {l : List Kl} {x : Kl} {j : Nat} {y : Kl} (hj : l[j]? = some y) (h : kEq x y = true) : hasK l x = true := by
  unfold hasK; rw [List.any_eq_true]; exact ⟨y, List.mem_of_getElem? hj, h⟩
/-- where a name stands first -/
def Fnd (l : List Kl) (s : ByteArray) (r : Int) : Prop := (r = -1 ∧ hasN l s = false) ∨ ∃ (k : Nat) (y : Kl), r = (k : Int) ∧ l[k]? = some y ∧ (y.1.toList == s.toList) = true
theorem fnd_no {l : List Kl} {x : Kl} (h : hasN l x.1 = false) : hasK l x = false := by
  refine hasK_no fun j y hj => ?_
  cases he : kEq x y with
  | false => rfl
  | true =>
    have := kEq_iff.1 he
    subst this
    rw [hasN_yes hj (by simp)] at h
    cases h
theorem fnd_yes {l : List Kl} {x y : Kl} {k : Nat} (hp : pOk l = true) (hk : l[k]? = some y) (hn : (y.1.toList == x.1.toList) = true) : hasK l x = kEq y x := by
  cases he : kEq y x with
  | true =>
    have := kEq_iff.1 he
    subst this
    exact hasK_yes hk he
  | false =>
    refine hasK_no fun j z hj => ?_
    cases hz : kEq x z with
    | false => rfl
    | true =>
      have := kEq_iff.1 hz
      subst this
      have := distinct hp hk hj (nmEq hn)
      subst this
      rw [hk] at hj
      injection hj with hj
      subst hj
      rw [kEq_iff.2 rfl] at he
      cases he
def sendL (o n : List Kl) : List ByteArray := (n.filter fun x => !hasK o x).map (·.1)
def goneL (o n : List Kl) : List ByteArray := (o.filter fun x => !hasN n x.1).map (·.1)
theorem send_snoc (o n : List Kl) (x : Kl) : sendL o (n ++ [x]) = if hasK o x = true then sendL o n else sendL o n ++ [x.1] := by
  cases h : hasK o x <;> simp [sendL, List.filter_append, List.filter_cons, h]
theorem gone_snoc (o n : List Kl) (x : Kl) : goneL (o ++ [x]) n = if hasN n x.1 = true then goneL o n else goneL o n ++ [x.1] := by
  cases h : hasN n x.1 <;> simp [goneL, List.filter_append, List.filter_cons, h]
theorem send_len (o n : List Kl) : (sendL o n).length ≤ n.length := by unfold sendL; rw [List.length_map]; exact List.length_filter_le _ _
theorem gone_len (o n : List Kl) : (goneL o n).length ≤ o.length := by unfold goneL; rw [List.length_map]; exact List.length_filter_le _ _
def updS (o n : List Kl) : List ByteArray := if (pOk o && pOk n) = true then sendL o n else []
def updG (o n : List Kl) : List ByteArray := if (pOk o && pOk n) = true then goneL o n else []
theorem updS_len (o n : List Kl) : (updS o n).length ≤ 100 := by
  unfold updS
  split
  · rename_i h
    simp only [Bool.and_eq_true] at h
    have := send_len o n
    have := (pOk_parts h.2).1
    omega
  · simp
theorem updG_len (o n : List Kl) : (updG o n).length ≤ 100 := by
  unfold updG
  split
  · rename_i h
    simp only [Bool.and_eq_true] at h
    have := gone_len o n
    have := (pOk_parts h.1).1
    omega
  · simp
/-- what cmp.Compare tells -/
def cmpV (a b : ByteArray) : Int := if bef a b = true then -1 else if bef b a = true then 1 else 0
theorem cmp_lt {a b : ByteArray} (h : bef a b = true) : cmpV a b = -1 := by simp [cmpV, h]
theorem cmp_gt {a b : ByteArray} (h : bef b a = true) : cmpV a b = 1 := by
  have : bef a b = false := by
    cases h2 : bef a b with
    | false => rfl
    | true => have := bef_trans h h2; rw [bef_irr] at this; cases this
  simp [cmpV, h, this]
theorem cmp_eq (a : ByteArray) : cmpV a a = 0 := by simp [cmpV, bef_irr]
/-- what a search by halves finds -/
theorem bs_found {l : List Kl} {s : ByteArray} {i : Nat} (hp : pOk l = true) (h1 : ∀ (m : Nat) (y : Kl), m < i → l[m]? = some y → bef y.1 s = true) (h2 : ∀ (m : Nat) (y : Kl), i ≤ m → l[m]? = some y → bef y.1 s = false) :
    (i < l.length → ∀ y, l[i]? = some y → hasN l s = (y.1.toList == s.toList)) ∧ (¬ i < l.length → hasN l s = false) := by
  constructor
  · intro hi y hy
    cases he : y.1.toList == s.toList with
    | true => exact hasN_yes hy he
    | false =>
      refine hasN_no fun j z hj => ?_
      cases hz : z.1.toList == s.toList with
      | false => rfl
      | true =>
        have e := nmEq hz
        exfalso
        rcases Nat.lt_trichotomy j i with hlt | heq | hgt
        · have := h1 j z hlt hj; rw [e, bef_irr] at this; cases this
        · subst heq; rw [hy] at hj; injection hj with hj; subst hj; rw [he] at hz; cases hz
        · have := rise hp hgt hy hj
          rw [e, h2 i y (Nat.le_refl _) hy] at this; cases this
  · intro hi
    refine hasN_no fun j z hj => ?_
    have hjl := (List.getElem?_eq_some_iff.1 hj).1
    cases hz : z.1.toList == s.toList with
    | false => rfl
    | true =>
      have := h1 j z (by omega) hj
      rw [nmEq hz, bef_irr] at this; cases this

end Go.Proofs.Ytghglpcfpokmhaa

namespace Go.Proofs.Ytghglpcfpokmhaa
open Go.RowKit
set_option linter.unusedVariables false
set_option linter.unusedSimpArgs false

theorem bl_tot : ∀ (x y : List UInt8), Op.bytesLess x y = false → x ≠ y → Op.bytesLess y x = true
  | [], [], _, h => absurd rfl h
  | [], _ :: _, h, _ => by simp [Op.bytesLess] at h
  | _ :: _, [], _, _ => by simp [Op.bytesLess]
  | a :: x, b :: y, h, hne => by
    simp only [Op.bytesLess, Bool.or_eq_false_iff, Bool.and_eq_false_iff, decide_eq_false_iff_not, Bool.or_eq_true, Bool.and_eq_true, decide_eq_true_eq, beq_iff_eq] at h ⊢
    obtain ⟨h1, h2⟩ := h
    by_cases e : a = b
    · subst e
      refine .inr ⟨rfl, bl_tot x y ?_ (fun e => hne (by rw [e]))⟩
      rcases h2 with h2 | h2
      · simp at h2
      · exact h2
    · left
      rw [UInt8.lt_iff_toNat_lt] at h1 ⊢
      have : a.toNat ≠ b.toNat := fun h => e (UInt8.toNat_inj.1 h)
      omega
theorem bef_tot {a b : ByteArray} (h : bef a b = false) (hne : (a.toList == b.toList) = false) : bef b a = true :=
  bl_tot _ _ h (by intro e; rw [e] at hne; simp at hne)
/-- the asset of a name and a body -/
def ass (n : ByteArray) (t : List Int) : Kl := (n, (t.length : Int), dig t)
def pkL (ns : List ByteArray) (ts : List (List Int)) : List Kl := List.zipWith ass ns ts
def Rise (l : List Kl) : Prop := l.Pairwise fun x y => bef x.1 y.1 = true
/-- names and bodies of which a package can be made -/
structure Good (ns : List ByteArray) (ts : List (List Int)) : Prop where
  len : ns.length = ts.length
  few : ns.length ≤ 100
  nms : ∀ n ∈ ns, nmOk n = true
  bds : ∀ t ∈ ts, t.length ≤ 40000
  one : ns.Nodup
def PkQ (ns : List ByteArray) (ts : List (List Int)) (L : List Kl) (ok : Bool) : Prop := (ok = true ∧ Good ns ts ∧ L.Perm (pkL ns ts) ∧ Rise L) ∨ (ok = false ∧ L = [] ∧ ¬ Good ns ts)
theorem Rise.uniq : ∀ {L M : List Kl}, L.Perm M → Rise L → Rise M → L = M
  | [], M, hp, _, _ => by rw [List.nil_perm] at hp; exact hp.symm
  | x :: L, [], hp, _, _ => by simp at hp
  | x :: L, y :: M, hp, h1, h2 => by
    have hxy : x = y := by
      have hx : x ∈ y :: M := hp.mem_iff.1 (List.mem_cons_self ..)
      have hy : y ∈ x :: L := hp.mem_iff.2 (List.mem_cons_self ..)
      rcases List.mem_cons.1 hx with e | hx
      · exact e
      · rcases List.mem_cons.1 hy with e | hy
        · exact e.symm
        · have a1 := (List.pairwise_cons.1 h1).1 y hy
          have a2 := (List.pairwise_cons.1 h2).1 x hx
          have := bef_trans a1 a2
          rw [bef_irr] at this; cases this
    subst hxy
    rw [Rise.uniq (List.Perm.cons_inv hp) (List.pairwise_cons.1 h1).2 (List.pairwise_cons.1 h2).2]
/-- a place in the list is held by y -/
def shf (L : List Kl) (k : Nat) (y : Kl) : List Kl := L.take k ++ y :: L.drop k
theorem shf_len {L : List Kl} {k : Nat} {y : Kl} (h : k ≤ L.length) : (shf L k y).length = L.length + 1 := by simp [shf]; omega
theorem shf_end (L : List Kl) (y : Kl) : shf L L.length y = L ++ [y] := by simp [shf]
theorem shf_at {L : List Kl} {k : Nat} {y : Kl} (h : k ≤ L.length) : (shf L k y)[k]? = some y := by
  have e : (L.take k).length = k := by simp; omega
  unfold shf; rw [List.getElem?_append_right (by omega), e]; simp
theorem shf_pre {L : List Kl} {k j : Nat} {y : Kl} (h : k ≤ L.length) (hj : j < k) : (shf L k y)[j]? = L[j]? := by
  unfold shf; rw [List.getElem?_append_left (by simp; omega), List.getElem?_take_of_lt hj]
theorem shf_set {L : List Kl} {k : Nat} {y x : Kl} (h : k ≤ L.length) : (shf L k y).set k x = shf L k x := by
  have e : (L.take k).length = k := by simp; omega
  unfold shf; rw [List.set_append_right _ _ (by omega), e]; simp
theorem shf_dec {L : List Kl} {k : Nat} {z : Kl} (h : k + 1 ≤ L.length) (hz : L[k]? = some z) : shf L (k + 1) z = shf L k z := by
  unfold shf
  obtain ⟨h1, h2⟩ := List.getElem?_eq_some_iff.1 hz
  rw [take_snocK hz, List.drop_eq_getElem_cons h1, h2]; simp
theorem shf_perm (L : List Kl) (k : Nat) (x : Kl) : (shf L k x).Perm (L ++ [x]) := by
  unfold shf
  refine List.perm_middle.trans ?_
  rw [List.take_append_drop]
  exact (List.perm_append_singleton x L).symm
theorem shf_rise {L : List Kl} {k : Nat} {x : Kl} (h : Rise L) (h1 : ∀ (j : Nat) (y : Kl), j < k → L[j]? = some y → bef y.1 x.1 = true) (h2 : ∀ (j : Nat) (y : Kl), k ≤ j → L[j]? = some y → bef x.1 y.1 = true) : Rise (shf L k x) := by
  unfold Rise shf
  have h' := h
  unfold Rise at h'
  rw [← List.take_append_drop k L, List.pairwise_append] at h'
  obtain ⟨p1, p2, p3⟩ := h'
  have hd : ∀ y ∈ L.drop k, bef x.1 y.1 = true := fun y hy => by
    obtain ⟨j, hj⟩ := List.getElem?_of_mem hy
    rw [List.getElem?_drop] at hj
    exact h2 _ y (by omega) hj
  have ht : ∀ y ∈ L.take k, bef y.1 x.1 = true := fun y hy => by
    obtain ⟨j, hj⟩ := List.getElem?_of_mem hy
    have hjk : j < k := by have := (List.getElem?_eq_some_iff.1 hj).1; simp at this; omega
    rw [List.getElem?_take_of_lt hjk] at hj
    exact h1 j y hjk hj
  rw [List.pairwise_append]
  refine ⟨p1, List.pairwise_cons.2 ⟨hd, p2⟩, fun a ha b hb => ?_⟩
  rcases List.mem_cons.1 hb with rfl | hb
  · exact ht a ha
  · exact p3 a ha b hb
theorem rise_pre {L : List Kl} {k : Nat} {z x : Kl} (h : Rise L) (hz : L[k]? = some z) (hx : bef z.1 x.1 = true) : ∀ (j : Nat) (y : Kl), j < k + 1 → L[j]? = some y → bef y.1 x.1 = true := by
  intro j y hj hy
  by_cases e : j = k
  · subst e; rw [hz] at hy; injection hy with hy; subst hy; exact hx
  · obtain ⟨h1, h2⟩ := List.getElem?_eq_some_iff.1 hy
    obtain ⟨h3, h4⟩ := List.getElem?_eq_some_iff.1 hz
    have := List.pairwise_iff_getElem.1 h j k h1 h3 (by omega)
    rw [h2, h4] at this
    exact bef_trans this hx
theorem pkL_snoc {ns : List ByteArray} {ts : List (List Int)} {k : Nat} {n : ByteArray} {t : List Int} (hn : ns[k]? = some n) (ht : ts[k]? = some t) : (pkL ns ts).take (k + 1) = (pkL ns ts).take k ++ [ass n t] := by
  have : (pkL ns ts)[k]? = some (ass n t) := by simp [pkL, List.getElem?_zipWith, hn, ht]
  exact take_snocK this
theorem pkL_len {ns : List ByteArray} {ts : List (List Int)} (h : ns.length = ts.length) : (pkL ns ts).length = ns.length := by simp [pkL, h]
theorem bad_nm {ns : List ByteArray} {ts : List (List Int)} {k : Nat} {n : ByteArray} (hn : ns[k]? = some n) (h : nmOk n = false) : ¬ Good ns ts := fun g => by rw [g.nms n (List.mem_of_getElem? hn)] at h; cases h
theorem bad_bd {ns : List ByteArray} {ts : List (List Int)} {k : Nat} {t : List Int} (hn : ts[k]? = some t) (h : 40000 < t.length) : ¬ Good ns ts := fun g => by have := g.bds t (List.mem_of_getElem? hn); omega
theorem bad_two {ns : List ByteArray} {ts : List (List Int)} {k i : Nat} {n : ByteArray} {z : Kl} {L : List Kl} (hn : ns[k]? = some n) (hp : L.Perm ((pkL ns ts).take k)) (hz : L[i]? = some z) (he : (z.1.toList == n.toList) = true) : ¬ Good ns ts := fun g => by
  have hm : z ∈ (pkL ns ts).take k := hp.mem_iff.1 (List.mem_of_getElem? hz)
  obtain ⟨j, hj⟩ := List.getElem?_of_mem hm
  have hjk : j < k := by have := (List.getElem?_eq_some_iff.1 hj).1; simp at this; omega
  rw [List.getElem?_take_of_lt hjk] at hj
  have hkl := (List.getElem?_eq_some_iff.1 hn).1
  have hl := g.len
  have e1 : ns[j]? = some (ns[j]'(by omega)) := List.getElem?_eq_getElem (by omega)
  have e2 : ts[j]? = some (ts[j]'(by omega)) := List.getElem?_eq_getElem (by omega)
  simp only [pkL, List.getElem?_zipWith, e1, e2] at hj
  injection hj with hj
  have e3 : z.1 = ns[j]'(by omega) := by rw [← hj]; rfl
  have e4 := nmEq he
  have := List.pairwise_iff_getElem.1 g.one j k (by omega) hkl hjk
  apply this
  rw [← e3, e4]
  exact (List.getElem?_eq_some_iff.1 hn).2.symm
theorem good_of {ns : List ByteArray} {ts : List (List Int)} {L : List Kl} (hl : ns.length = ts.length) (hf : ns.length ≤ 100) (h1 : ∀ (j : Nat) (n : ByteArray), ns[j]? = some n → nmOk n = true) (h2 : ∀ (j : Nat) (t : List Int), ts[j]? = some t → t.length ≤ 40000) (hp : L.Perm (pkL ns ts)) (hr : Rise L) : Good ns ts := by
  refine ⟨hl, hf, fun n hn => ?_, fun t ht => ?_, ?_⟩
  · obtain ⟨j, hj⟩ := List.getElem?_of_mem hn; exact h1 j n hj
  · obtain ⟨j, hj⟩ := List.getElem?_of_mem ht; exact h2 j t hj
  · have hm : (L.map (·.1)).Perm ((pkL ns ts).map (·.1)) := hp.map _
    have he : (pkL ns ts).map (·.1) = ns := by
      apply List.ext_getElem?
      intro j
      by_cases hj : j < ns.length
      · have e1 : ns[j]? = some (ns[j]'hj) := List.getElem?_eq_getElem hj
        have e2 : ts[j]? = some (ts[j]'(by omega)) := List.getElem?_eq_getElem (by omega)
        simp only [List.getElem?_map, pkL, List.getElem?_zipWith, e1, e2]; rfl
      · rw [List.getElem?_eq_none (by simp [pkL_len hl]; omega), List.getElem?_eq_none (by omega)]
    rw [he] at hm
    refine hm.nodup_iff.1 ?_
    refine List.Pairwise.map _ (fun a b hab e => ?_) hr
    rw [e, bef_irr] at hab; cases hab

end Go.Proofs.Ytghglpcfpokmhaa

namespace Go.Proofs.Ytghglpcfpokmhaa
open Go.RowKit
set_option linter.unusedVariables false
set_option linter.unusedSimpArgs false

theorem fl_b {lo x hi : Int} (v : Bool) (h : v = true ↔ lo ≤ x ∧ x ≤ hi) : (decide (lo ≤ x) && decide (x ≤ hi)) = v := by
  rw [Bool.eq_iff_iff]; simpa using h.symm
abbrev lkv (f t s : Int) : Value := .agg #[.int .i64 f, .int .i64 t, .int .i64 s]
def LkOk (f t s : Int) : Prop := (0 ≤ f ∧ f ≤ t ∧ t ≤ 1000000000) ∧ (1 ≤ s ∧ s ≤ 1000000006)
end Go.Proofs.Ytghglpcfpokmhaa
