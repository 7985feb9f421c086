/-
  Packages held against each other, as plain values; no conditions.
-/
import Derived.Test.YtcgdcabmjihijaaPkP
namespace Go.Proofs.Ytcgdcabmjihijaa
open Go.RowKit
set_option linter.unusedVariables false
set_option linter.unusedSimpArgs false

theorem bl_trans : ∀ (x y z : List UInt8), Op.bytesLess x y = true → Op.bytesLess y z = true → Op.bytesLess x z = true
  | _, [], _, h, _ => by cases ‹List UInt8› <;> simp [Op.bytesLess] at h
  | _, _ :: _, [], _, h => by simp [Op.bytesLess] at h
  | [], _ :: _, _ :: _, _, _ => by simp [Op.bytesLess]
  | a :: x, b :: y, c :: z, h1, h2 => by
    simp only [Op.bytesLess, Bool.or_eq_true, Bool.and_eq_true, decide_eq_true_eq, beq_iff_eq] at h1 h2 ⊢
    rcases h1 with h1 | ⟨rfl, h1⟩
    · rcases h2 with h2 | ⟨rfl, h2⟩
      · left; rw [UInt8.lt_iff_toNat_lt] at *; omega
      · exact .inl h1
    · rcases h2 with h2 | ⟨rfl, h2⟩
      · exact .inl h2
      · exact .inr ⟨rfl, bl_trans x y z h1 h2⟩
theorem bl_irr : ∀ (x : List UInt8), Op.bytesLess x x = false
  | [] => by simp [Op.bytesLess]
  | a :: x => by
    have : ¬ a < a := by rw [UInt8.lt_iff_toNat_lt]; omega
    simp [Op.bytesLess, bl_irr x, this]
theorem bef_trans {a b c : ByteArray} (h1 : bef a b = true) (h2 : bef b c = true) : bef a c = true := bl_trans _ _ _ h1 h2
theorem bef_irr (a : ByteArray) : bef a a = false := bl_irr _
theorem toList_inj {a b : ByteArray} (h : a.toList = b.toList) : a = b := by
  rw [Lib.toList_data, Lib.toList_data] at h
  cases a; cases b
  simp at h
  rw [h]
theorem nmEq {a b : ByteArray} (h : (a.toList == b.toList) = true) : a = b := toList_inj (by simpa using h)
/-- the same asset -/
def kEq (x y : Kl) : Bool := (x.1.toList == y.1.toList) && ((x.2.1 == y.2.1) && (x.2.2 == y.2.2))
theorem kEq_iff {x y : Kl} : kEq x y = true ↔ x = y := by
  obtain ⟨a, b, c⟩ := x
  obtain ⟨a', b', c'⟩ := y
  simp only [kEq, Bool.and_eq_true, beq_iff_eq, Prod.mk.injEq]
  constructor
  · rintro ⟨h1, h2, h3⟩; exact ⟨toList_inj h1, h2, h3⟩
  · rintro ⟨h1, h2, h3⟩; exact ⟨by rw [h1], h2, h3⟩
/-- rising by name -/
theorem rising {l : List Kl} (h : pOk l = true) : ∀ (d i : Nat) (x y : Kl), l[i]? = some x → l[i + d + 1]? = some y → bef x.1 y.1 = true := by
  have step : ∀ (i : Nat) (x y : Kl), l[i]? = some x → l[i + 1]? = some y → bef x.1 y.1 = true := by
    intro i x y hx hy
    have hi := (List.getElem?_eq_some_iff.1 hy).1
    have := (pOk_parts h).2 (i + 1) hi
    rw [it_succ hy (by omega) (by simpa using hx)] at this
    simp only [Bool.and_eq_true] at this
    exact this.2
  intro d
  induction d with
  | zero => exact fun i x y hx hy => step i x y hx hy
  | succ d ih =>
    intro i x y hx hy
    have hi := (List.getElem?_eq_some_iff.1 hy).1
    have hz : l[i + d + 1]? = some l[i + d + 1] := List.getElem?_eq_getElem (by omega)
    exact bef_trans (ih i x _ hx hz) (step (i + d + 1) _ y hz hy)
theorem rise {l : List Kl} (h : pOk l = true) {i j : Nat} {x y : Kl} (hij : i < j) (hx : l[i]? = some x) (hy : l[j]? = some y) : bef x.1 y.1 = true := by
  obtain ⟨d, rfl⟩ : ∃ d, j = i + d + 1 := ⟨j - i - 1, by omega⟩
  exact rising h d i x y hx hy
theorem distinct {l : List Kl} (h : pOk l = true) {i j : Nat} {x y : Kl} (hx : l[i]? = some x) (hy : l[j]? = some y) (he : x.1 = y.1) : i = j := by
  rcases Nat.lt_trichotomy i j with hlt | heq | hgt
  · have := rise h hlt hx hy; rw [he, bef_irr] at this; cases this
  · exact heq
  · have := rise h hgt hy hx; rw [he, bef_irr] at this; cases this
def hasN (l : List Kl) (s : ByteArray) : Bool := l.any fun y => y.1.toList == s.toList
def hasK (l : List Kl) (x : Kl) : Bool := l.any fun y => kEq x y
theorem hasN_no {l : List Kl} {s : ByteArray} (h : ∀ (j : Nat) (y : Kl), l[j]? = some y → (y.1.toList == s.toList) = false) : hasN l s = false := by
  unfold hasN; rw [List.any_eq_false]
  intro y hy
  obtain ⟨j, hj⟩ := List.getElem?_of_mem hy
  rw [h j y hj]; simp
theorem hasN_yes {l : List Kl} {s : ByteArray} {j : Nat} {y : Kl} (hj : l[j]? = some y) (h : (y.1.toList == s.toList) = true) : hasN l s = true := by
  unfold hasN; rw [List.any_eq_true]; exact ⟨y, List.mem_of_getElem? hj, h⟩
theorem hasK_no {l : List Kl} {x : Kl} (h : ∀ (j : Nat) (y : Kl), l[j]? = some y → kEq x y = false) : hasK l x = false := by
  unfold hasK; rw [List.any_eq_false]
  intro y hy
  obtain ⟨j, hj⟩ := List.getElem?_of_mem hy
  rw [h j y hj]; simp
theorem hasK_yes {l : List Kl} {x : Kl} {j : Nat} {y : Kl} (hj : l[j]? = some y) (h : kEq x y = true) : hasK l x = true := by
  unfold hasK; rw [List.any_eq_true]; exact ⟨y, List.mem_of_getElem? hj, h⟩
/-- where a name stands first -/
def Fnd (l : List Kl) (s : ByteArray) (r : Int) : Prop := (r = -1 ∧ hasN l s = false) ∨ ∃ (k : Nat) (y : Kl), r = (k : Int) ∧ l[k]? = some y ∧ (y.1.toList == s.toList) = true
theorem fnd_no {l : List Kl} {x : Kl} (h : hasN l x.1 = false) : hasK l x = false := by
  refine hasK_no fun j y hj => ?_
  cases he : kEq x y with
  | false => rfl
  | true =>
    have := kEq_iff.1 he
    subst this
    rw [hasN_yes hj (by simp)] at h
    cases h
theorem fnd_yes {l : List Kl} {x y : Kl} {k : Nat} (hp : pOk l = true) (hk : l[k]? = some y) (hn : (y.1.toList == x.1.toList) = true) : hasK l x = kEq y x := by
  cases he : kEq y x with
  | true =>
    have := kEq_iff.1 he
    subst this
    exact hasK_yes hk he
  | false =>
    refine hasK_no fun j z hj => ?_
    cases hz : kEq x z with
    | false => rfl
    | true =>
      have := kEq_iff.1 hz
      subst this
      have := distinct hp hk hj (nmEq hn)
      subst this
      rw [hk] at hj
      injection hj with hj
      subst hj
      rw [kEq_iff.2 rfl] at he
      cases he
def sendL (o n : List Kl) : List ByteArray := (n.filter fun x => !hasK o x).map (·.1)
def goneL (o n : List Kl) : List ByteArray := (o.filter fun x => !hasN n x.1).map (·.1)
theorem send_snoc (o n : List Kl) (x : Kl) : sendL o (n ++ [x]) = if hasK o x = true then sendL o n else sendL o n ++ [x.1] := by
  cases h : hasK o x <;> simp [sendL, List.filter_append, List.filter_cons, h]
theorem gone_snoc (o n : List Kl) (x : Kl) : goneL (o ++ [x]) n = if hasN n x.1 = true then goneL o n else goneL o n ++ [x.1] := by
  cases h : hasN n x.1 <;> simp [goneL, List.filter_append, List.filter_cons, h]
theorem send_len (o n : List Kl) : (sendL o n).length ≤ n.length := by unfold sendL; rw [List.length_map]; exact List.length_filter_le _ _
theorem gone_len (o n : List Kl) : (goneL o n).length ≤ o.length := by unfold goneL; rw [List.length_map]; exact List.length_filter_le _ _
def updS (o n : List Kl) : List ByteArray := if (pOk o && pOk n) = true then sendL o n else []
def updG (o n : List Kl) : List ByteArray := if (pOk o && pOk n) = true then goneL o n else []
theorem updS_len (o n : List Kl) : (updS o n).length ≤ 100 := by
  unfold updS
  split
  · rename_i h
    simp only [Bool.and_eq_true] at h
    have := send_len o n
    have := (pOk_parts h.2).1
    omega
  · simp
theorem updG_len (o n : List Kl) : (updG o n).length ≤ 100 := by
  unfold updG
  split
  · rename_i h
    simp only [Bool.and_eq_true] at h
    have := gone_len o n
    have := (pOk_parts h.1).1
    omega
  · simp
/-- what cmp.Compare tells -/
def cmpV (a b : ByteArray) : Int := if bef a b = true then -1 else if bef b a = true then 1 else 0
theorem cmp_lt {a b : ByteArray} (h : bef a b = true) : cmpV a b = -1 := by simp [cmpV, h]
theorem cmp_gt {a b : ByteArray} (h : bef b a = true) : cmpV a b = 1 := by
  have : bef a b = false := by
    cases h2 : bef a b with
    | false => rfl
    | true => have := bef_trans h h2; rw [bef_irr] at this; cases this
  simp [cmpV, h, this]
theorem cmp_eq (a : ByteArray) : cmpV a a = 0 := by simp [cmpV, bef_irr]
/-- what a search by halves finds -/
theorem bs_found {l : List Kl} {s : ByteArray} {i : Nat} (hp : pOk l = true) (h1 : ∀ (m : Nat) (y : Kl), m < i → l[m]? = some y → bef y.1 s = true) (h2 : ∀ (m : Nat) (y : Kl), i ≤ m → l[m]? = some y → bef y.1 s = false) :
    (i < l.length → ∀ y, l[i]? = some y → hasN l s = (y.1.toList == s.toList)) ∧ (¬ i < l.length → hasN l s = false) := by
  constructor
  · intro hi y hy
    cases he : y.1.toList == s.toList with
    | true => exact hasN_yes hy he
    | false =>
      refine hasN_no fun j z hj => ?_
      cases hz : z.1.toList == s.toList with
      | false => rfl
      | true =>
        have e := nmEq hz
        exfalso
        rcases Nat.lt_trichotomy j i with hlt | heq | hgt
        · have := h1 j z hlt hj; rw [e, bef_irr] at this; cases this
        · subst heq; rw [hy] at hj; injection hj with hj; subst hj; rw [he] at hz; cases hz
        · have := rise hp hgt hy hj
          rw [e, h2 i y (Nat.le_refl _) hy] at this; cases this
  · intro hi
    refine hasN_no fun j z hj => ?_
    have hjl := (List.getElem?_eq_some_iff.1 hj).1
    cases hz : z.1.toList == s.toList with
    | false => rfl
    | true =>
      have := h1 j z (by omega) hj
      rw [nmEq hz, bef_irr] at this; cases this

end Go.Proofs.Ytcgdcabmjihijaa
