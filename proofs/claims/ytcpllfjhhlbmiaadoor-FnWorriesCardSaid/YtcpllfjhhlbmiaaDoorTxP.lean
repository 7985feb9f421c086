/-
  Plain facts on the texts of titles: lines as the library splits them at newlines; what a text is, by its lines and byte by byte. No program is named here; there are no conditions.
-/
import Derived.WalkKit
import Derived.Lib.Strings
import Derived.Lib.Split
import Derived.Lib.SplitLaws
import Derived.Lib.IndexBytes
namespace Go.Proofs.YtcpllfjhhlbmiaaDoor
open Go.RowKit
set_option linter.unusedVariables false
set_option linter.unusedSimpArgs false

/-- a byte more: the words that are done, and the one under way -/
def stepL (st : List (List UInt8) × List UInt8) (c : UInt8) : List (List UInt8) × List UInt8 := if c = 10 then (st.1 ++ [st.2], []) else (st.1, st.2 ++ [c])
def stL (l : List UInt8) : List (List UInt8) × List UInt8 := l.foldl stepL ([], [])
/-- the words of a line: what lies between newlines -/
def linesL (l : List UInt8) : List (List UInt8) := (stL l).1 ++ [(stL l).2]
theorem stL_snoc (l : List UInt8) (c : UInt8) : stL (l ++ [c]) = stepL (stL l) c := by unfold stL; rw [List.foldl_append]; rfl
theorem foldL_len (l : List UInt8) : ∀ st, (l.foldl stepL st).1.length ≤ st.1.length + l.length := by
  induction l with
  | nil => intro st; simp
  | cons c l ih =>
    intro st
    have h := ih (stepL st c)
    have h2 : (stepL st c).1.length ≤ st.1.length + 1 := by unfold stepL; split <;> simp
    simp only [List.foldl_cons, List.length_cons]
    omega
theorem stL_len (l : List UInt8) : (stL l).1.length ≤ l.length := by have := foldL_len l ([], []); simpa [stL] using this
theorem stL_one {l : List UInt8} {k : Nat} {c : UInt8} (h : l[k]? = some c) : stL (l.take (k + 1)) = stepL (stL (l.take k)) c := by
  rw [List.take_add_one, h]
  exact stL_snoc _ _
/-- what a word under way adds to the words behind it -/
def glue (c : List UInt8) : List (List UInt8) → List (List UInt8)
  | [] => [c]
  | h :: t => (c ++ h) :: t
theorem fold_lines (l : List UInt8) : ∀ o c, (l.foldl stepL (o, c)).1 ++ [(l.foldl stepL (o, c)).2] = o ++ glue c (linesL l) := by
  induction l with
  | nil => intro o c; simp [linesL, stL, glue]
  | cons b l ih =>
    intro o c
    rw [List.foldl_cons]
    by_cases h : b = 10
    · have e : stepL (o, c) b = (o ++ [c], []) := if_pos h
      have e2 : linesL (b :: l) = [] :: linesL l := by
        have := ih [[]] []
        unfold linesL stL
        rw [List.foldl_cons, show stepL ([], []) b = ([[]], []) from if_pos h, this]
        cases hw : linesL l with
        | nil => unfold linesL at hw; simp at hw
        | cons x y => simp [glue]; exact hw.symm
      rw [e, ih, e2]
      cases hw : linesL l with
      | nil => unfold linesL at hw; simp at hw
      | cons x y => simp [glue]
    · have e : stepL (o, c) b = (o, c ++ [b]) := if_neg h
      have e2 : linesL (b :: l) = glue [b] (linesL l) := by
        have := ih [] [b]
        unfold linesL stL
        rw [List.foldl_cons, show stepL ([], []) b = ([], [b]) from if_neg h, this]
        rfl
      rw [e, ih, e2]
      cases hw : linesL l with
      | nil => simp [glue]
      | cons x y => simp [glue]
theorem linesL_ne (l : List UInt8) : ∃ x y, linesL l = x :: y := by
  cases hw : linesL l with
  | nil => unfold linesL at hw; simp at hw
  | cons x y => exact ⟨x, y, rfl⟩
theorem linesL_newline (l : List UInt8) : linesL (10 :: l) = [] :: linesL l := by
  have := fold_lines l [[]] []
  unfold linesL stL
  rw [List.foldl_cons, show stepL ([], []) 10 = ([[]], []) from rfl, this]
  obtain ⟨x, y, h⟩ := linesL_ne l
  rw [h]
  simp [glue]
  exact h.symm
theorem linesL_char {b : UInt8} (hb : b ≠ 10) (l : List UInt8) : linesL (b :: l) = glue [b] (linesL l) := by
  have := fold_lines l [] [b]
  have e : linesL (b :: l) = (l.foldl stepL ([], [b])).1 ++ [(l.foldl stepL ([], [b])).2] := by
    unfold linesL stL
    rw [List.foldl_cons, show stepL ([], []) b = ([], [b]) from if_neg hb]
  rw [e, this]; simp
/-- the library's split at a newline gives the words -/
theorem split_lines : ∀ (l : List UInt8) (k : Nat), l.count 10 ≤ k → Lib.splitK [10] 0 k l = linesL l := by
  intro l
  induction l with
  | nil =>
    intro k _
    cases k with
    | zero => rfl
    | succ k => simp [Lib.splitK, Lib.index, linesL, stL]
  | cons b l ih =>
    intro k hk
    by_cases h : b = 10
    · subst h
      rw [linesL_newline]
      cases k with
      | zero => simp at hk
      | succ k =>
        have h1 : l.count 10 ≤ k := by simp at hk; omega
        rw [← ih k h1]
        simp [Lib.splitK, Lib.index_one, Lib.indexByte]
    · rw [linesL_char h]
      have h1 : l.count 10 ≤ k := by rw [List.count_cons_of_ne (by simpa using h)] at hk; exact hk
      have h2 := ih k h1
      rw [← h2]
      cases k with
      | zero => rfl
      | succ k =>
        unfold Lib.splitK
        rw [Lib.index_one, Lib.index_one]
        have hb : (b == 10) = false := by simpa using h
        have e : Lib.indexByte (b :: l) 10 = if Lib.indexByte l 10 == -1 then -1 else Lib.indexByte l 10 + 1 := by
          rw [Lib.indexByte, hb]; rfl
        rw [e]
        by_cases hm : Lib.indexByte l 10 = -1
        · rw [hm]; rfl
        · have hge := Lib.indexByte_ge l 10
          obtain ⟨i, hi⟩ := Int.eq_ofNat_of_zero_le (show 0 ≤ Lib.indexByte l 10 by omega)
          rw [hi]
          have n1 : ((i : Int) == -1) = false := by rw [beq_eq_false_iff_ne]; omega
          have n2 : ((i : Int) + 1 == -1) = false := by rw [beq_eq_false_iff_ne]; omega
          have t1 : ((i : Int) + 1).toNat = i + 1 := by omega
          simp [n1, n2, t1, glue]


theorem glue_len (c : List UInt8) (l : List UInt8) : (glue c (linesL l)).length = (linesL l).length := by
  obtain ⟨x, y, h⟩ := linesL_ne l
  rw [h]; rfl
theorem linesL_len (l : List UInt8) : (linesL l).length = l.count 10 + 1 := by
  induction l with
  | nil => rfl
  | cons b l ih =>
    by_cases h : b = 10
    · subst h; rw [linesL_newline]; simp [ih]
    · rw [linesL_char h, glue_len, ih, List.count_cons_of_ne (by simpa using h)]
theorem countB_nl (s : ByteArray) : Lib.countB s ⟨#[10]⟩ = s.data.toList.count 10 := Lib.count_one 10 s.data.toList
abbrev sW (l : List UInt8) : Value := .string ⟨l.toArray⟩
theorem split_cells (s : ByteArray) : (Lib.splitB ⟨#[10]⟩ 0 (Lib.countB s ⟨#[10]⟩) s).map Value.string = (linesL s.data.toList).map sW := by
  have h := Lib.splitB_data ⟨#[10]⟩ 0 (Lib.countB s ⟨#[10]⟩) s
  have h2 := split_lines s.data.toList (Lib.countB s ⟨#[10]⟩) (by rw [countB_nl]; exact Nat.le_refl _)
  rw [show ((⟨#[10]⟩ : ByteArray).data.toList) = [10] from rfl, h2] at h
  rw [← h, List.map_map]
  apply List.map_congr_left
  intro b _
  simp [Function.comp, sW, Lib.mk_data]

/-- a sign of a text -/
def sgn (b : UInt8) : Bool := decide (32 ≤ b.toNat) && decide (b.toNat ≠ 127)
/-- a line of a text: not empty, of signs -/
def lineOk (x : List UInt8) : Bool := !x.isEmpty && x.all sgn
/-- byte by byte: st tells whether a line begins here -/
def tx : Bool → List UInt8 → Bool
  | st, [] => !st
  | st, b :: l => if b = 10 then !st && tx true l else sgn b && tx false l
/-- a title's text -/
def txOk (l : List UInt8) : Bool := decide (l.length ≤ 200) && tx true l
theorem tx_lines (l : List UInt8) : ∀ x xs, linesL l = x :: xs → tx true l = (lineOk x && xs.all lineOk) ∧ tx false l = (x.all sgn && xs.all lineOk) := by
  induction l with
  | nil =>
    intro x xs h
    have : linesL [] = [[]] := rfl
    rw [this] at h
    injection h with h1 h2
    subst h1 h2
    exact ⟨rfl, rfl⟩
  | cons b l ih =>
    intro x xs h
    obtain ⟨y, ys, hy⟩ := linesL_ne l
    obtain ⟨i1, i2⟩ := ih y ys hy
    by_cases hb : b = 10
    · subst hb
      rw [linesL_newline, hy] at h
      injection h with h1 h2
      subst h1 h2
      simp [tx, i1, lineOk]
    · rw [linesL_char hb, hy] at h
      simp only [glue, List.singleton_append] at h
      injection h with h1 h2
      subst h1 h2
      simp [tx, hb, i2, lineOk, Bool.and_assoc]
theorem tx_all (l : List UInt8) : tx true l = (linesL l).all lineOk := by
  obtain ⟨x, xs, h⟩ := linesL_ne l
  rw [(tx_lines l x xs h).1, h]; rfl
/-- what the model holds against a byte, with the byte ahead of it -/
def bad (p : Option UInt8) (b : UInt8) : Prop := (b = 10 ∧ p = some 10) ∨ (b ≠ 10 ∧ b.toNat < 32) ∨ b.toNat = 127
def pre (l : List UInt8) (j : Nat) : Option UInt8 := if j = 0 then none else l[j - 1]?
theorem tx_bytes (l : List UInt8) : ∀ p : UInt8, (tx (decide (p = 10)) l = true ↔ (∀ j b, l[j]? = some b → ¬ bad (if j = 0 then some p else l[j - 1]?) b) ∧ ((p :: l).getLast? ≠ some 10)) := by
  induction l with
  | nil => intro p; simp [tx]
  | cons b l ih =>
    intro p
    have hlast : (p :: b :: l).getLast? = (b :: l).getLast? := by simp [List.getLast?_cons_cons]
    rw [hlast]
    have key := ih b
    have hall : (∀ j c, (b :: l)[j]? = some c → ¬ bad (if j = 0 then some p else (b :: l)[j - 1]?) c) ↔ (¬ bad (some p) b ∧ ∀ j c, l[j]? = some c → ¬ bad (if j = 0 then some b else l[j - 1]?) c) := by
      constructor
      · intro h
        refine ⟨by simpa using h 0 b rfl, fun j c hc => ?_⟩
        have := h (j + 1) c (by simpa using hc)
        cases j with
        | zero => simpa using this
        | succ j => simpa using this
      · rintro ⟨h0, h1⟩ j c hc
        cases j with
        | zero => simp at hc; subst hc; simpa using h0
        | succ j =>
          have := h1 j c (by simpa using hc)
          cases j with
          | zero => simpa using this
          | succ j => simpa using this
    rw [hall, and_assoc, ← key]
    by_cases hb : b = 10
    · subst hb
      by_cases hp : p = 10
      · subst hp; simp [tx, bad]
      · simp [tx, bad, hp]
    · have e : decide (b = 10) = false := by simpa using hb
      rw [e]
      have e2 : tx (decide (p = 10)) (b :: l) = (sgn b && tx false l) := by simp [tx, hb]
      rw [e2, Bool.and_eq_true]
      have e3 : sgn b = true ↔ ¬ bad (some p) b := by
        unfold sgn bad
        simp only [Bool.and_eq_true, decide_eq_true_eq, hb, false_and, false_or, ne_eq, not_false_eq_true, true_and]
        omega
      rw [e3]
/-- the model's words for a text -/
theorem tx_model (l : List UInt8) : tx true l = true ↔ (l ≠ [] ∧ l[0]? ≠ some 10 ∧ l[l.length - 1]? ≠ some 10 ∧ ∀ j b, l[j]? = some b → ¬ bad (pre l j) b) := by
  have h := tx_bytes l 10
  simp only [decide_true] at h
  rw [h]
  constructor
  · rintro ⟨h1, h2⟩
    cases l with
    | nil => simp at h2
    | cons b l =>
      have hb : b ≠ 10 := by
        intro e; subst e
        exact h1 0 10 rfl (Or.inl ⟨rfl, rfl⟩)
      refine ⟨by simp, by simpa using hb, ?_, ?_⟩
      · rw [List.getLast?_cons_cons, List.getLast?_eq_getElem?] at h2
        exact h2
      · intro j c hc hbad
        cases j with
        | zero =>
          simp at hc; subst hc
          rcases hbad with ⟨e, _⟩ | hb2 | hb2
          · exact hb e
          · exact h1 0 b rfl (Or.inr (Or.inl hb2))
          · exact h1 0 b rfl (Or.inr (Or.inr hb2))
        | succ j => exact h1 (j + 1) c hc (by simpa [pre] using hbad)
  · rintro ⟨h0, h1, h2, h3⟩
    cases l with
    | nil => exact absurd rfl h0
    | cons b l =>
      refine ⟨fun j c hc hbad => ?_, ?_⟩
      · cases j with
        | zero =>
          simp at hc; subst hc
          have hb : b ≠ 10 := by simpa using h1
          refine h3 0 b rfl ?_
          rcases hbad with ⟨e, _⟩ | hb2 | hb2
          · exact absurd e hb
          · exact Or.inr (Or.inl hb2)
          · exact Or.inr (Or.inr hb2)
        | succ j => exact h3 (j + 1) c hc (by simpa [pre] using hbad)
      · rw [List.getLast?_cons_cons, List.getLast?_eq_getElem?]
        exact h2
/-- a title: from when, to when, its text -/
abbrev Kl := Int × Int × ByteArray
theorem take_snocK {l : List Kl} {k : Nat} {c : Kl} (h : l[k]? = some c) : l.take (k + 1) = l.take k ++ [c] := by
  rw [List.take_add_one, h]; rfl
/-- a title behind one that ends at e -/
def ttOk (e : Int) (x : Kl) : Bool := decide (e ≤ x.1) && decide (x.1 < x.2.1) && decide (x.2.1 ≤ 359999999) && txOk x.2.2.data.toList
/-- titles behind one that ends at e -/
def tsOk : Int → List Kl → Bool
  | _, [] => true
  | e, x :: l => ttOk e x && tsOk x.2.1 l
def endOf (e : Int) (l : List Kl) : Int := (l.getLast?.map (fun x => x.2.1)).getD e
theorem endOf_snoc (e : Int) (l : List Kl) (x : Kl) : endOf e (l ++ [x]) = x.2.1 := by simp [endOf]
theorem tsOk_snoc (l : List Kl) : ∀ (e : Int) (x : Kl), tsOk e (l ++ [x]) = (tsOk e l && ttOk (endOf e l) x) := by
  induction l with
  | nil => intro e x; simp [tsOk, endOf]
  | cons y l ih =>
    intro e x
    have h : endOf y.2.1 l = endOf e (y :: l) := by
      cases l with
      | nil => simp [endOf]
      | cons z l =>
        unfold endOf
        rw [List.getLast?_cons_cons]
        cases hg : (z :: l).getLast? with
        | none => simp at hg
        | some q => rfl
    simp only [List.cons_append, tsOk, ih, h, Bool.and_assoc]
theorem tsOk_take {l : List Kl} {e : Int} {k : Nat} (h : tsOk e l = true) : tsOk e (l.take k) = true := by
  induction l generalizing e k with
  | nil => simp [tsOk]
  | cons y l ih =>
    cases k with
    | zero => rfl
    | succ k =>
      simp only [tsOk, Bool.and_eq_true, List.take_succ_cons] at h ⊢
      exact ⟨h.1, ih h.2⟩
/-- titles -/
def tOk (l : List Kl) : Bool := decide (l.length ≤ 200) && tsOk 0 l
theorem tsOk_stop {l : List Kl} {k : Nat} {x : Kl} {e : Int} (hx : l[k]? = some x) (h : ttOk (endOf e (l.take k)) x = false) : tsOk e l = false := by
  cases hh : tsOk e l with
  | false => rfl
  | true =>
    have := tsOk_take (k := k + 1) hh
    rw [take_snocK hx, tsOk_snoc, h] at this
    simp at this

end Go.Proofs.YtcpllfjhhlbmiaaDoor
