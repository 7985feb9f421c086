/-
  Plain facts on finding a box by a path: one function as the program goes, one as its model goes, and that they answer the same. No program is named here; no conditions.
-/
import Derived.Test.YtfdbnlmfnhhcbaaOkP
namespace Go.Proofs.Ytfdbnlmfnhhcbaa
open Go.RowKit
set_option linter.unusedVariables false
set_option linter.unusedSimpArgs false

def hit (l : List Bx) (d : Int) (k : List UInt8) (j : Nat) : Bool := match l[j]? with | some x => decide (x.d = d) && decide (x.k.data.toList = k) | none => false
/-- the first of n places from j on that has it, or -1 -/
def pkN (l : List Bx) (d : Int) (k : List UInt8) : Nat → Nat → Int | 0, _ => -1 | n + 1, j => if hit l d k j = true then (j : Int) else pkN l d k n (j + 1)
def deeper (l : List Bx) (d : Int) (j : Nat) : Bool := match l[j]? with | some x => decide (d < x.d) | none => false
/-- from j on, n places at most, the first that is not deeper -/
def eoN (l : List Bx) (d : Int) : Nat → Nat → Nat | 0, j => j | n + 1, j => if deeper l d j = true then eoN l d n (j + 1) else j
def depAt (l : List Bx) (j : Nat) : Int := match l[j]? with | some x => x.d | none => 0
def eo (l : List Bx) (p : Nat) : Nat := eoN l (depAt l p) (l.length - (p + 1)) (p + 1)

theorem pkN_cases (l : List Bx) (d : Int) (k : List UInt8) (n j : Nat) : pkN l d k n j = -1 ∨ ∃ p : Nat, pkN l d k n j = p ∧ j ≤ p ∧ p < j + n ∧ hit l d k p = true := by
  induction n generalizing j with
  | zero => left; rfl
  | succ n ih =>
    unfold pkN
    by_cases h : hit l d k j = true
    · rw [if_pos h]; right; exact ⟨j, rfl, by omega, by omega, h⟩
    · rw [if_neg h]
      rcases ih (j + 1) with h1 | ⟨p, h1, h2, h3, h4⟩
      · left; exact h1
      · right; exact ⟨p, h1, by omega, by omega, h4⟩
theorem eoN_le (l : List Bx) (d : Int) (n j : Nat) : j ≤ eoN l d n j ∧ eoN l d n j ≤ j + n := by
  induction n generalizing j with
  | zero => exact ⟨Nat.le_refl _, Nat.le_refl _⟩
  | succ n ih =>
    unfold eoN
    split
    · have := ih (j + 1); omega
    · omega
theorem eoN_stop (l : List Bx) (d : Int) (n j : Nat) (h : eoN l d n j < j + n) : deeper l d (eoN l d n j) = false := by
  induction n generalizing j with
  | zero => simp [eoN] at h
  | succ n ih =>
    unfold eoN at h ⊢
    split at h
    · rename_i hd
      rw [if_pos hd]
      exact ih (j + 1) (by omega)
    · rename_i hd
      rw [if_neg hd]
      simpa using hd
theorem eoN_inside (l : List Bx) (d : Int) (n j i : Nat) (h1 : j ≤ i) (h2 : i < eoN l d n j) : deeper l d i = true := by
  induction n generalizing j with
  | zero => simp [eoN] at h2; omega
  | succ n ih =>
    unfold eoN at h2
    split at h2
    · rename_i hd
      by_cases e : i = j
      · rw [e]; exact hd
      · exact ih (j + 1) (by omega) h2
    · omega
theorem eoN_short (l : List Bx) (d : Int) (m n j : Nat) (hmn : m ≤ n) (h : m = n ∨ deeper l d (j + m) = false) : eoN l d m j = eoN l d n j := by
  induction m generalizing j n with
  | zero =>
    rcases h with h | h
    · rw [← h]
    · cases n with
      | zero => rfl
      | succ n => unfold eoN; rw [if_neg (by simpa using h)]
  | succ m ih =>
    cases n with
    | zero => omega
    | succ n =>
      unfold eoN
      by_cases hd : deeper l d j = true
      · rw [if_pos hd, if_pos hd]
        refine ih n (j + 1) (by omega) ?_
        rcases h with h | h
        · left; omega
        · right; rw [show j + 1 + m = j + (m + 1) by omega]; exact h
      · rw [if_neg hd, if_neg hd]

/-- a text parted at its first slash -/
def cutL : List UInt8 → List UInt8 × Option (List UInt8)
  | [] => ([], none)
  | c :: t => if c = 47 then ([], some t) else (c :: (cutL t).1, (cutL t).2)
theorem cutL_none (p : List UInt8) (h : (cutL p).2 = none) : (cutL p).1 = p := by
  induction p with
  | nil => rfl
  | cons c t ih =>
    unfold cutL at h ⊢
    split at h
    · simp at h
    · rename_i hc; rw [if_neg hc]; simp at h ⊢; exact ih h
theorem cutL_some (p r : List UInt8) (h : (cutL p).2 = some r) : p = (cutL p).1 ++ 47 :: r := by
  induction p with
  | nil => simp [cutL] at h
  | cons c t ih =>
    unfold cutL at h ⊢
    split at h
    · rename_i hc; rw [if_pos hc]; simp at h ⊢; exact ⟨hc, h⟩
    · rename_i hc; rw [if_neg hc]; simp at h ⊢; exact ih h
theorem cutL_plain (s t : List UInt8) (h : ∀ c ∈ s, c ≠ 47) : cutL (s ++ t) = (s ++ (cutL t).1, (cutL t).2) := by
  induction s with
  | nil => simp
  | cons c s ih =>
    have h1 := h c (by simp)
    have h2 := ih (fun x hx => h x (by simp [hx]))
    simp only [List.cons_append, cutL, if_neg h1, h2]
theorem cutL_short (p r : List UInt8) (h : (cutL p).2 = some r) : r.length < p.length := by
  have := cutL_some p r h
  rw [this]; simp; omega

/-- as the program goes -/
def ifind (l : List Bx) : Nat → Nat → Nat → Nat → List UInt8 → Int
  | 0, _, _, _, _ => -1
  | n + 1, dep, a, b, p =>
    match pkN l dep (cutL p).1 (b - a) a, (cutL p).2 with
    | .ofNat q, none => q
    | .ofNat q, some r => ifind l n (dep + 1) (q + 1) (eo l q) r
    | .negSucc _, _ => -1
/-- as its model goes -/
def sfind (l : List Bx) : Nat → Nat → Nat → Nat → List UInt8 → Int
  | 0, _, _, _, _ => -1
  | n + 1, dep, a, b, p =>
    match pkN l dep (p.take 4) (b - a) a with
    | .ofNat q => if p.length = 4 then (q : Int) else if p[4]? = some 47 then sfind l n (dep + 1) (q + 1) (eoN l dep (b - (q + 1)) (q + 1)) (p.drop 5) else -1
    | .negSucc _ => -1

theorem ld_ne {c : UInt8} (h : ld c = true) : c ≠ 47 := by
  intro e; subst e; exact absurd h (by decide)
theorem hit_kind {l : List Bx} {d : Int} {k : List UInt8} {j : Nat} (hk : ∀ x ∈ l, kindOk x.k = true) (h : hit l d k j = true) : k.length = 4 ∧ (∀ c ∈ k, c ≠ 47) ∧ ∃ x, l[j]? = some x ∧ x.d = d := by
  unfold hit at h
  split at h
  · rename_i x hx
    simp at h
    have h1 := hk x (List.mem_of_getElem? hx)
    unfold kindOk at h1
    rw [Bool.and_eq_true, List.all_eq_true] at h1
    refine ⟨?_, ?_, x, hx, h.1⟩
    · rw [← h.2]; simpa using h1.1
    · intro c hc
      exact ld_ne (h1.2 c (by rw [← h.2] at hc; exact hc))
  · simp at h
theorem deeper_lt {l : List Bx} {d : Int} {j : Nat} (hd : j < l.length) (h : deeper l d j = false) : depAt l j ≤ d := by
  unfold deeper depAt at *
  rw [List.getElem?_eq_getElem hd] at *
  simpa using h
theorem deeper_no {l : List Bx} {d : Int} {j : Nat} (h : j < l.length → depAt l j ≤ d) : deeper l d j = false := by
  unfold deeper depAt at *
  by_cases hj : j < l.length
  · have := h hj
    rw [List.getElem?_eq_getElem hj] at *
    simpa using this
  · rw [List.getElem?_eq_none (by omega)]

theorem find_eq (l : List Bx) (hk : ∀ x ∈ l, kindOk x.k = true) : ∀ (n m dep a b : Nat) (p : List UInt8), p.length < n → p.length < m → b ≤ l.length → (b < l.length → depAt l b < dep) →
    ifind l n dep a b p = if p.length % 5 = 4 then sfind l m dep a b p else -1 := by
  intro n
  induction n with
  | zero => intro m dep a b p h; omega
  | succ n ih =>
    intro m dep a b p hn hm hb hbd
    cases m with
    | zero => omega
    | succ m =>
    unfold ifind
    rcases pkN_cases l dep (cutL p).1 (b - a) a with h1 | ⟨q, h1, hq1, hq2, hq3⟩
    · rw [h1]
      have h1e : (-1 : Int) = Int.negSucc 0 := rfl
      simp only [h1e]
      by_cases h5 : p.length % 5 = 4
      · rw [if_pos h5]
        unfold sfind
        rcases pkN_cases l dep (p.take 4) (b - a) a with h2 | ⟨q, h2, hq1, hq2, hq3⟩
        · rw [h2]; rfl
        · rw [h2]
          show _ = if p.length = 4 then (q : Int) else _
          obtain ⟨k1, k2, _⟩ := hit_kind hk hq3
          have hp : p = p.take 4 ++ p.drop 4 := (List.take_append_drop 4 p).symm
          by_cases h4 : p.length = 4
          · have e1 : p.take 4 = p := List.take_of_length_le (by omega)
            have e2 : cutL p = (p, none) := by
              have := cutL_plain (p.take 4) [] k2
              rw [e1] at this; simpa [cutL] using this
            rw [e2] at h1; rw [e1] at h2; simp at h1
            rw [h1] at h2; omega
          · rw [if_neg h4]
            by_cases h47 : p[4]? = some 47
            · have e3 : p.drop 4 = 47 :: p.drop 5 := by
                obtain ⟨hlt, hv⟩ := List.getElem?_eq_some_iff.1 h47
                rw [List.drop_eq_getElem_cons hlt, hv]
              have e2 : cutL p = (p.take 4, some (p.drop 5)) := by
                have := cutL_plain (p.take 4) (p.drop 4) k2
                rw [← hp, e3] at this; simpa [cutL] using this
              rw [e2] at h1; simp at h1
              rw [h1] at h2; omega
            · rw [if_neg h47]; rfl
      · rw [if_neg h5]
    · rw [h1]
      obtain ⟨k1, k2, x, hx, hxd⟩ := hit_kind hk hq3
      have hql : q < l.length := (List.getElem?_eq_some_iff.1 hx).1
      cases hr : (cutL p).2 with
      | none =>
        have e1 := cutL_none p hr
        show (q : Int) = _
        rw [e1] at h1 k1
        rw [if_pos (by omega)]
        unfold sfind
        rw [List.take_of_length_le (by omega), h1]
        show _ = if p.length = 4 then (q : Int) else _
        rw [if_pos k1]
      | some r =>
        have e1 := cutL_some p r hr
        have e2 : p.length = 5 + r.length := by rw [e1]; simp; omega
        have e3 : p.take 4 = (cutL p).1 := by
          conv => lhs; rw [e1]
          rw [List.take_append_of_le_length (by omega), List.take_of_length_le (by omega)]
        have e4 : p[4]? = some 47 := by
          conv => lhs; rw [e1]
          rw [List.getElem?_append_right (by omega), k1]; rfl
        have e5 : p.drop 5 = r := by
          conv => lhs; rw [e1]
          rw [List.drop_append, k1, List.drop_of_length_le (by omega)]; rfl
        show ifind l n (dep + 1) (q + 1) (eo l q) r = _
        have hdq : depAt l q = dep := by unfold depAt; rw [hx]; exact hxd
        have hqb : q + 1 ≤ b := by omega
        have heo : eoN l dep (b - (q + 1)) (q + 1) = eo l q := by
          unfold eo
          rw [hdq]
          refine eoN_short l dep _ _ _ (by omega) ?_
          by_cases e : b = l.length
          · left; omega
          · right
            rw [show q + 1 + (b - (q + 1)) = b by omega]
            exact deeper_no (fun h => by have := hbd h; omega)
        have hle := eoN_le l dep (l.length - (q + 1)) (q + 1)
        have hih := ih m (dep + 1) (q + 1) (eo l q) r (by omega) (by omega) (by unfold eo; rw [hdq]; omega) (fun h => by
          have := eoN_stop l dep (l.length - (q + 1)) (q + 1) (by unfold eo at h; rw [hdq] at h; omega)
          unfold eo at h ⊢
          rw [hdq] at h ⊢
          have := deeper_lt h this
          omega)
        rw [hih]
        by_cases h5 : p.length % 5 = 4
        · rw [if_pos h5, if_pos (by omega)]
          conv => rhs; unfold sfind
          rw [e3, h1]
          show _ = if p.length = 4 then (q : Int) else if p[4]? = some 47 then _ else _
          rw [if_neg (by omega), if_pos e4, heo, e5]
        · rw [if_neg h5, if_neg (by omega)]

def find (l : List Bx) (p : List UInt8) : Int := if ok l = true then ifind l (p.length + 1) 0 0 l.length p else -1
theorem strOk_kinds (p : Option Bx) (l : List Bx) (h : strOk p l = true) : ∀ x ∈ l, kindOk x.k = true := by
  induction l generalizing p with
  | nil => intro x hx; simp at hx
  | cons y t ih =>
    simp [strOk] at h
    intro x hx
    rcases List.mem_cons.1 hx with rfl | hx
    · have := h.1; unfold stepOk at this; simp at this; exact this.1.1.1.1
    · exact ih _ h.2 x hx
theorem ok_kinds {l : List Bx} (h : ok l = true) : ∀ x ∈ l, kindOk x.k = true := by
  unfold ok at h; simp at h
  exact strOk_kinds none l h.1.2
theorem find_s {l : List Bx} {p : List UInt8} (h : ok l = true) : find l p = if p.length % 5 = 4 then sfind l (p.length + 1) 0 0 l.length p else -1 := by
  unfold find; rw [if_pos h]
  exact find_eq l (ok_kinds h) _ _ _ _ _ _ (by omega) (by omega) (Nat.le_refl _) (fun h => by omega)
end Go.Proofs.Ytfdbnlmfnhhcbaa
