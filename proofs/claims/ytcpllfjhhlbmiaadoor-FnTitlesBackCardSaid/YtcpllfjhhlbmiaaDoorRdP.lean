/-
  Plain facts on titles that are read: a line up to a newline, a time's text read back, lines up to an empty one, a title, all of them. No program is named here; there are no conditions.
-/
import Derived.Test.YtcpllfjhhlbmiaaDoorSwP
import Derived.Lib.IndexMore
import Derived.Lib.Strings
namespace Go.Proofs.YtcpllfjhhlbmiaaDoor
open Go.RowKit
set_option linter.unusedVariables false
set_option linter.unusedSimpArgs false

/-- the bytes ahead of the first newline, and those behind it -/
def cutN : List UInt8 → Option (List UInt8 × List UInt8)
  | [] => none
  | b :: r => if b = 10 then some ([], r) else match cutN r with
    | some (x, r') => some (b :: x, r')
    | none => none
theorem cutN_parts : ∀ {r x r' : List UInt8}, cutN r = some (x, r') → r = x ++ 10 :: r' := by
  intro r
  induction r with
  | nil => intro x r' h; simp [cutN] at h
  | cons b r ih =>
    intro x r' h
    unfold cutN at h
    by_cases hb : b = 10
    · rw [if_pos hb] at h
      injection h with h
      injection h with h1 h2
      subst h1 h2 hb; rfl
    · rw [if_neg hb] at h
      cases hc : cutN r with
      | none => rw [hc] at h; simp at h
      | some p =>
        obtain ⟨y, s⟩ := p
        rw [hc] at h
        simp only [Option.some.injEq, Prod.mk.injEq] at h
        obtain ⟨rfl, rfl⟩ := h
        rw [ih hc]; rfl
theorem cutN_len {r x r' : List UInt8} (h : cutN r = some (x, r')) : r.length = x.length + 1 + r'.length := by
  have := congrArg List.length (cutN_parts h)
  simp at this
  omega
theorem index_cutN : ∀ (r : List UInt8), Lib.indexByte r 10 = match cutN r with | some (x, _) => (x.length : Int) | none => -1 := by
  intro r
  induction r with
  | nil => rfl
  | cons b r ih =>
    unfold cutN
    by_cases hb : b = 10
    · subst hb; rfl
    · rw [if_neg hb]
      have hb2 : (b == 10) = false := by simpa using hb
      have e : Lib.indexByte (b :: r) 10 = if Lib.indexByte r 10 == -1 then -1 else Lib.indexByte r 10 + 1 := by
        rw [Lib.indexByte, hb2]; rfl
      rw [e, ih]
      cases hc : cutN r with
      | none => rfl
      | some p =>
        obtain ⟨y, s⟩ := p
        simp only [List.length_cons]
        rw [if_neg (by simp <;> omega)]
        omega
/-- the library's Cut at a newline -/
theorem cut_nl (r : List UInt8) : Lib.cut r [10] = match cutN r with | some (x, r') => (x, r', true) | none => (r, [], false) := by
  unfold Lib.cut
  rw [Lib.index_one, index_cutN]
  cases hc : cutN r with
  | none => rfl
  | some p =>
    obtain ⟨x, r'⟩ := p
    simp only
    rw [if_pos (by omega)]
    have h := cutN_parts hc
    simp only [Int.toNat_natCast, List.length_cons, List.length_nil]
    rw [h]
    simp

/-- a byte taken for a digit -/
def dgv (b : UInt8) : Nat := (b.toNat + 208) % 256
theorem dgv_dg (k : Nat) : dgv (Pl.dg k) = k % 10 := by unfold dgv; rw [Pl.dg_toNat]; omega
theorem dgv_lt (b : UInt8) : dgv b < 256 := Nat.mod_lt _ (by decide)
/-- the number that twelve bytes stand for, taken for digits -/
def vl (x : List UInt8) : Nat := 3600000 * (10 * dgv (x.getD 0 0) + dgv (x.getD 1 0)) + 60000 * (10 * dgv (x.getD 3 0) + dgv (x.getD 4 0)) + 1000 * (10 * dgv (x.getD 6 0) + dgv (x.getD 7 0)) + (10 * (10 * dgv (x.getD 9 0) + dgv (x.getD 10 0)) + dgv (x.getD 11 0))
theorem vl_le (x : List UInt8) : vl x ≤ 1000000000000 := by
  unfold vl
  have h := fun i => dgv_lt (x.getD i 0)
  have h0 := h 0; have h1 := h 1; have h3 := h 3; have h4 := h 4; have h6 := h 6; have h7 := h 7; have h9 := h 9; have h10 := h 10; have h11 := h 11
  omega
theorem vl_of_mt (m : Nat) : vl (mt m) = 3600000 * (10 * (m / 3600000 / 10 % 10) + m / 3600000 % 10) + 60000 * (m / 60000 % 60) + 1000 * (m / 1000 % 60) + m % 1000 := by
  have e : vl (mt m) = 3600000 * (10 * dgv (Pl.dg (m / 3600000 / 10)) + dgv (Pl.dg (m / 3600000))) + 60000 * (10 * dgv (Pl.dg (m / 60000 % 60 / 10)) + dgv (Pl.dg (m / 60000 % 60))) + 1000 * (10 * dgv (Pl.dg (m / 1000 % 60 / 10)) + dgv (Pl.dg (m / 1000 % 60))) + (10 * (10 * dgv (Pl.dg (m % 1000 / 100)) + dgv (Pl.dg (m % 1000 / 10))) + dgv (Pl.dg (m % 1000))) := rfl
  rw [e]
  simp only [dgv_dg]
  omega
theorem vl_mt {m : Nat} (h : m ≤ 359999999) : vl (mt m) = m := by rw [vl_of_mt]; omega
/-- a time that is read -/
def tm (x : List UInt8) : Option Nat := if x = mt (vl x) then some (vl x) else none
theorem tm_some {x : List UInt8} {m : Nat} (h : tm x = some m) : x = mt m ∧ m ≤ 359999999 ∧ vl x = m := by
  unfold tm at h
  by_cases hx : x = mt (vl x)
  · rw [if_pos hx] at h
    injection h with h
    have hv := vl_of_mt (vl x)
    rw [← hx] at hv
    rw [← h]
    exact ⟨hx, by omega, rfl⟩
  · rw [if_neg hx] at h; cases h
theorem tm_mt {m : Nat} (h : m ≤ 359999999) : tm (mt m) = some m := by
  unfold tm; rw [vl_mt h, if_pos rfl]
theorem tm_len {x : List UInt8} (h : x.length ≠ 12) : tm x = none := by
  unfold tm; rw [if_neg]
  intro e; rw [e, mt_len] at h; exact h rfl
abbrev arw : List UInt8 := [32, 45, 45, 62, 32]
theorem index_occ : ∀ {s sub : List UInt8} {i : Nat}, Lib.index s sub = i → Lib.occAt s sub i = true := by
  intro s
  induction s with
  | nil =>
    intro sub i h
    unfold Lib.index at h
    split at h
    · have : i = 0 := by omega
      subst this
      cases sub with
      | nil => rfl
      | cons a t => simp at *
    · omega
  | cons b l ih =>
    intro sub i h
    unfold Lib.index at h
    split at h
    · rename_i hp
      have : i = 0 := by omega
      subst this
      unfold Lib.occAt; simpa using hp
    · split at h
      · omega
      · rename_i h1
        have hge := Lib.index_ge l sub
        have hne : Lib.index l sub ≠ -1 := by simpa using h1
        obtain ⟨j, hj⟩ := Int.eq_ofNat_of_zero_le (show 0 ≤ Lib.index l sub by omega)
        have : i = j + 1 := by omega
        subst this
        have := ih hj
        unfold Lib.occAt at this ⊢
        simpa using this
/-- two times, an arrow between -/
def tms (y : List UInt8) : Option (Nat × Nat) :=
  if y.length = 29 ∧ (y.drop 12).take 5 = arw then match tm (y.take 12), tm (y.drop 17) with
    | some a, some b => some (a, b)
    | _, _ => none
  else none
theorem tms_some {y : List UInt8} {a b : Nat} (h : tms y = some (a, b)) : y = mt a ++ arw ++ mt b ∧ a ≤ 359999999 ∧ b ≤ 359999999 := by
  unfold tms at h
  by_cases hc : y.length = 29 ∧ (y.drop 12).take 5 = arw
  · rw [if_pos hc] at h
    cases h1 : tm (y.take 12) with
    | none => rw [h1] at h; simp at h
    | some a' =>
      cases h2 : tm (y.drop 17) with
      | none => rw [h1, h2] at h; simp at h
      | some b' =>
        rw [h1, h2] at h
        simp only [Option.some.injEq, Prod.mk.injEq] at h
        obtain ⟨rfl, rfl⟩ := h
        obtain ⟨e1, l1, _⟩ := tm_some h1
        obtain ⟨e2, l2, _⟩ := tm_some h2
        refine ⟨?_, l1, l2⟩
        rw [← e1, ← e2, ← hc.2]
        have : y.drop 17 = (y.drop 12).drop 5 := by rw [List.drop_drop]
        rw [this, List.append_assoc, List.take_append_drop, List.take_append_drop]
  · rw [if_neg hc] at h; cases h
theorem tms_of (a b : Nat) (ha : a ≤ 359999999) (hb : b ≤ 359999999) : tms (mt a ++ arw ++ mt b) = some (a, b) := by
  have h1 : (mt a ++ arw ++ mt b).take 12 = mt a := by rw [List.append_assoc, List.take_append_of_le_length (by rw [mt_len]; omega), List.take_of_length_le (by rw [mt_len]; omega)]
  have h2 : (mt a ++ arw ++ mt b).drop 12 = arw ++ mt b := by rw [List.append_assoc, List.drop_append, List.drop_of_length_le (by rw [mt_len]; omega), mt_len]; rfl
  have h3 : (mt a ++ arw ++ mt b).drop 17 = mt b := by
    have : (mt a ++ arw ++ mt b).drop 17 = ((mt a ++ arw ++ mt b).drop 12).drop 5 := by rw [List.drop_drop]
    rw [this, h2]; rfl
  unfold tms
  rw [if_pos ⟨by simp [mt_len], by rw [h2]; rfl⟩, h1, h3, tm_mt ha, tm_mt hb]
theorem mt_no32 (a : Nat) : ∀ x ∈ mt a, x ≠ 32 := by
  have hd : ∀ k, Pl.dg k ≠ 32 := by
    intro k e
    have := congrArg UInt8.toNat e
    rw [Pl.dg_toNat] at this
    have h32 : (32 : UInt8).toNat = 32 := rfl
    omega
  intro x hx
  simp only [mt, Pl.two, Pl.three, List.mem_append, List.mem_cons, List.mem_nil_iff, or_false] at hx
  rcases hx with (((((((h | h) | h) | (h | h)) | h) | (h | h)) | h) | (h | h | h)) <;> subst h <;> first | exact hd _ | decide
/-- the library's Cut at the arrow, both times read, is the same -/
theorem cut_arw (y : List UInt8) : (match tm (Lib.cut y arw).1, tm (Lib.cut y arw).2.1 with | some a, some b => some (a, b) | _, _ => none) = tms y := by
  cases ht : tms y with
  | some p =>
    obtain ⟨a, b⟩ := p
    obtain ⟨e, ha, hb⟩ := tms_some ht
    have hi : Lib.index y arw = (12 : Nat) := by
      refine Lib.index_first (by rw [e]; simp [mt_len]) ?_ ?_
      · unfold Lib.occAt
        rw [e, List.append_assoc, List.drop_append, List.drop_of_length_le (by rw [mt_len]; omega), mt_len]
        simp [arw]
      · intro j hj
        unfold Lib.occAt
        cases hp : arw.isPrefixOf (y.drop j) with
        | false => rfl
        | true =>
          exfalso
          have hh : y[j]? = some 32 := by
            cases hd : y.drop j with
            | nil => rw [hd] at hp; simp [arw] at hp
            | cons c r =>
              rw [hd] at hp
              simp only [arw, List.isPrefixOf_cons_cons, Bool.and_eq_true, beq_iff_eq] at hp
              have : (y.drop j)[0]? = some c := by rw [hd]; rfl
              rw [List.getElem?_drop] at this
              rw [hp.1]; simpa using this
          have hm : (mt a)[j]? = some 32 := by
            rw [e, List.append_assoc, List.getElem?_append_left (by rw [mt_len]; omega)] at hh
            exact hh
          exact mt_no32 a 32 (List.mem_of_getElem? hm) rfl
    have hc : Lib.cut y arw = (mt a, mt b, true) := by
      unfold Lib.cut
      rw [hi, if_pos (by omega)]
      simp only [Int.toNat_natCast]
      rw [e]
      refine Prod.ext ?_ (Prod.ext ?_ rfl)
      · simp only
        rw [List.append_assoc, List.take_append_of_le_length (by rw [mt_len]; omega), List.take_of_length_le (by rw [mt_len]; omega)]
      · simp only
        rw [List.drop_append, List.drop_of_length_le (by simp [mt_len])]
        simp [mt_len]
    rw [hc, tm_mt ha, tm_mt hb]
  | none =>
    cases h1 : tm (Lib.cut y arw).1 with
    | none => rfl
    | some a =>
      cases h2 : tm (Lib.cut y arw).2.1 with
      | none => rfl
      | some b =>
        exfalso
        obtain ⟨e1, l1, _⟩ := tm_some h1
        obtain ⟨e2, l2, _⟩ := tm_some h2
        have hy : y = mt a ++ arw ++ mt b := by
          unfold Lib.cut at e1 e2
          by_cases h0 : 0 ≤ Lib.index y arw
          · rw [if_pos h0] at e1 e2
            simp only at e1 e2
            obtain ⟨i, hi⟩ := Int.eq_ofNat_of_zero_le h0
            rw [hi] at e1 e2
            simp only [Int.toNat_natCast] at e1 e2
            have ho : Lib.occAt y arw i = true := index_occ hi
            unfold Lib.occAt at ho
            rw [List.isPrefixOf_iff_prefix] at ho
            obtain ⟨z, hz⟩ := ho
            have hz2 : z = y.drop (i + arw.length) := by
              have := congrArg (List.drop arw.length) hz
              rw [List.drop_left, List.drop_drop] at this
              rw [this]
            rw [← e1, ← e2, ← hz2, List.append_assoc, hz, List.take_append_drop]
          · rw [if_neg h0] at e2
            simp only at e2
            have := congrArg List.length e2
            rw [mt_len] at this; simp at this
        rw [hy, tms_of a b l1 l2] at ht
        cases ht

/-- the lines up to an empty one, their newlines with them, and what is behind it -/
def blkF : Nat → List UInt8 → List UInt8 → Option (List UInt8 × List UInt8)
  | 0, _, _ => none
  | f + 1, ws, r => match cutN r with
    | none => none
    | some (x, r') => if x = [] then some (ws, r') else blkF f (ws ++ x ++ [10]) r'
/-- without the last newline -/
def trm (ws : List UInt8) : List UInt8 := Lib.trimSuffix ws [10]
/-- a title: the code of a fault, the title, what is behind it -/
def tstep (n : Nat) (e : Int) (r : List UInt8) : Int × Kl × List UInt8 :=
  match cutN r with
  | none => (2, (0, 0, ⟨#[]⟩), [])
  | some (x, r1) => if x = Pl.dec (n + 1) then match cutN r1 with
      | none => (3, (0, 0, ⟨#[]⟩), [])
      | some (y, r2) => match tms y with
        | none => (3, (0, 0, ⟨#[]⟩), [])
        | some (a, b) => if e ≤ (a : Int) ∧ (a : Int) < b then match blkF (r2.length + 1) [] r2 with
            | none => (5, (0, 0, ⟨#[]⟩), [])
            | some (ws, r3) => if txOk (trm ws) = true then if n = 200 then (6, (0, 0, ⟨#[]⟩), []) else (0, ((a : Int), (b : Int), ⟨(trm ws).toArray⟩), r3) else (5, (0, 0, ⟨#[]⟩), [])
          else (4, (0, 0, ⟨#[]⟩), [])
    else (2, (0, 0, ⟨#[]⟩), [])
/-- titles that are read: those ahead of a fault, and its code -/
def rdF : Nat → List Kl → Int → List UInt8 → List Kl × Int
  | 0, acc, _, _ => (acc, 0)
  | f + 1, acc, e, r => if r = [] then (acc, 0) else if (tstep acc.length e r).1 = 0 then rdF f (acc ++ [(tstep acc.length e r).2.1]) (tstep acc.length e r).2.1.2.1 (tstep acc.length e r).2.2 else (acc, (tstep acc.length e r).1)

end Go.Proofs.YtcpllfjhhlbmiaaDoor
