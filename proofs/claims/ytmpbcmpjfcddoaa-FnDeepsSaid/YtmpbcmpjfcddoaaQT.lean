/-
  A region that draws its order, whose operations only read but for the last ones, each of which waits for all ahead of it: one walk of the lexical order serves every order; no program is named.
-/
import Derived.WalkKit
import Derived.Deep.QuietTactic
import Derived.BigQuiet
namespace Go.Proofs.Ytmpbcmpjfcddoaa
open Go
set_option linter.unusedVariables false
set_option linter.unusedSimpArgs false

section
variable {P : Program} {ops : Array Oper} {md : Region.Mode} {C : World → Prop}

/-- whatever order is picked, what begins at n comes behind all else -/
def wpAnyM (P : Program) (md : Region.Mode) (ops : Array Oper) (C : World → Prop) (n : Nat) (L : Array Bool → Act → Prop) : Nat → Array Bool → Act → Prop
  | 0, listed, a => (∀ j ∈ Region.ready md ops listed, j = n) ∧ L listed a
  | fuel + 1, listed, a => Region.ready md ops listed ≠ [] ∧ ∀ i ∈ Region.ready md ops listed, qOp P ops C i (wpAnyM P md ops C n L fuel (listed.setIfInBounds i true)) a

theorem wpAny_of_M {n m : Nat} {L : Array Bool → Act → Prop} {Q : Exit → Act → World → Prop} (hL : ∀ listed a w, C w → L listed a → wpAny P md ops Q m listed a w) :
    ∀ (fuel : Nat) (listed : Array Bool) (a : Act) (w : World), C w → wpAnyM P md ops C n L fuel listed a → wpAny P md ops Q (fuel + m) listed a w
  | 0, listed, a, w, hw, h => by rw [Nat.zero_add]; exact hL listed a w hw h.2
  | fuel + 1, listed, a, w, hw, h => by
    rw [show fuel + 1 + m = (fuel + m) + 1 by omega]
    exact ⟨fun h0 => absurd h0 h.1, fun i hi => wpOp_of_qOp hw (fun a' w' hw' => wpAny_of_M hL fuel _ a' w' hw') (h.2 i hi)⟩

theorem wait_no {i j : Nat} {oj : Oper} {listed : Array Bool} (hr : i ∈ Region.ready md ops listed) (hj : j ∈ Region.ready md ops listed) (hoj : ops[j]? = some oj) : ∀ e ∈ oj.after, Region.binds md e = true → e.on ≠ i := by
  intro e he hb heq
  obtain ⟨_, oj', hoj', hall⟩ := mem_ready.1 hj
  rw [hoj] at hoj'
  cases hoj'
  have h1 := hall e he hb
  have h0 := (mem_ready.1 hr).1
  rw [heq] at h1
  rcases Nat.lt_or_ge i listed.size with h' | h'
  · simp [h'] at h0 h1; rw [h0] at h1; cases h1
  · simp [Array.getElem?_eq_none h'] at h1

theorem wpAnyM_first {n : Nat} {L : Array Bool → Act → Prop} {i : Nat} {oi on : Oper} {v : Value} (hi : ops[i]? = some oi) (hn : ops[n]? = some on) (hin : i ≠ n) (hwait : ∃ e ∈ on.after, Region.binds md e = true ∧ e.on = i) (hsel : ∀ (j : Nat) (o : Oper) cs b, ops[j]? = some o → o.op ≠ .select cs b) :
    ∀ (fuel : Nat) (listed : Array Bool) (a : Act),
      (∀ j oj, ops[j]? = some oj → j ≠ i → listed.getD j true = false → (∀ e ∈ oj.after, Region.binds md e = true → e.on ≠ i) → oi.apart ops oj = true) →
      i ∈ Region.ready md ops listed → YieldsIn P ops C oi v a →
      wpAnyM P md ops C n L fuel (listed.setIfInBounds i true) (a.put oi.dst v) → wpAnyM P md ops C n L (fuel + 1) listed a := by
  have hnn : ∀ listed : Array Bool, i ∈ Region.ready md ops listed → n ∉ Region.ready md ops listed := by
    intro listed hr hm
    obtain ⟨e, he, hb, ho⟩ := hwait
    exact wait_no hr hm hn e he hb ho
  intro fuel
  induction fuel with
  | zero =>
    intro listed a _ hr hy H
    refine ⟨fun h => (by rw [h] at hr; cases hr), fun j hj => ?_⟩
    by_cases hji : j = i
    · subst hji; exact hy.qOp hi H
    · have := H.1 j (ready_mono hj hji)
      subst this
      exact absurd hj (hnn listed hr)
  | succ fuel ih =>
    intro listed a hfree hr hy H
    refine ⟨fun h => (by rw [h] at hr; cases hr), fun j hj => ?_⟩
    by_cases hji : j = i
    · subst hji; exact hy.qOp hi H
    · have h1 := H.2 j (ready_mono hj hji)
      obtain ⟨hjun, oj, hoj, hall⟩ := mem_ready.1 hj
      have h2 := qOp_put hoj (hfree j oj hoj hji hjun (wait_no hr hj hoj)) (fun cs b => hsel i oi cs b hi) (fun cs b => hsel j oj cs b hoj) hy h1
      have hfree' : ∀ k ok, ops[k]? = some ok → k ≠ i → (listed.setIfInBounds j true).getD k true = false →
          (∀ e ∈ ok.after, Region.binds md e = true → e.on ≠ i) → oi.apart ops ok = true := fun k ok hk hki hun hno => by
        refine hfree k ok hk hki ?_ hno
        by_cases hjk : j = k
        · subst hjk; exact hjun
        · rw [getD_set_ne true hjk] at hun; exact hun
      refine qOp_mono (fun a' h3 => ih (listed.setIfInBounds j true) a' hfree' (ready_mono hr (Ne.symm hji)) h3.1 ?_) h2
      rw [Array.setIfInBounds_comm _ _ hji]
      exact h3.2

/-- each of the last ones waits for all ahead of it -/
def waitsEach : List Oper → Nat → Bool
  | [], _ => true
  | o :: ts, n => ((List.range n).all fun i => o.after.any fun e => Region.binds .any e && e.on == i) && waitsEach ts (n + 1)
theorem waits_one {o : Oper} {n i : Nat} (h : ((List.range n).all fun i => o.after.any fun e => Region.binds .any e && e.on == i) = true) (hi : i < n) : ∃ e ∈ o.after, Region.binds .any e = true ∧ e.on = i := by
  rw [List.all_eq_true] at h
  have := h i (by simpa using hi)
  rw [Array.any_eq_true'] at this
  obtain ⟨e, he, hh⟩ := this
  simp only [Bool.and_eq_true, beq_iff_eq] at hh
  exact ⟨e, he, hh.1, hh.2⟩
theorem waits_later {ts : List Oper} {n k i : Nat} {o : Oper} (h : waitsEach ts n = true) (hk : ts[k]? = some o) (hi : i < n + k) : ∃ e ∈ o.after, Region.binds .any e = true ∧ e.on = i := by
  induction ts generalizing n k with
  | nil => simp at hk
  | cons t ts ih =>
    simp only [waitsEach, Bool.and_eq_true] at h
    cases k with
    | zero => simp at hk; subst hk; exact waits_one h.1 (by simpa using hi)
    | succ k => exact ih h.2 (by simpa using hk) (by omega)

/-- the last ones, one behind the other -/
theorem wpAny_tail {Q : Exit → Act → World → Prop} : ∀ (ts : List Oper) (k : Nat) (listed : Array Bool) (a : Act) (w : World), (∀ j, ts[j]? = ops[k + j]?) → waitsEach ts k = true →
    Region.lexFrom .any ops ts.length k listed = true → wpList P ops Q ts a w → (∀ j, j < k → listed.getD j true = true) → wpAny P .any ops Q ts.length listed a w
  | [], k, listed, a, w, _, _, hB, h, _ => ⟨by simpa [Region.lexFrom] using hB, h⟩
  | o :: ts, k, listed, a, w, hl, hW, hB, h, hdone => by
    have h0 : ops[k]? = some o := by simpa using (hl 0).symm
    simp only [List.length_cons, Region.lexFrom, Bool.and_eq_true] at hB
    obtain ⟨⟨hr, hf⟩, hB'⟩ := hB
    have hrk : k ∈ Region.ready .any ops listed := by simpa using hr
    have hW2 := hW
    simp only [waitsEach, Bool.and_eq_true] at hW2
    have honly : ∀ i ∈ Region.ready .any ops listed, i = k := by
      intro i hi
      obtain ⟨hun, oi, hoi, _⟩ := mem_ready.1 hi
      rcases Nat.lt_trichotomy i k with hlt | he | hgt
      · rw [hdone i hlt] at hun; cases hun
      · exact he
      · exfalso
        have hti : (o :: ts)[i - k]? = some oi := by rw [hl (i - k), show k + (i - k) = i by omega]; exact hoi
        obtain ⟨e, he, hb, ho⟩ := waits_later hW hti (show k < k + (i - k) by omega)
        exact wait_no hrk hi hoi e he hb ho
    refine ⟨fun he => (by rw [he] at hrk; cases hrk), fun i hi => ?_⟩
    obtain rfl := honly i hi
    have hnext : ∀ a' w', wpList P ops Q ts a' w' → wpAny P .any ops Q ts.length (listed.setIfInBounds i true) a' w' := fun a' w' h' =>
      wpAny_tail ts (i + 1) _ a' w' (fun j => by have := hl (j + 1); simpa [Nat.add_assoc, Nat.add_comm 1 j] using this) hW2.2 hB' h' (by
        intro j hj
        by_cases hji : j = i
        · subst hji
          rcases Nat.lt_or_ge j listed.size with h' | h'
          · simp [h']
          · simp [Array.getElem?_eq_none, h']
        · rw [getD_set_ne true (by omega)]; exact hdone j (by omega))
    unfold wpOp
    simp only [h0]
    unfold wpList at h
    split
    · rename_i hwd
      simp only [hwd, if_true] at h
      rcases h with h | h
      · exact .inl (Oper.wp_mono hnext h)
      · exact .inr h
    · rename_i hwd
      simp only [hwd] at h
      exact hnext _ _ h

theorem wpAnyM_lex {n : Nat} {L : Array Bool → Act → Prop} {L0 : Act → Prop} {on : Oper} {m : Nat} (hn : ops[n]? = some on) (hwait : ∀ i, i < n → ∃ e ∈ on.after, Region.binds md e = true ∧ e.on = i) (hlate : ∀ j oj, n < j → ops[j]? = some oj → ∃ e ∈ oj.after, Region.binds md e = true ∧ e.on = n) (hs : Region.noSelect ops = true)
    (hL0 : ∀ listed a, (∀ j, j < n → listed.getD j true = true) → Region.lexFrom md ops (m + 1) n listed = true → L0 a → L listed a) : ∀ (l : List Oper) (k : Nat) (listed : Array Bool) (a : Act), k + l.length = n → (∀ j, j < l.length → l[j]? = ops[k + j]?) → (∀ j, j < k → listed.getD j true = true) →
    Region.lexFrom md ops (l.length + (m + 1)) k listed = true → wpQuiet P ops C L0 l a → wpAnyM P md ops C n L l.length listed a
  | [], k, listed, a, hk, _, hd, hB, h => by
    have hk' : k = n := by simpa using hk
    subst hk'
    rw [List.length_nil, Nat.zero_add] at hB
    have hB2 := hB
    simp only [Region.lexFrom, Bool.and_eq_true] at hB2
    obtain ⟨⟨hr, hf⟩, hB'⟩ := hB2
    have hrk : k ∈ Region.ready md ops listed := by simpa using hr
    refine ⟨fun j hj => ?_, hL0 listed a hd hB h⟩
    obtain ⟨hun, oj, hoj, _⟩ := mem_ready.1 hj
    rcases Nat.lt_trichotomy j k with hlt | he | hgt
    · rw [hd j hlt] at hun; cases hun
    · exact he
    · exfalso
      obtain ⟨e, he, hb, ho⟩ := hlate j oj hgt hoj
      exact wait_no hrk hj hoj e he hb ho
  | o :: l, k, listed, a, hk, hl, hd, hB, h => by
    have h0 : ops[k]? = some o := by simpa using (hl 0 (by simp)).symm
    simp only [List.length_cons] at hk
    rw [show (o :: l).length + (m + 1) = (l.length + (m + 1)) + 1 by simp; omega, Region.lexFrom] at hB
    simp only [Bool.and_eq_true] at hB
    obtain ⟨⟨hr, hf⟩, hB'⟩ := hB
    have hst : qOp P ops C k (wpQuiet P ops C L0 l) a := by unfold qOp; simp only [h0]; exact h
    obtain ⟨v, hy, hK⟩ := yieldsIn_of_qOp h0 hst
    exact wpAnyM_first h0 hn (by omega) (hwait k (by omega)) (Region.noSelect_spec hs) l.length listed a (Region.free_spec h0 hf) (by simpa using hr) hy
      (wpAnyM_lex hn hwait hlate hs hL0 l (k + 1) _ _ (by omega) (fun j hj => by have := hl (j + 1) (by simpa using hj); simpa [Nat.add_assoc, Nat.add_comm 1 j] using this) (by
        intro j hj
        by_cases hji : j = k
        · subst hji
          rcases Nat.lt_or_ge j listed.size with h' | h'
          · simp [h']
          · simp [Array.getElem?_eq_none, h']
        · rw [getD_set_ne true (by omega)]; exact hd j (by omega)) hB' hK)

theorem split_nil {ts : List Oper} : ts = [] ++ ts := rfl
theorem split_cons {x : Oper} {t l ts : List Oper} (h : t = l ++ ts) : x :: t = (x :: l) ++ ts := by rw [h]; rfl

theorem wp_region_quiet_tail {id : Nat} {Q : Exit → Act → World → Prop} {a : Act} {w : World} {l ts : List Oper} {on : Oper} {t : List Oper} (ht : t = l ++ (on :: ts)) (hm : P.follows .mixedOrders = true) (hB : Region.lexB .any t.toArray = true) (hW : waitsEach (on :: ts) l.length = true)
    (h : wpQuiet P t.toArray (fun w' => ∃ n, w' = w.drewN n) (fun a' => ∀ w', (∃ n, w' = w.drewN n) → wpList P t.toArray Q (on :: ts) a' w') l a) : (Code.region id t.toArray true).wp P Q a w := by
  subst ht
  simp only [Region.lexB, Bool.and_eq_true] at hB
  have hn : (l ++ (on :: ts)).toArray[l.length]? = some on := by simp
  have hsz : (l ++ (on :: ts)).toArray.size = l.length + (ts.length + 1) := by simp
  have hx := wpAnyM_lex (P := P) (C := fun w' => ∃ n, w' = w.drewN n) (md := .any) (n := l.length) (m := ts.length) (L := fun listed a' => ∀ w', (∃ n, w' = w.drewN n) → wpAny P .any (l ++ (on :: ts)).toArray Q (ts.length + 1) listed a' w') (L0 := fun a' => ∀ w', (∃ n, w' = w.drewN n) → wpList P (l ++ (on :: ts)).toArray Q (on :: ts) a' w') hn
    (fun i hi => waits_later (ts := on :: ts) (n := l.length) (k := 0) hW rfl (by omega))
    (fun j oj hj hoj => by
      have hj2 : (on :: ts)[j - l.length]? = some oj := by
        have : (l ++ (on :: ts))[j]? = some oj := by simpa using hoj
        rw [List.getElem?_append_right (by omega)] at this
        exact this
      exact waits_later hW hj2 (by omega)) hB.1
    (fun listed a' hd hB2 h2 w' hw' => wpAny_tail (on :: ts) l.length listed a' w' (fun j => by simp [List.getElem?_append_right]) hW hB2 (h2 w' hw') hd)
    l 0 (Array.replicate (l ++ (on :: ts)).toArray.size false) a (by omega) (by intro j hj; simp [List.getElem?_append_left hj]) (by intro j hj; omega) (by have := hB.2; rw [hsz] at this ⊢; exact this) h
  have hy := wpAny_of_M (P := P) (md := .any) (C := fun w' => ∃ n, w' = w.drewN n) (Q := Q) (m := ts.length + 1) (fun listed a' w' hw' hL => hL w' hw') l.length _ a { w with drawn := w.drawn + 1 } ⟨1, rfl⟩ hx
  refine wp_region_any hm ?_
  rw [hsz] at hy ⊢
  exact hy
end
end Go.Proofs.Ytmpbcmpjfcddoaa
