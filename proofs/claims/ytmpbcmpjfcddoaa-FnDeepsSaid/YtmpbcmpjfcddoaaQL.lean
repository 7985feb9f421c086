/-
  A region that draws its order, whose operations only read but for the last one, which waits for all others: one walk of the lexical order serves every order; no program is named.
-/
import Derived.WalkKit
import Derived.Deep.QuietTactic
import Derived.BigQuiet
namespace Go.Proofs.Ytmpbcmpjfcddoaa
open Go
set_option linter.unusedVariables false
set_option linter.unusedSimpArgs false

section
variable {P : Program} {ops : Array Oper} {md : Region.Mode} {C : World → Prop}

/-- whatever order is picked, the last one, n, comes last -/
def wpAnyL (P : Program) (md : Region.Mode) (ops : Array Oper) (C : World → Prop) (n : Nat) (L : Act → Prop) : Nat → Array Bool → Act → Prop
  | 0, listed, a => (∀ j ∈ Region.ready md ops listed, j = n) ∧ n ∈ Region.ready md ops listed ∧ Region.ready md ops (listed.setIfInBounds n true) = [] ∧ L a
  | fuel + 1, listed, a => Region.ready md ops listed ≠ [] ∧ ∀ i ∈ Region.ready md ops listed, qOp P ops C i (wpAnyL P md ops C n L fuel (listed.setIfInBounds i true)) a

theorem wpAny_of_L {n : Nat} {L : Act → Prop} {Q : Exit → Act → World → Prop} (hL : ∀ a w, C w → L a → wpOp P ops Q n (fun a' w' => Q .normal a' w') a w) :
    ∀ (fuel : Nat) (listed : Array Bool) (a : Act) (w : World), C w → wpAnyL P md ops C n L fuel listed a → wpAny P md ops Q (fuel + 1) listed a w
  | 0, listed, a, w, hw, h => by
    obtain ⟨h1, h2, h3, h4⟩ := h
    refine ⟨fun h0 => (by rw [h0] at h2; cases h2), fun i hi => ?_⟩
    obtain rfl := h1 i hi
    have := hL a w hw h4
    unfold wpOp at this ⊢
    split
    · rename_i ho; simp only [ho] at this; exact ⟨h3, this⟩
    · rename_i o ho
      simp only [ho] at this
      split
      · rename_i hwd
        simp only [hwd, if_true] at this
        rcases this with this | this
        · exact .inl (Oper.wp_mono (fun a' w' hq => ⟨h3, hq⟩) this)
        · exact .inr this
      · rename_i hwd; simp only [hwd] at this; exact ⟨h3, this⟩
  | fuel + 1, listed, a, w, hw, h => ⟨fun h0 => absurd h0 h.1, fun i hi => wpOp_of_qOp hw (fun a' w' hw' => wpAny_of_L hL fuel _ a' w' hw') (h.2 i hi)⟩

theorem wpAnyL_first {n : Nat} {L : Act → Prop} {i : Nat} {oi on : Oper} {v : Value} (hi : ops[i]? = some oi) (hn : ops[n]? = some on) (hin : i ≠ n) (hwait : ∃ e ∈ on.after, Region.binds md e = true ∧ e.on = i) (hsel : ∀ (j : Nat) (o : Oper) cs b, ops[j]? = some o → o.op ≠ .select cs b) :
    ∀ (fuel : Nat) (listed : Array Bool) (a : Act),
      (∀ j oj, ops[j]? = some oj → j ≠ i → listed.getD j true = false → (∀ e ∈ oj.after, Region.binds md e = true → e.on ≠ i) → oi.apart ops oj = true) →
      i ∈ Region.ready md ops listed → YieldsIn P ops C oi v a →
      wpAnyL P md ops C n L fuel (listed.setIfInBounds i true) (a.put oi.dst v) → wpAnyL P md ops C n L (fuel + 1) listed a := by
  have hno : ∀ listed : Array Bool, i ∈ Region.ready md ops listed → ∀ j ∈ Region.ready md ops listed, ∀ oj, ops[j]? = some oj → ∀ e ∈ oj.after, Region.binds md e = true → e.on ≠ i := by
    intro listed hr j hj oj hoj e he hb heq
    obtain ⟨_, oj', hoj', hall⟩ := mem_ready.1 hj
    rw [hoj] at hoj'
    cases hoj'
    have h1 := hall e he hb
    have h0 := (mem_ready.1 hr).1
    rw [heq] at h1
    rcases Nat.lt_or_ge i listed.size with h' | h'
    · simp [h'] at h0 h1; rw [h0] at h1; cases h1
    · simp [Array.getElem?_eq_none h'] at h1
  have hnn : ∀ listed : Array Bool, i ∈ Region.ready md ops listed → n ∉ Region.ready md ops listed := by
    intro listed hr hm
    obtain ⟨e, he, hb, ho⟩ := hwait
    exact hno listed hr n hm on hn e he hb ho
  intro fuel
  induction fuel with
  | zero =>
    intro listed a _ hr hy H
    refine ⟨fun h => (by rw [h] at hr; cases hr), fun j hj => ?_⟩
    by_cases hji : j = i
    · subst hji; exact hy.qOp hi H
    · have := H.1 j (ready_mono hj hji)
      subst this
      exact absurd hj (hnn listed hr)
  | succ fuel ih =>
    intro listed a hfree hr hy H
    refine ⟨fun h => (by rw [h] at hr; cases hr), fun j hj => ?_⟩
    by_cases hji : j = i
    · subst hji; exact hy.qOp hi H
    · have h1 := H.2 j (ready_mono hj hji)
      obtain ⟨hjun, oj, hoj, hall⟩ := mem_ready.1 hj
      have h2 := qOp_put hoj (hfree j oj hoj hji hjun (hno listed hr j hj oj hoj)) (fun cs b => hsel i oi cs b hi) (fun cs b => hsel j oj cs b hoj) hy h1
      have hfree' : ∀ k ok, ops[k]? = some ok → k ≠ i → (listed.setIfInBounds j true).getD k true = false →
          (∀ e ∈ ok.after, Region.binds md e = true → e.on ≠ i) → oi.apart ops ok = true := fun k ok hk hki hun hno => by
        refine hfree k ok hk hki ?_ hno
        by_cases hjk : j = k
        · subst hjk; exact hjun
        · rw [getD_set_ne true hjk] at hun; exact hun
      refine qOp_mono (fun a' h3 => ih (listed.setIfInBounds j true) a' hfree' (ready_mono hr (Ne.symm hji)) h3.1 ?_) h2
      rw [Array.setIfInBounds_comm _ _ hji]
      exact h3.2

theorem wpAnyL_lex {n : Nat} {L : Act → Prop} {on : Oper} (hn : ops[n]? = some on) (hwait : ∀ i, i < n → ∃ e ∈ on.after, Region.binds md e = true ∧ e.on = i) (hs : Region.noSelect ops = true) : ∀ (l : List Oper) (k : Nat) (listed : Array Bool) (a : Act), k + l.length = n → (∀ j, j < l.length → l[j]? = ops[k + j]?) →
    Region.lexFrom md ops (l.length + 1) k listed = true → wpQuiet P ops C L l a → wpAnyL P md ops C n L l.length listed a
  | [], k, listed, a, hk, _, hB, h => by
    simp only [List.length_nil, Region.lexFrom, Bool.and_eq_true] at hB
    obtain ⟨⟨hr, hf⟩, hB'⟩ := hB
    have hk' : k = n := by simpa using hk
    subst hk'
    have he : Region.ready md ops (listed.setIfInBounds k true) = [] := by simpa using hB'
    refine ⟨fun j hj => ?_, by simpa using hr, he, h⟩
    by_cases hjk : j = k
    · exact hjk
    · have := ready_mono hj hjk
      rw [he] at this
      cases this
  | o :: l, k, listed, a, hk, hl, hB, h => by
    have h0 : ops[k]? = some o := by simpa using (hl 0 (by simp)).symm
    simp only [List.length_cons] at hk
    rw [show (o :: l).length + 1 = (l.length + 1) + 1 from rfl, Region.lexFrom] at hB
    simp only [Bool.and_eq_true] at hB
    obtain ⟨⟨hr, hf⟩, hB'⟩ := hB
    have hst : qOp P ops C k (wpQuiet P ops C L l) a := by unfold qOp; simp only [h0]; exact h
    obtain ⟨v, hy, hK⟩ := yieldsIn_of_qOp h0 hst
    exact wpAnyL_first h0 hn (by omega) (hwait k (by omega)) (Region.noSelect_spec hs) l.length listed a (Region.free_spec h0 hf) (by simpa using hr) hy
      (wpAnyL_lex hn hwait hs l (k + 1) _ _ (by omega) (fun j hj => by have := hl (j + 1) (by simpa using hj); simpa [Nat.add_assoc, Nat.add_comm 1 j] using this) hB' hK)

theorem snoc_nil {o : Oper} : [o] = [] ++ [o] := rfl
theorem snoc_cons {x o : Oper} {t l : List Oper} (h : t = l ++ [o]) : x :: t = (x :: l) ++ [o] := by rw [h]; rfl
/-- the last one waits for all the others -/
def waitsAll (o : Oper) (n : Nat) : Bool := (List.range n).all fun i => o.after.any fun e => Region.binds .any e && e.on == i

theorem wp_region_quiet_last {id : Nat} {Q : Exit → Act → World → Prop} {a : Act} {w : World} {l : List Oper} {o : Oper} {t : List Oper} (ht : t = l ++ [o]) (hm : P.follows .mixedOrders = true) (hB : Region.lexB .any t.toArray = true) (hW : waitsAll o l.length = true)
    (h : wpQuiet P t.toArray (fun w' => ∃ n, w' = w.drewN n) (fun a' => ∀ w', (∃ n, w' = w.drewN n) → wpList P t.toArray Q [o] a' w') l a) : (Code.region id t.toArray true).wp P Q a w := by
  subst ht
  simp only [Region.lexB, Bool.and_eq_true] at hB
  have hn : (l ++ [o]).toArray[l.length]? = some o := by simp
  have hwait : ∀ i, i < l.length → ∃ e ∈ o.after, Region.binds .any e = true ∧ e.on = i := by
    intro i hi
    unfold waitsAll at hW
    rw [List.all_eq_true] at hW
    have := hW i (by simpa using hi)
    rw [Array.any_eq_true'] at this
    obtain ⟨e, he, hh⟩ := this
    simp only [Bool.and_eq_true, beq_iff_eq] at hh
    exact ⟨e, he, hh.1, hh.2⟩
  have hx := wpAnyL_lex (P := P) (C := fun w' => ∃ n, w' = w.drewN n) (md := .any) hn hwait hB.1 l 0 (Array.replicate (l ++ [o]).toArray.size false) a (by omega) (by intro j hj; simp [List.getElem?_append_left hj]) (by simpa using hB.2) h
  have hy := wpAny_of_L (P := P) (md := .any) (C := fun w' => ∃ n, w' = w.drewN n) (Q := Q) (fun a' w' hw' hL => by
    have := hL w' hw'
    unfold wpOp
    simp only [hn]
    exact this) l.length _ a { w with drawn := w.drawn + 1 } ⟨1, rfl⟩ hx
  refine wp_region_any hm ?_
  have e : (l ++ [o]).toArray.size = l.length + 1 := by simp
  rw [e] at hy
  rw [e]
  exact hy
end
end Go.Proofs.Ytmpbcmpjfcddoaa
