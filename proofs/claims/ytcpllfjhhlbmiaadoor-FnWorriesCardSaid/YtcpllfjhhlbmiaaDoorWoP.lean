/-
  Plain facts on worries: they come in their order, each of them holds, and titles that are later by the same have as many. No program is named here; there are no conditions.
-/
import Derived.Test.YtcpllfjhhlbmiaaDoorUnP
import Derived.Test.YtcpllfjhhlbmiaaDoorDlS
namespace Go.Proofs.YtcpllfjhhlbmiaaDoor
open Go.RowKit
set_option linter.unusedVariables false
set_option linter.unusedSimpArgs false

/-- the order of worries -/
def wlt (y z : Int × Int) : Prop := y.1 < z.1 ∨ (y.1 = z.1 ∧ y.2 < z.2)
theorem wup_mem {k : Nat} {f : Nat → Bool} {y : Int × Int} : ∀ {j : Nat}, y ∈ wup k f j → y.1 = k ∧ ∃ m : Nat, m < j ∧ y.2 = m ∧ f m = true := by
  intro j
  induction j with
  | zero => intro h; simp [wup] at h
  | succ j ih =>
    intro h
    rw [wup] at h
    rcases List.mem_append.1 h with h | h
    · obtain ⟨h1, m, h2, h3, h4⟩ := ih h
      exact ⟨h1, m, by omega, h3, h4⟩
    · split at h
      · rename_i hf
        simp at h
        subst h
        exact ⟨rfl, j, by omega, rfl, hf⟩
      · simp at h
theorem wup_rise (k : Nat) (f : Nat → Bool) : ∀ j, (wup k f j).Pairwise wlt := by
  intro j
  induction j with
  | zero => simp [wup]
  | succ j ih =>
    rw [wup, List.pairwise_append]
    refine ⟨ih, by split <;> simp, ?_⟩
    intro y hy z hz
    split at hz
    · simp at hz
      subst hz
      obtain ⟨h1, m, h2, h3, _⟩ := wup_mem hy
      exact .inr ⟨h1, by show y.2 < (j : Int); omega⟩
    · simp at hz
theorem unl_mem {s : Sy} {l : List Kl} {y : Int × Int} : ∀ {k : Nat}, y ∈ unl s l k → ∃ (j m : Nat) (x : Kl), j < k ∧ l[j]? = some x ∧ y.1 = j ∧ y.2 = m ∧ m < 6 ∧ tf s j (pTo l j) x m = true := by
  intro k
  induction k with
  | zero => intro h; simp [unl] at h
  | succ k ih =>
    intro h
    rw [unl] at h
    rcases List.mem_append.1 h with h | h
    · obtain ⟨j, m, x, h1, r⟩ := ih h
      exact ⟨j, m, x, by omega, r⟩
    · cases hx : l[k]? with
      | none => rw [hx] at h; simp at h
      | some x =>
        rw [hx] at h
        obtain ⟨h1, m, h2, h3, h4⟩ := wup_mem h
        exact ⟨k, m, x, by omega, hx, h1, h3, h2, h4⟩
theorem unl_rise (s : Sy) (l : List Kl) : ∀ k, (unl s l k).Pairwise wlt := by
  intro k
  induction k with
  | zero => simp [unl]
  | succ k ih =>
    rw [unl, List.pairwise_append]
    refine ⟨ih, ?_, ?_⟩
    · cases l[k]? with
      | none => simp
      | some x => exact wup_rise _ _ _
    · intro y hy z hz
      obtain ⟨j, m, x, h1, h2, h3, _⟩ := unl_mem hy
      cases hx : l[k]? with
      | none => rw [hx] at hz; simp at hz
      | some x' =>
        rw [hx] at hz
        obtain ⟨q1, _⟩ := wup_mem hz
        exact .inl (by omega)
/-- what holds of a worry -/
theorem unr_at {s : Sy} {l : List Kl} {i : Nat} {y : Int × Int} (h : (unr s l)[i]? = some y) : tOk l = true ∧ syOk s = true ∧ ∃ (j m : Nat) (x : Kl), l[j]? = some x ∧ y = ((j : Int), (m : Int)) ∧ m < 6 ∧ tf s j (pTo l j) x m = true := by
  have hm := List.mem_of_getElem? h
  unfold unr at hm
  split at hm
  · rename_i h1
    split at hm
    · rename_i h2
      obtain ⟨j, m, x, _, q1, q2, q3, q4, q5⟩ := unl_mem hm
      exact ⟨h1, h2, j, m, x, q1, Prod.ext q2 q3, q4, q5⟩
    · simp at hm
  · simp at hm
theorem unr_next {s : Sy} {l : List Kl} {i : Nat} {y z : Int × Int} (h : (unr s l)[i]? = some y) (h2 : (unr s l)[i + 1]? = some z) : wlt y z := by
  have hp : (unr s l).Pairwise wlt := by
    unfold unr
    split
    · split
      · exact unl_rise _ _ _
      · simp
    · simp
  obtain ⟨l1, e1⟩ := List.getElem?_eq_some_iff.1 h
  obtain ⟨l2, e2⟩ := List.getElem?_eq_some_iff.1 h2
  have := List.pairwise_iff_getElem.1 hp i (i + 1) l1 l2 (by omega)
  rw [e1, e2] at this
  exact this
/-- titles that are in order lie within the day -/
theorem ts_rng {l : List Kl} : ∀ {e : Int}, 0 ≤ e → tsOk e l = true → ∀ x ∈ l, 0 ≤ x.1 ∧ x.1 < x.2.1 ∧ x.2.1 ≤ 359999999 := by
  induction l with
  | nil => intro e _ _ x hx; cases hx
  | cons y l ih =>
    intro e he h x hx
    rw [tsOk, Bool.and_eq_true] at h
    have hy : e ≤ y.1 ∧ y.1 < y.2.1 ∧ y.2.1 ≤ 359999999 := by
      have h1 := h.1
      simp only [ttOk, Bool.and_eq_true, decide_eq_true_eq] at h1
      exact ⟨h1.1.1.1, h1.1.1.2, h1.1.2⟩
    rcases List.mem_cons.1 hx with rfl | hx
    · exact ⟨by omega, hy.2.1, hy.2.2⟩
    · exact ih (by omega) h.2 x hx
theorem tOk_rng {l : List Kl} (h : tOk l = true) : ∀ x ∈ l, 0 ≤ x.1 ∧ x.1 < x.2.1 ∧ x.2.1 ≤ 359999999 := by
  unfold tOk at h
  rw [Bool.and_eq_true] at h
  exact ts_rng (Int.le_refl 0) h.2
theorem tf_sh (s : Sy) (k : Nat) (p d : Int) (x : Kl) : ∀ m, tf s k (p + d) (sh d x) m = tf s k p x m := by
  intro m
  have e1 : (x.2.1 + d) - (x.1 + d) = x.2.1 - x.1 := by omega
  have e2 : (x.1 + d) - (p + d) = x.1 - p := by omega
  match m with
  | 0 => rfl
  | 1 => simp only [tf, sh, e1]
  | 2 => simp only [tf, sh, e2]
  | 3 => simp only [tf, sh, e1]
  | 4 => rfl
  | 5 => rfl
  | m + 6 => rfl
theorem tf_zero (s : Sy) (p q : Int) (x : Kl) : ∀ m, tf s 0 p x m = tf s 0 q x m := by
  intro m
  match m with
  | 0 => rfl
  | 1 => rfl
  | 2 => simp [tf]
  | 3 => rfl
  | 4 => rfl
  | 5 => rfl
  | m + 6 => rfl
theorem unl_sh (s : Sy) (d : Int) (l : List Kl) : ∀ k, unl s (l.map (sh d)) k = unl s l k := by
  intro k
  induction k with
  | zero => rfl
  | succ k ih =>
    rw [unl, unl, ih, List.getElem?_map]
    cases hx : l[k]? with
    | none => rfl
    | some x =>
      simp only [Option.map_some]
      congr 1
      congr 1
      funext m
      cases k with
      | zero =>
        rw [tf_zero s _ (pTo l 0 + d)]
        exact tf_sh s 0 _ d x m
      | succ k =>
        have hk : k < l.length := by have := (List.getElem?_eq_some_iff.1 hx).1; omega
        have e : pTo (l.map (sh d)) (k + 1) = pTo l (k + 1) + d := by
          unfold pTo
          rw [Nat.add_sub_cancel, List.getElem?_map, List.getElem?_eq_getElem hk]
          rfl
        rw [e]
        exact tf_sh s (k + 1) _ d x m
theorem unr_dly {s : Sy} {d : Int} {l M : List Kl} (h : dly d l = (M, true)) : unr s M = unr s l := by
  unfold dly at h
  split at h
  · rename_i h1
    split at h
    · split at h
      · rename_i h3
        injection h with h4 _
        subst h4
        unfold unr
        rw [h1, h3, if_pos rfl, if_pos rfl, unl_sh, List.length_map]
      · injection h with _ h5; cases h5
    · injection h with _ h5; cases h5
  · injection h with _ h5; cases h5

end Go.Proofs.YtcpllfjhhlbmiaaDoor
