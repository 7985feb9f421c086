/-
  When tasks are a job, plain: it names no program; no conditions.
-/
import Derived.Test.YtmdkbmnomeampaaTo
namespace Go.Proofs.Ytmdkbmnomeampaa
open Go.RowKit
set_option linter.unusedVariables false
set_option linter.unusedSimpArgs false

/-- needs that rise from m on, all below n -/
def ndOk (n : Int) : Int → List Int → Bool
  | _, [] => true
  | m, x :: l => decide (m ≤ x) && decide (x < n) && ndOk n (x + 1) l
def nOk (n : Int) (zs : List Int) : Bool := decide (zs.length ≤ 10) && ndOk n 0 zs
def frm (x : Int) : Bool := decide (0 ≤ x) && decide (x ≤ 10000000)
def tskOk (i : Int) (t : Tv) : Bool := decide (0 ≤ t.1) && decide (t.1 ≤ 9) && frm t.2.1 && nOk i t.2.2.1 && decide (1 ≤ t.2.2.2) && decide (t.2.2.2 ≤ 1000)
def okFrom : Nat → List Tv → Bool
  | _, [] => true
  | i, t :: l => tskOk i t && okFrom (i + 1) l
def jobOk (ts : List Tv) : Bool := decide (ts.length ≤ 200) && okFrom 0 ts
theorem drop_at {α : Type} {l : List α} {k : Nat} {x : α} (h : l[k]? = some x) : l.drop k = x :: l.drop (k + 1) := by
  obtain ⟨hk, e⟩ := List.getElem?_eq_some_iff.1 h
  rw [List.drop_eq_getElem_cons hk, e]
theorem drop_end {α : Type} {l : List α} {k : Nat} (h : ¬ k < l.length) : l.drop k = [] := List.drop_eq_nil_of_le (by omega)
theorem job_short {ts : List Tv} (h : jobOk ts = true) : ts.length ≤ 200 := by
  simp [jobOk] at h; exact h.1
theorem ok_at {ts : List Tv} {i k : Nat} {t : Tv} (h : okFrom i ts = true) (ht : ts[k]? = some t) : tskOk ((i + k : Nat) : Int) t = true := by
  induction ts generalizing i k with
  | nil => simp at ht
  | cons u l ih =>
    simp [okFrom] at h
    cases k with
    | zero => simp at ht; subst ht; exact h.1
    | succ k =>
      have h1 := ih h.2 (by simpa using ht)
      have e : i + 1 + k = i + (k + 1) := by omega
      rw [e] at h1; exact h1
theorem job_at {ts : List Tv} {k : Nat} {t : Tv} (h : jobOk ts = true) (ht : ts[k]? = some t) : tskOk (k : Int) t = true := by
  simp [jobOk] at h
  have h1 := ok_at h.2 ht
  rw [Nat.zero_add] at h1; exact h1
theorem nd_all {n m : Int} {zs : List Int} (h : ndOk n m zs = true) : ∀ x ∈ zs, m ≤ x ∧ x < n := by
  induction zs generalizing m with
  | nil => intro x hx; simp at hx
  | cons y l ih =>
    simp [ndOk] at h
    intro x hx
    rcases List.mem_cons.1 hx with rfl | hx
    · exact h.1
    · have := ih h.2 x hx
      exact ⟨by omega, this.2⟩
structure TOk (i : Nat) (t : Tv) : Prop where
  kind0 : 0 ≤ t.1
  kind1 : t.1 ≤ 9
  val0 : 0 ≤ t.2.1
  val1 : t.2.1 ≤ 10000000
  len : t.2.2.1.length ≤ 10
  need : ∀ x ∈ t.2.2.1, 0 ≤ x ∧ x < i
  cost0 : 1 ≤ t.2.2.2
  cost1 : t.2.2.2 ≤ 1000
theorem job_tok {ts : List Tv} {k : Nat} {t : Tv} (h : jobOk ts = true) (ht : ts[k]? = some t) : TOk k t := by
  have h1 := job_at h ht
  simp [tskOk, frm, nOk] at h1
  obtain ⟨⟨⟨⟨⟨h1, h2⟩, h3, h4⟩, h5, h6⟩, h7⟩, h8⟩ := h1
  exact ⟨h1, h2, h3, h4, h5, nd_all h6, h7, h8⟩
end Go.Proofs.Ytmdkbmnomeampaa
