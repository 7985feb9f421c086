/-
  Contracts of the model's slip, ripple and roll; answers are new memory, nothing that was there is written.
-/
import Derived.Test.YtcmkoonlidcclaaSEd2
namespace Go.Proofs.Ytcmkoonlidcclaa
open Go.RowKit
set_option linter.unusedVariables false
set_option linter.unusedSimpArgs false

theorem flK_in {l : List Kl} {k : Nat} {c : Kl} (h : l[k]? = some c) (x : Int) : (flK l).set (k * 3 + 1) (iv x) = flK (l.set k (c.1, x, c.2.2)) := by
  induction l generalizing k with
  | nil => simp at h
  | cons y l ih =>
    cases k with
    | zero => simp at h; subst h; rfl
    | succ k =>
      have e : (k + 1) * 3 + 1 = k * 3 + 1 + 1 + 1 + 1 := by omega
      rw [e]
      simp only [flK, List.set_cons_succ]
      rw [ih (by simpa using h)]
theorem flK_ln {l : List Kl} {k : Nat} {c : Kl} (h : l[k]? = some c) (x : Int) : (flK l).set (k * 3 + 2) (iv x) = flK (l.set k (c.1, c.2.1, x)) := by
  induction l generalizing k with
  | nil => simp at h
  | cons y l ih =>
    cases k with
    | zero => simp at h; subst h; rfl
    | succ k =>
      have e : (k + 1) * 3 + 2 = k * 3 + 2 + 1 + 1 + 1 := by omega
      rw [e]
      simp only [flK, List.set_cons_succ]
      rw [ih (by simpa using h)]
theorem own_in {w : World} {B g n cap k : Nat} {l : List Kl} {c : Kl} (hk : l[k]? = some c) (h : Own w B g n cap l) (x : Int) : Own (w.setCell ⟨g, k * 3 + 1, none⟩ (.int .i64 x)) B g n cap (l.set k (c.1, x, c.2.2)) := by
  have h1 := (h.stored (k * 3 + 1) (iv x)).1
  rw [flK_in hk] at h1
  exact h1
theorem own_ln {w : World} {B g n cap k : Nat} {l : List Kl} {c : Kl} (hk : l[k]? = some c) (h : Own w B g n cap l) (x : Int) : Own (w.setCell ⟨g, k * 3 + 2, none⟩ (.int .i64 x)) B g n cap (l.set k (c.1, c.2.1, x)) := by
  have h1 := (h.stored (k * 3 + 2) (iv x)).1
  rw [flK_ln hk] at h1
  exact h1
theorem ownV_some {w : World} {B : Nat} {v : Value} {l : List Kl} (h : OwnV w B v l) (hl : 0 < l.length) : ∃ g c, v = .slice (some ⟨g, 0, none⟩) l.length c := by
  rcases h.2 with ⟨hv, hn⟩ | ⟨g, cap, cur, hv, _⟩
  · omega
  · exact ⟨g, cap, hv⟩
theorem kls_some {w : World} {a : Option Addr} {l : List Kl} (h : Kls w a l) (hl : 0 < l.length) (hn : a = none) : False := by
  obtain ⟨b, o, e, _⟩ := h 0 l[0] (List.getElem?_eq_getElem hl)
  rw [hn] at e; cases e
theorem ck_at {l : List Kl} {k : Nat} {c : Kl} (h : l[k]? = some c) : ck l (k : Int) = c := by
  unfold ck; rw [Int.toNat_natCast, List.getD_eq_getElem?_getD, h]; rfl
theorem ck_at1 {l : List Kl} {k : Nat} {c : Kl} (h : l[k + 1]? = some c) : ck l ((k : Int) + 1) = c := by
  have : ((k : Int) + 1) = ((k + 1 : Nat) : Int) := by omega
  rw [this]; exact ck_at h

end Go.Proofs.Ytcmkoonlidcclaa
