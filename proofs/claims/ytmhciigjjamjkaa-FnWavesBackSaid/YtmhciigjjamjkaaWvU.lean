/-
  Contracts of Waves and Back, the model's and the program's: each gives a new list; nothing that was there is written.
-/
import Derived.Test.YtmhciigjjamjkaaWvTW1
import Derived.Test.YtmhciigjjamjkaaWvTW2
import Derived.Test.YtmhciigjjamjkaaWvTW4
import Derived.Test.YtmhciigjjamjkaaWvTW8
import Derived.Test.YtmhciigjjamjkaaWvTB1
import Derived.Test.YtmhciigjjamjkaaWvTB2
import Derived.Test.YtmhciigjjamjkaaWvTB4
import Derived.Test.YtmhciigjjamjkaaWvTB8
namespace Go.Proofs.Ytmhciigjjamjkaa
open Go.RowKit
set_option linter.unusedVariables false
set_option linter.unusedSimpArgs false

set_option maxHeartbeats 800000 in
theorem tsum_no (st : Int) (a : Option Addr) (ca : Nat) (l : List (Nat × Nat)) (w : World) (hl : ¬ okN l.length) (hm : l.length ≤ 1048576) :
    Calls Try.prog 8 #[.slice a l.length ca, .int .i64 st] w fun e w' => e = .returned (.slice (some ⟨w.heap.size, 0, none⟩) 0 0) ∧ w'.ownsRow w.heap.size 28 2 (.slice (some ⟨w.heap.size, 0, none⟩) 0 0) 0 [] ∧ Below w.heap.size w w' := by
  unfold okN at hl
  have m1 : ((l.length : Int) != 1) = true := by simp; omega
  have m2 : ((l.length : Int) != 2) = true := by simp; omega
  have m4 : ((l.length : Int) != 4) = true := by simp; omega
  have m8 : ((l.length : Int) != 8) = true := by simp; omega
  clear hl
  have hown0 := hide (World.ownsRow_lit (base := w.heap.size) (e := 28) (size := 2) w #[] 0 (Nat.le_refl _) (by unfold maxLen; omega) rfl)
  go_enter Try.func8, Try.ntmps8
  go_wp2
  go_ret
  exact ⟨rfl, unhide hown0, (Below.refl _ _).alloc (Nat.le_refl _) _⟩

theorem okN_dec (n : Nat) : okN n ∨ ¬ okN n := by unfold okN; omega

def TsV (bk : Bool) (l L : List (Nat × Nat)) : Prop := (okN l.length ∧ TsL bk l l.length L) ∨ (¬ okN l.length ∧ L = [])
theorem TsV.len {bk : Bool} {l L : List (Nat × Nat)} (h : TsV bk l L) : L.length ≤ 8 := by
  rcases h with ⟨h1, h2⟩ | ⟨h1, h2⟩
  · rw [h2.1]; unfold okN at h1; omega
  · rw [h2]; simp
def stp (bk : Bool) : Int := if bk then 7 else 1
theorem tsum_any (bk : Bool) (a : Option Addr) (ca : Nat) (l : List (Nat × Nat)) (w : World) (hm : l.length ≤ 1048576) (ha : Cxs false 0 w.heap.size w a l) :
    Calls Try.prog 8 #[.slice a l.length ca, .int .i64 (stp bk)] w fun e w' => ∃ L, e = .returned (.slice (some ⟨w.heap.size, 0, none⟩) L.length L.length) ∧ w'.ownsRow w.heap.size 28 2 (.slice (some ⟨w.heap.size, 0, none⟩) L.length L.length) L.length (flC L) ∧ TsV bk l L ∧ Below w.heap.size w w' := by
  rcases okN_dec l.length with hl | hl
  · have hl' := hl
    unfold okN at hl
    have J : ∀ {bk : Bool} {e : Ending} {w' : World}, (∃ L, e = .returned (.slice (some ⟨w.heap.size, 0, none⟩) L.length L.length) ∧ w'.ownsRow w.heap.size 28 2 (.slice (some ⟨w.heap.size, 0, none⟩) L.length L.length) L.length (flC L) ∧ TsL bk l l.length L ∧ Below w.heap.size w w') → ∃ L, e = .returned (.slice (some ⟨w.heap.size, 0, none⟩) L.length L.length) ∧ w'.ownsRow w.heap.size 28 2 (.slice (some ⟨w.heap.size, 0, none⟩) L.length L.length) L.length (flC L) ∧ TsV bk l L ∧ Below w.heap.size w w' := by
      rintro bk e w' ⟨L, h1, h3, h4, h5⟩
      exact ⟨L, h1, h3, .inl ⟨hl', h4⟩, h5⟩
    cases bk
    · rcases hl with h | h | h | h
      · exact (tsumW1 a ca l w h ha).mono fun e w' x => J x
      · exact (tsumW2 a ca l w h ha).mono fun e w' x => J x
      · exact (tsumW4 a ca l w h ha).mono fun e w' x => J x
      · exact (tsumW8 a ca l w h ha).mono fun e w' x => J x
    · rcases hl with h | h | h | h
      · exact (tsumB1 a ca l w h ha).mono fun e w' x => J x
      · exact (tsumB2 a ca l w h ha).mono fun e w' x => J x
      · exact (tsumB4 a ca l w h ha).mono fun e w' x => J x
      · exact (tsumB8 a ca l w h ha).mono fun e w' x => J x
  · exact (tsum_no (stp bk) a ca l w hl hm).mono fun e w' ⟨h1, h2, h3⟩ => ⟨[], h1, h2, .inr ⟨hl, rfl⟩, h3⟩

theorem TsV.wv {l L : List (Nat × Nat)} (h : TsV false l L) : WvV false l L := by
  rcases h with ⟨h1, h2⟩ | h
  · exact .inl ⟨h1, h2.1, fun j v hj => ⟨v, h2.2 j v hj, by simp⟩⟩
  · exact .inr h
set_option maxHeartbeats 800000 in
theorem iwave_any (a : Option Addr) (ca : Nat) (l : List (Nat × Nat)) (w : World) (hm : l.length ≤ 1048576) (ha : Cxs false 0 w.heap.size w a l) :
    Calls Try.prog 6 #[.slice a l.length ca] w fun e w' => ∃ g cap L, e = .returned (.slice (some ⟨g, 0, none⟩) L.length cap) ∧ w.heap.size ≤ g ∧ w'.ownsRow w.heap.size 28 2 (.slice (some ⟨g, 0, none⟩) L.length cap) L.length (flC L) ∧ WvV false l L ∧ Below w.heap.size w w' := by
  have ha' := hide ha
  clear ha
  go_enter Try.func6, Try.ntmps6
  go_wp2_with fail
  refine (tsum_any false a ca l _ hm (unhide ha')).mono ?_
  rintro e w1 ⟨L, rfl, h3, h4, h5⟩
  have h3' := hide h3
  have h4' := hide h4
  have h5' := hide h5
  clear h3 h4 h5
  go_wp2
  go_ret
  exact ⟨_, _, L, rfl, Nat.le_refl _, unhide h3', (unhide h4').wv, unhide h5'⟩

/-- M is L with the first k divided -/
def Dv (l L : List (Nat × Nat)) (k : Nat) (M : List (Nat × Nat)) : Prop := M.length = L.length ∧ (∀ (j : Nat) (v : Nat × Nat), j < k → M[j]? = some v → WvE true l j v) ∧ ∀ j, k ≤ j → M[j]? = L[j]?
theorem Dv.start (l L : List (Nat × Nat)) : Dv l L 0 L := ⟨rfl, fun j v h => by omega, fun j h => rfl⟩
theorem Dv.step {l L M : List (Nat × Nat)} {k : Nat} {v : Nat × Nat} (h : Dv l L k M) (hk : k < L.length) (hv : WvE true l k v) : Dv l L (k + 1) (M.set k v) := by
  obtain ⟨h1, h2, h3⟩ := h
  refine ⟨by simp [h1], ?_, ?_⟩
  · intro j u hj hu
    by_cases e : j = k
    · subst e
      rw [List.getElem?_set_self (by omega)] at hu
      cases hu
      exact hv
    · rw [List.getElem?_set_ne (by omega)] at hu
      exact h2 j u (by omega) hu
  · intro j hj
    rw [List.getElem?_set_ne (by omega)]
    exact h3 j (by omega)
theorem Dv.wv {l L M : List (Nat × Nat)} (h : Dv l L L.length M) (ht : TsV true l L) : WvV true l M := by
  rcases ht with ⟨h1, h2⟩ | ⟨h1, h2⟩
  · exact .inl ⟨h1, h.1.trans h2.1, fun j v hj => h.2.1 j v (by have := (List.getElem?_eq_some_iff.1 hj).1; rw [h.1] at this; exact this) hj⟩
  · refine .inr ⟨h1, ?_⟩
    have := h.1
    rw [h2] at this
    exact List.length_eq_zero_iff.1 this

end Go.Proofs.Ytmhciigjjamjkaa
