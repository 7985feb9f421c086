/-
  Plain facts of a buffer: how full it is behind each picture; no program is named.
-/
namespace Go.Proofs.Ytdppnjafkbopiaa
set_option linter.unusedVariables false
set_option linter.unusedSimpArgs false

def Fr7 (n : Int) : Prop := 0 ≤ n ∧ n ≤ 10000000
instance (n : Int) : Decidable (Fr7 n) := by unfold Fr7; infer_instance
/-- one picture more: what is there, what was told -/
def bufS (rate room : Int) (s : Int × List Int) (n : Int) : Int × List Int := if s.1 < n then (min (s.1 + rate) room, s.2 ++ [-1]) else (min (s.1 - n + rate) room, s.2 ++ [min (s.1 - n + rate) room])
def bufR (rate room : Int) (l : List Int) : Int × List Int := l.foldl (bufS rate room) (room, [])
theorem bufR_snoc (rate room : Int) (l : List Int) (n : Int) : bufR rate room (l ++ [n]) = bufS rate room (bufR rate room l) n := by
  unfold bufR; rw [List.foldl_append]; rfl
theorem bufS_len (rate room : Int) (s : Int × List Int) (n : Int) : (bufS rate room s n).2.length = s.2.length + 1 := by
  unfold bufS; split <;> simp
theorem take_snocI {l : List Int} {k : Nat} {x : Int} (h : l[k]? = some x) : l.take (k + 1) = l.take k ++ [x] := by
  rw [List.take_add_one, h]; rfl
theorem bufR_len (rate room : Int) (l : List Int) : ∀ k, k ≤ l.length → (bufR rate room (l.take k)).2.length = k := by
  intro k
  induction k with
  | zero => intro _; rfl
  | succ k ih =>
    intro hk
    have e : l[k]? = some l[k] := List.getElem?_eq_getElem (by omega)
    rw [take_snocI e, bufR_snoc, bufS_len, ih (by omega)]
theorem bufS_bd {rate room n : Int} {s : Int × List Int} (h1 : 1 ≤ rate) (h2 : 1 ≤ room) (hs : 0 ≤ s.1 ∧ s.1 ≤ room) (hn : 0 ≤ n) : 0 ≤ (bufS rate room s n).1 ∧ (bufS rate room s n).1 ≤ room := by
  unfold bufS; split <;> simp <;> omega
theorem bufR_bd {rate room : Int} {l : List Int} (h1 : 1 ≤ rate) (h2 : 1 ≤ room) (hl : ∀ x ∈ l, Fr7 x) : ∀ k, k ≤ l.length → 0 ≤ (bufR rate room (l.take k)).1 ∧ (bufR rate room (l.take k)).1 ≤ room := by
  intro k
  induction k with
  | zero => intro _; exact ⟨by show 0 ≤ room; omega, Int.le_refl _⟩
  | succ k ih =>
    intro hk
    have e : l[k]? = some l[k] := List.getElem?_eq_getElem (by omega)
    rw [take_snocI e, bufR_snoc]
    exact bufS_bd h1 h2 (ih (by omega)) (hl _ (List.getElem_mem _)).1
def BufOk (l : List Int) (rate room : Int) : Prop := ((∀ x ∈ l, Fr7 x) ∧ l.length ≤ 1000) ∧ (1 ≤ rate ∧ rate ≤ 10000000) ∧ (1 ≤ room ∧ room ≤ 10000000)
open Classical in
noncomputable def bufOf (l : List Int) (rate room : Int) : List Int := if BufOk l rate room then (bufR rate room l).2 else []
theorem buf_yes {l : List Int} {rate room : Int} (h : BufOk l rate room) : bufOf l rate room = (bufR rate room l).2 := if_pos h
theorem buf_no {l : List Int} {rate room : Int} (h : ¬ BufOk l rate room) : bufOf l rate room = [] := if_neg h
theorem buf_len (l : List Int) (rate room : Int) : (bufOf l rate room).length ≤ 1000 := by
  by_cases h : BufOk l rate room
  · rw [buf_yes h]
    have := bufR_len rate room l l.length (Nat.le_refl _)
    rw [List.take_length] at this
    rw [this]; exact h.1.2
  · rw [buf_no h]; simp
/-- the first k are as P says -/
def NsPre (P : Int → Prop) (l : List Int) (k : Nat) : Prop := ∀ j x, j < k → l[j]? = some x → P x
theorem NsPre.zero (P : Int → Prop) (l : List Int) : NsPre P l 0 := fun j x h => by omega
theorem NsPre.step {P : Int → Prop} {l : List Int} {k : Nat} {x : Int} (h : NsPre P l k) (hx : l[k]? = some x) (p : P x) : NsPre P l (k + 1) := by
  intro j y hj hy
  by_cases e : j = k
  · subst e; rw [hx] at hy; injection hy with hy; subst hy; exact p
  · exact h j y (by omega) hy
theorem NsPre.all {P : Int → Prop} {l : List Int} (h : NsPre P l l.length) : ∀ x ∈ l, P x := by
  intro x hx
  obtain ⟨j, hj, e⟩ := List.getElem_of_mem hx
  exact h j x hj (by rw [← e]; exact List.getElem?_eq_getElem hj)
theorem fr7_b (x : Int) : decide (Fr7 x) = (decide (0 ≤ x) && decide (x ≤ 10000000)) := by
  rw [Bool.eq_iff_iff, decide_eq_true_iff]; simp [Fr7]
theorem px8_b (x : Int) (v : Bool) (h : (decide (0 ≤ x) && decide (x ≤ 255)) = v) : v = true ↔ 0 ≤ x ∧ x ≤ 255 := by
  subst h; simp
end Go.Proofs.Ytdppnjafkbopiaa
