/-
  Plain facts on reading boxes from bytes: one function of a list of bytes that tells what is read and where it ends in a fault. No program is named here; no conditions.
-/
import Derived.Test.YtfdbnlmfnhhcbaaOkP
import Derived.Laws.BytesArg
namespace Go.Proofs.Ytfdbnlmfnhhcbaa
open Go.RowKit
set_option linter.unusedVariables false
set_option linter.unusedSimpArgs false

def beL (l : List Int) : Int := l.foldl (fun a c => a * 256 + c) 0
theorem beL_snoc (l : List Int) (c : Int) : beL (l ++ [c]) = beL l * 256 + c := by simp [beL]
theorem beF_bd (l : List Int) : ∀ (a : Int) (m : Nat), 0 ≤ a → a < 256 ^ m → (∀ z ∈ l, 0 ≤ z ∧ z ≤ 255) → 0 ≤ l.foldl (fun a c => a * 256 + c) a ∧ l.foldl (fun a c => a * 256 + c) a < 256 ^ (m + l.length) := by
  induction l with
  | nil => intro a m h0 h1 _; exact ⟨h0, by simpa using h1⟩
  | cons c t ih =>
    intro a m h0 h1 hz
    have h2 := hz c (by simp)
    have h3 := ih (a * 256 + c) (m + 1) (by omega) (by rw [Int.pow_succ]; omega) (fun z hz' => hz z (by simp [hz']))
    rw [List.foldl_cons, List.length_cons, show m + (t.length + 1) = m + 1 + t.length by omega]
    exact h3
theorem beL_bd (l : List Int) (h : ∀ z ∈ l, 0 ≤ z ∧ z ≤ 255) : 0 ≤ beL l ∧ beL l < 256 ^ l.length := by
  have := beF_bd l 0 0 (by omega) (by decide) h
  rw [Nat.zero_add] at this
  exact this
def siz (left : List Int) : Int := beL (left.take 4)
def kindOf (left : List Int) : ByteArray := strOfNums ((left.drop 4).take 4)
theorem siz_bd {left : List Int} (h : ∀ z ∈ left, 0 ≤ z ∧ z ≤ 255) : 0 ≤ siz left ∧ siz left < 4294967296 := by
  have h1 := beL_bd (left.take 4) (fun z hz => h z (List.mem_of_mem_take hz))
  have h2 : (256 : Int) ^ (left.take 4).length ≤ 256 ^ 4 := by
    have : (left.take 4).length ≤ 4 := List.length_take_le _ _
    rcases (show (left.take 4).length = 0 ∨ (left.take 4).length = 1 ∨ (left.take 4).length = 2 ∨ (left.take 4).length = 3 ∨ (left.take 4).length = 4 by omega) with e | e | e | e | e <;> rw [e] <;> decide
  unfold siz
  have h3 : (256 : Int) ^ 4 = 4294967296 := by decide
  omega

/-- what is read so far: the boxes, and how many bytes they hold -/
structure RS where
  l : List Bx
  n : Int
/-- the fault at the head of what is left, or none -/
def headFault (left : List Int) (dep : Int) (s : RS) : Int :=
  if left.length < 8 then 2
  else if siz left < 8 ∨ (left.length : Int) < siz left then 3
  else if kindOk (kindOf left) = false then 4
  else if 8 < dep then 5
  else if s.l.length = 200 ∨ (holds (kindOf left) = false ∧ 20000 < s.n + siz left - 8) then 6
  else 0
def inner (left : List Int) : List Int := (left.take (siz left).toNat).drop 8
def rest (left : List Int) : List Int := left.drop (siz left).toNat
def rdAll : Nat → List Int → Int → Int → RS → RS × Option (Int × Int)
  | 0, _, _, _, s => (s, none)
  | n + 1, left, dep, pos, s =>
    if left = [] then (s, none)
    else if headFault left dep s ≠ 0 then (s, some (headFault left dep s, pos))
    else if holds (kindOf left) = true then
      match rdAll n (inner left) (dep + 1) (pos + 8) ⟨s.l ++ [⟨kindOf left, dep, []⟩], s.n⟩ with
      | (s1, some f) => (s1, some f)
      | (s1, none) => rdAll n (rest left) dep (pos + siz left) s1
    else rdAll n (rest left) dep (pos + siz left) ⟨s.l ++ [⟨kindOf left, dep, inner left⟩], s.n + siz left - 8⟩

theorem rd_nil {n : Nat} {dep pos : Int} {s : RS} : rdAll n [] dep pos s = (s, none) := by
  cases n <;> simp [rdAll]
theorem rd_fault {n : Nat} {left : List Int} {dep pos : Int} {s : RS} (h : 0 < left.length) (hf : headFault left dep s ≠ 0) : rdAll (n + 1) left dep pos s = (s, some (headFault left dep s, pos)) := by
  have : left ≠ [] := by intro e; rw [e] at h; simp at h
  unfold rdAll; rw [if_neg this, if_pos hf]
theorem rd_leaf {n : Nat} {left : List Int} {dep pos : Int} {s : RS} (h : 0 < left.length) (hf : headFault left dep s = 0) (hh : holds (kindOf left) = false) :
    rdAll (n + 1) left dep pos s = rdAll n (rest left) dep (pos + siz left) ⟨s.l ++ [⟨kindOf left, dep, inner left⟩], s.n + siz left - 8⟩ := by
  have : left ≠ [] := by intro e; rw [e] at h; simp at h
  conv => lhs; unfold rdAll
  rw [if_neg this, if_neg (by simp [hf]), if_neg (by simp [hh])]
theorem rd_in_fault {n : Nat} {left : List Int} {dep pos : Int} {s s1 : RS} {f : Int × Int} (h : 0 < left.length) (hf : headFault left dep s = 0) (hh : holds (kindOf left) = true)
    (hi : rdAll n (inner left) (dep + 1) (pos + 8) ⟨s.l ++ [⟨kindOf left, dep, []⟩], s.n⟩ = (s1, some f)) : rdAll (n + 1) left dep pos s = (s1, some f) := by
  have : left ≠ [] := by intro e; rw [e] at h; simp at h
  conv => lhs; unfold rdAll
  rw [if_neg this, if_neg (by simp [hf]), if_pos hh, hi]
theorem rd_in_go {n : Nat} {left : List Int} {dep pos : Int} {s s1 : RS} (h : 0 < left.length) (hf : headFault left dep s = 0) (hh : holds (kindOf left) = true)
    (hi : rdAll n (inner left) (dep + 1) (pos + 8) ⟨s.l ++ [⟨kindOf left, dep, []⟩], s.n⟩ = (s1, none)) : rdAll (n + 1) left dep pos s = rdAll n (rest left) dep (pos + siz left) s1 := by
  have : left ≠ [] := by intro e; rw [e] at h; simp at h
  conv => lhs; unfold rdAll
  rw [if_neg this, if_neg (by simp [hf]), if_pos hh, hi]

/-- no fault at the head: what is known -/
theorem head_ok {left : List Int} {dep : Int} {s : RS} (hf : headFault left dep s = 0) : 8 ≤ left.length ∧ 8 ≤ siz left ∧ siz left ≤ left.length ∧ kindOk (kindOf left) = true ∧ dep ≤ 8 ∧ s.l.length ≠ 200 ∧ (holds (kindOf left) = true ∨ s.n + siz left - 8 ≤ 20000) := by
  unfold headFault at hf
  split at hf
  · omega
  · split at hf
    · omega
    · split at hf
      · omega
      · split at hf
        · omega
        · split at hf
          · omega
          · rename_i h1 h2 h3 h4 h5
            have h2' : ¬ siz left < 8 ∧ ¬ (left.length : Int) < siz left := ⟨fun h => h2 (.inl h), fun h => h2 (.inr h)⟩
            have h5' : ¬ s.l.length = 200 ∧ ¬ (holds (kindOf left) = false ∧ 20000 < s.n + siz left - 8) := ⟨fun h => h5 (.inl h), fun h => h5 (.inr h)⟩
            refine ⟨by omega, by omega, by omega, by simpa using h3, by omega, h5'.1, ?_⟩
            cases hh : holds (kindOf left)
            · right; have := h5'.2; rw [hh] at this; simp at this; omega
            · left; rfl
theorem hf2 {left : List Int} {dep : Int} {s : RS} (h : left.length < 8) : headFault left dep s = 2 := by unfold headFault; rw [if_pos h]
theorem hf3 {left : List Int} {dep : Int} {s : RS} (h0 : 8 ≤ left.length) (h : siz left < 8 ∨ (left.length : Int) < siz left) : headFault left dep s = 3 := by
  unfold headFault; rw [if_neg (by omega), if_pos h]
theorem hf4 {left : List Int} {dep : Int} {s : RS} (h0 : 8 ≤ left.length) (h1 : 8 ≤ siz left) (h2 : siz left ≤ left.length) (h : kindOk (kindOf left) = false) : headFault left dep s = 4 := by
  unfold headFault; rw [if_neg (by omega), if_neg (by omega), if_pos h]
theorem hf5 {left : List Int} {dep : Int} {s : RS} (h0 : 8 ≤ left.length) (h1 : 8 ≤ siz left) (h2 : siz left ≤ left.length) (h3 : kindOk (kindOf left) = true) (h : 8 < dep) : headFault left dep s = 5 := by
  unfold headFault; rw [if_neg (by omega), if_neg (by omega), if_neg (by simp [h3]), if_pos h]
theorem hf6 {left : List Int} {dep : Int} {s : RS} (h0 : 8 ≤ left.length) (h1 : 8 ≤ siz left) (h2 : siz left ≤ left.length) (h3 : kindOk (kindOf left) = true) (h4 : dep ≤ 8) (h : s.l.length = 200 ∨ (holds (kindOf left) = false ∧ 20000 < s.n + siz left - 8)) : headFault left dep s = 6 := by
  unfold headFault; rw [if_neg (by omega), if_neg (by omega), if_neg (by simp [h3]), if_neg (by omega), if_pos h]
theorem hf0 {left : List Int} {dep : Int} {s : RS} (h0 : 8 ≤ left.length) (h1 : 8 ≤ siz left) (h2 : siz left ≤ left.length) (h3 : kindOk (kindOf left) = true) (h4 : dep ≤ 8) (h5 : s.l.length ≠ 200) (h : holds (kindOf left) = true ∨ s.n + siz left - 8 ≤ 20000) : headFault left dep s = 0 := by
  unfold headFault
  rw [if_neg (by omega), if_neg (by omega), if_neg (by simp [h3]), if_neg (by omega), if_neg]
  rintro (h' | ⟨h', h''⟩)
  · exact h5 h'
  · rcases h with h | h
    · rw [h] at h'; cases h'
    · omega
theorem inner_len {left : List Int} (h1 : 8 ≤ siz left) (h2 : siz left ≤ left.length) : ((inner left).length : Int) = siz left - 8 := by
  unfold inner; rw [List.length_drop, List.length_take]; omega
theorem rest_len {left : List Int} (h1 : 8 ≤ siz left) (h2 : siz left ≤ left.length) : ((rest left).length : Int) = left.length - siz left := by
  unfold rest; rw [List.length_drop]; omega
theorem inner_bd {left : List Int} (h : ∀ z ∈ left, 0 ≤ z ∧ z ≤ 255) : ∀ z ∈ inner left, 0 ≤ z ∧ z ≤ 255 := fun z hz => h z (List.mem_of_mem_take (List.mem_of_mem_drop hz))
end Go.Proofs.Ytfdbnlmfnhhcbaa
