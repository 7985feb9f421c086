/-
  How many names are sent and go, each way, as plain values; no conditions.
-/
import Derived.Test.YtcgdcabmjihijaaUpP
namespace Go.Proofs.Ytcgdcabmjihijaa
open Go.RowKit
set_option linter.unusedVariables false
set_option linter.unusedSimpArgs false

theorem nodup_sub_len : ∀ {A B : List ByteArray}, A.Nodup → (∀ x ∈ A, x ∈ B) → A.length ≤ B.length
  | [], _, _, _ => by simp
  | a :: A, B, hn, hs => by
    obtain ⟨B1, B2, rfl⟩ := List.append_of_mem (hs a (List.mem_cons_self ..))
    have hn' := List.nodup_cons.1 hn
    have := nodup_sub_len (A := A) (B := B1 ++ B2) hn'.2 (fun x hx => by
      have h1 := hs x (List.mem_cons_of_mem _ hx)
      have hne : x ≠ a := fun e => hn'.1 (e ▸ hx)
      simp only [List.mem_append, List.mem_cons] at h1 ⊢
      rcases h1 with h1 | h1 | h1
      · exact .inl h1
      · exact absurd h1 hne
      · exact .inr h1)
    simp only [List.length_append, List.length_cons] at this ⊢
    omega
theorem hasN_iff {l : List Kl} {s : ByteArray} : hasN l s = true ↔ ∃ y ∈ l, y.1 = s := by
  unfold hasN; rw [List.any_eq_true]
  constructor
  · rintro ⟨y, hy, h⟩; exact ⟨y, hy, nmEq h⟩
  · rintro ⟨y, hy, h⟩; exact ⟨y, hy, by rw [h]; simp⟩
theorem hasK_iff {l : List Kl} {x : Kl} : hasK l x = true ↔ x ∈ l := by
  unfold hasK; rw [List.any_eq_true]
  constructor
  · rintro ⟨y, hy, h⟩; have := kEq_iff.1 h; subst this; exact hy
  · intro h; exact ⟨x, h, kEq_iff.2 rfl⟩
theorem same_of {l : List Kl} (hp : pOk l = true) {x y : Kl} (hx : x ∈ l) (hy : y ∈ l) (he : x.1 = y.1) : x = y := by
  obtain ⟨i, hi⟩ := List.getElem?_of_mem hx
  obtain ⟨j, hj⟩ := List.getElem?_of_mem hy
  have := distinct hp hi hj he
  subst this
  rw [hi] at hj; injection hj
theorem names_nodup {l : List Kl} (hp : pOk l = true) (p : Kl → Bool) : ((l.filter p).map (·.1)).Nodup := by
  have h0 : (l.map (·.1)).Nodup := by
    rw [List.nodup_iff_pairwise_ne, List.pairwise_iff_getElem]
    intro i j hi hj hij he
    simp only [List.length_map] at hi hj
    simp only [List.getElem_map] at he
    have := distinct hp (List.getElem?_eq_getElem hi) (List.getElem?_eq_getElem hj) he
    omega
  exact h0.sublist ((List.filter_sublist).map _)
/-- in both, but not the same -/
def difL (o n : List Kl) : List Kl := n.filter fun x => !hasK o x && hasN o x.1
theorem mem_dif {o n : List Kl} {x : Kl} : x ∈ difL o n ↔ x ∈ n ∧ ¬ x ∈ o ∧ ∃ y ∈ o, y.1 = x.1 := by
  unfold difL
  rw [List.mem_filter, Bool.and_eq_true, Bool.not_eq_true', hasN_iff]
  constructor
  · rintro ⟨h1, h2, h3⟩; exact ⟨h1, (fun h => by rw [hasK_iff.2 h] at h2; cases h2), h3⟩
  · rintro ⟨h1, h2, h3⟩; exact ⟨h1, by cases h : hasK o x with
      | false => rfl
      | true => exact absurd (hasK_iff.1 h) h2, h3⟩
theorem dif_le {o n : List Kl} (ho : pOk o = true) (hn : pOk n = true) : (difL o n).length ≤ (difL n o).length := by
  have := nodup_sub_len (A := (difL o n).map (·.1)) (B := (difL n o).map (·.1)) (names_nodup hn _) (fun s hs => by
    obtain ⟨x, hx, rfl⟩ := List.mem_map.1 hs
    obtain ⟨h1, h2, y, h3, h4⟩ := mem_dif.1 hx
    refine List.mem_map.2 ⟨y, mem_dif.2 ⟨h3, fun h => h2 ?_, x, h1, h4.symm⟩, h4⟩
    rw [← same_of hn h h1 h4]; exact h3)
  simpa using this
theorem dif_eq {o n : List Kl} (ho : pOk o = true) (hn : pOk n = true) : (difL o n).length = (difL n o).length := Nat.le_antisymm (dif_le ho hn) (dif_le hn ho)
theorem send_eq (o n : List Kl) : (sendL o n).length = (difL o n).length + (goneL n o).length := by
  unfold sendL goneL difL
  rw [List.length_map, List.length_map]
  induction n with
  | nil => rfl
  | cons x n ih =>
    have hk : hasN o x.1 = false → hasK o x = false := fnd_no
    cases h1 : hasK o x <;> cases h2 : hasN o x.1
    · simp [List.filter_cons, h1, h2]; omega
    · simp [List.filter_cons, h1, h2]; omega
    · rw [hk h2] at h1; cases h1
    · simp [List.filter_cons, h1, h2]; omega
theorem com_le {o n : List Kl} (ho : pOk o = true) : (o.filter fun x => hasN n x.1).length ≤ (n.filter fun x => hasN o x.1).length := by
  have := nodup_sub_len (A := (o.filter fun x => hasN n x.1).map (·.1)) (B := (n.filter fun x => hasN o x.1).map (·.1)) (names_nodup ho _) (fun s hs => by
    obtain ⟨x, hx, rfl⟩ := List.mem_map.1 hs
    obtain ⟨h1, h2⟩ := List.mem_filter.1 hx
    obtain ⟨y, h3, h4⟩ := hasN_iff.1 h2
    exact List.mem_map.2 ⟨y, List.mem_filter.2 ⟨h3, hasN_iff.2 ⟨x, h1, h4.symm⟩⟩, h4⟩)
  simpa using this
theorem gone_com (o n : List Kl) : o.length = (o.filter fun x => hasN n x.1).length + (goneL o n).length := by
  unfold goneL
  rw [List.length_map]
  induction o with
  | nil => rfl
  | cons x o ih => cases h : hasN n x.1 <;> simp [List.filter_cons, h] <;> omega
/-- how often one list's name is the other's -/
def occ (B : List ByteArray) (s : ByteArray) : Nat := (B.filter fun r => s.toList == r.toList).length
def bothN (A B : List ByteArray) : Nat := (A.map (occ B)).sum
theorem occ_one : ∀ {B : List ByteArray} {s : ByteArray}, B.Nodup → s ∈ B → occ B s = 1
  | r :: B, s, hn, hs => by
    have hn' := List.nodup_cons.1 hn
    by_cases e : s = r
    · subst e
      have h0 : (B.filter fun r => s.toList == r.toList) = [] := by
        rw [List.filter_eq_nil_iff]
        intro x hx h
        exact hn'.1 (nmEq h ▸ hx)
      simp [occ, List.filter_cons, h0]
    · have h1 : (s.toList == r.toList) = false := by
        cases h : s.toList == r.toList with
        | false => rfl
        | true => exact absurd (nmEq h) e
      have : s ∈ B := by rcases List.mem_cons.1 hs with h | h; exact absurd h e; exact h
      have ih := occ_one hn'.2 this
      unfold occ at ih ⊢
      rw [List.filter_cons, h1]; simpa using ih
theorem occ_none {B : List ByteArray} {s : ByteArray} (h : ¬ s ∈ B) : occ B s = 0 := by
  unfold occ
  rw [List.length_eq_zero_iff, List.filter_eq_nil_iff]
  intro x hx e
  exact h (nmEq e ▸ hx)
theorem mem_send {o n : List Kl} {s : ByteArray} : s ∈ sendL o n ↔ ∃ x ∈ n, ¬ x ∈ o ∧ x.1 = s := by
  unfold sendL
  rw [List.mem_map]
  constructor
  · rintro ⟨x, hx, rfl⟩
    obtain ⟨h1, h2⟩ := List.mem_filter.1 hx
    exact ⟨x, h1, (fun h => by rw [hasK_iff.2 h] at h2; cases h2), rfl⟩
  · rintro ⟨x, h1, h2, rfl⟩
    refine ⟨x, List.mem_filter.2 ⟨h1, ?_⟩, rfl⟩
    cases h : hasK o x with
    | false => rfl
    | true => exact absurd (hasK_iff.1 h) h2
theorem both_sum {a b : List Kl} (ha : pOk a = true) (hb : pOk b = true) : ∀ (m : List Kl), (∀ x ∈ m, x ∈ b) → ((sendL a m).map (occ (sendL b a))).sum = (difL a m).length
  | [], _ => rfl
  | x :: m, hm => by
    have ih := both_sum ha hb m (fun y hy => hm y (List.mem_cons_of_mem _ hy))
    have hx := hm x (List.mem_cons_self ..)
    cases h1 : hasK a x with
    | true =>
      have e1 : sendL a (x :: m) = sendL a m := by simp [sendL, List.filter_cons, h1]
      have e2 : difL a (x :: m) = difL a m := by simp [difL, List.filter_cons, h1]
      rw [e1, e2]; exact ih
    | false =>
      have hxa : ¬ x ∈ a := fun h => by rw [hasK_iff.2 h] at h1; cases h1
      have e1 : sendL a (x :: m) = x.1 :: sendL a m := by simp [sendL, List.filter_cons, h1]
      cases h2 : hasN a x.1 with
      | true =>
        have e2 : difL a (x :: m) = x :: difL a m := by simp [difL, List.filter_cons, h1, h2]
        obtain ⟨y, h3, h4⟩ := hasN_iff.1 h2
        have : occ (sendL b a) x.1 = 1 := occ_one (names_nodup ha _) (mem_send.2 ⟨y, h3, fun h => hxa (by rw [← same_of hb h hx h4]; exact h3), h4⟩)
        rw [e1, e2, List.map_cons, List.sum_cons, ih, this, List.length_cons]; omega
      | false =>
        have e2 : difL a (x :: m) = difL a m := by simp [difL, List.filter_cons, h1, h2]
        have : occ (sendL b a) x.1 = 0 := occ_none (fun h => by
          obtain ⟨y, h3, _, h4⟩ := mem_send.1 h
          rw [hasN_iff.2 ⟨y, h3, h4⟩] at h2; cases h2)
        rw [e1, e2, List.map_cons, List.sum_cons, ih, this]; omega
/-- what FnUpdated asks -/
theorem counts {a b : List Kl} (ha : pOk a = true) (hb : pOk b = true) :
    (a.length : Int) - (goneL a b).length = b.length - (goneL b a).length ∧ ((sendL a b).length : Int) = bothN (sendL a b) (sendL b a) + (goneL b a).length ∧ ((sendL b a).length : Int) = bothN (sendL a b) (sendL b a) + (goneL a b).length := by
  have h1 := gone_com a b
  have h2 := gone_com b a
  have h3 := com_le (n := b) ha
  have h4 := com_le (n := a) hb
  have h5 := send_eq a b
  have h6 := send_eq b a
  have h7 := dif_eq ha hb
  have h8 : bothN (sendL a b) (sendL b a) = (difL a b).length := both_sum ha hb b (fun _ h => h)
  omega

end Go.Proofs.Ytcgdcabmjihijaa
