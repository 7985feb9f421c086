/-
  Plain facts: a frame that is kept is where Shift says.
-/
import Derived.Test.YtfcjdempigoiiaaCgP
import Derived.Test.YtfcjdempigoiiaaShf
namespace Go.Proofs.Ytfcjdempigoiiaa
open Go.RowKit
set_option linter.unusedVariables false
set_option linter.unusedSimpArgs false

theorem clen_mkR {l : List Kl} (hl : AOk l) : ∀ (cs : List Ch) (o : Int), (∀ c ∈ cs, HOk c) → 0 ≤ o → o + oldL cs ≤ clen l → clen (mkR l o cs) = newL cs := by
  intro cs
  induction cs with
  | nil => intro o _ _ _; rfl
  | cons c cs ih =>
    intro o hH h0 hle
    have hc := hH c List.mem_cons_self
    have hcs : ∀ c ∈ cs, HOk c := fun x hx => hH x (List.mem_cons_of_mem _ hx)
    obtain ⟨nn1, nn2⟩ := old_nn hcs
    obtain ⟨u1, u2⟩ := hc.len
    simp only [oldL] at hle
    have hoc : 0 ≤ oldC c := by unfold oldC; split <;> omega
    have hI := ih (o + oldC c) hcs (by omega) (by omega)
    show clen (mk1 l o c ++ mkR l (o + oldC c) cs) = newC c + newL cs
    rw [clen_append, hI]
    congr 1
    rcases hc with ⟨h1 | h1, _⟩ | ⟨h1, hk⟩
    · have e1 : oldC c = c.2.2.2 := by unfold oldC; rw [if_neg (by omega)]
      unfold mk1 newC
      rw [if_pos h1, if_neg (by omega), clen_part hl]
      omega
    · unfold mk1 newC
      rw [if_neg (by omega), if_neg (by omega), if_pos h1]
      rfl
    · unfold mk1 newC
      rw [if_neg (by omega), if_pos h1, if_neg (by omega)]
      simp [clen]

/-- a frame that Shift finds is seen there in what the changes make -/
theorem shift_sees {l : List Kl} (hl : AOk l) {cs : List Ch} {p : Int} (ho : oldL cs ≤ clen l) (hk : 0 ≤ shiftOf cs p) : shiftOf cs p < newL cs ∧ seen l p = seen (mkR l 0 cs) (shiftOf cs p) := by
  by_cases h0 : LOk cs ∧ 0 ≤ p
  case neg => rw [shift_bad h0] at hk; omega
  cases hf : (List.range cs.length).find? (hit cs p) with
  | none =>
    have : shiftOf cs p = -1 := by unfold shiftOf; rw [if_pos h0, hf]
    omega
  | some j =>
    have hsv : shiftOf cs p = shVal cs p j := by unfold shiftOf; rw [if_pos h0, hf]
    rw [List.find?_range_eq_some] at hf
    obtain ⟨hh, hj, hn⟩ := hf
    have hj' : j < cs.length := List.mem_range.1 hj
    have hjc := chAt_get (l := cs) (k := j) hj'
    have hold : ∀ i, i ≤ j → oldL (cs.take i) ≤ p := by
      intro i
      induction i with
      | zero => intro _; simp [oldL]; exact h0.2
      | succ i ih =>
        intro hi
        have h1 := ih (by omega)
        have h2 := hn i (by omega)
        have hc := chAt_get (l := cs) (k := i) (by omega)
        rw [take_snocC hc, oldL_append]
        simp only [oldL]
        unfold hit at h2
        unfold oldC
        split
        · omega
        · rename_i h3
          simp [h3] at h2
          omega
    have hop := hold j (Nat.le_refl _)
    rw [hsv] at hk ⊢
    have hcO := h0.1.2 _ (List.mem_of_getElem? hjc)
    obtain ⟨c, hc⟩ : ∃ c, chAt cs j = c := ⟨_, rfl⟩
    rw [hc] at hcO hjc
    unfold shVal at hk ⊢
    unfold hit at hh
    rw [hc] at hk hh ⊢
    simp only [Bool.and_eq_true, decide_eq_true_eq] at hh
    obtain ⟨h3, hlt⟩ := hh
    have h2 : c.1 ≠ 2 := fun e => by rw [if_pos e] at hk; omega
    rw [if_neg h2] at hk ⊢
    have h1 : c.1 = 1 := by
      rcases hcO with ⟨h | h, _⟩ | ⟨h, _⟩
      · exact h
      · exact absurd h h2
      · exact absurd h h3
    obtain ⟨u1, u2⟩ := hcO.len
    have hsp : cs = cs.take j ++ c :: cs.drop (j + 1) := by
      have := List.take_append_drop (j + 1) cs
      rw [take_snocC hjc, List.append_assoc] at this
      exact this.symm
    have hT : ∀ x ∈ cs.take j, HOk x := fun x hx => h0.1.2 x (List.mem_of_mem_take hx)
    have hR : ∀ x ∈ cs.drop (j + 1), HOk x := fun x hx => h0.1.2 x (List.mem_of_mem_drop hx)
    obtain ⟨t1, t2⟩ := old_nn hT
    obtain ⟨r1, r2⟩ := old_nn hR
    have eo : oldL cs = oldL (cs.take j) + (c.2.2.2 + oldL (cs.drop (j + 1))) := by
      conv => lhs; rw [hsp]
      rw [oldL_append]
      simp only [oldL, oldC]
      rw [if_neg h3]
    have en : newL cs = newL (cs.take j) + (c.2.2.2 + newL (cs.drop (j + 1))) := by
      conv => lhs; rw [hsp]
      rw [newL_append]
      simp only [newL, newC]
      rw [if_neg h2]
    have cT := clen_mkR hl (cs.take j) 0 hT (by omega) (by omega)
    have eM : mkR l 0 cs = mkR l 0 (cs.take j) ++ (part l (oldL (cs.take j)) (oldL (cs.take j) + c.2.2.2) ++ mkR l (0 + oldL (cs.take j) + oldC c) (cs.drop (j + 1))) := by
      conv => lhs; rw [hsp]
      rw [mkR_append]
      congr 1
      show mk1 l (0 + oldL (cs.take j)) c ++ _ = _
      unfold mk1
      rw [if_pos h1, Int.zero_add]
    refine ⟨by omega, ?_⟩
    rw [eM, seen_append (mkR_ok hl hT 0).nn hk, cT, if_neg (by omega), seen_append (part_ok hl _ _).nn (by omega), if_pos (by rw [clen_part hl]; omega), seen_part hl (by omega) (by omega)]
    congr 1
    omega

/-- frames of the one cut are in the other where Shift of the changes says -/
theorem changed_shift {l m : List Kl} (hl : TOk l) (hm : TOk m) {p : Int} (hk : 0 ≤ shiftOf (changesOf l m) p) : frameAt m (shiftOf (changesOf l m) p) = seen l p := by
  obtain ⟨h1, h2, h3, h4⟩ := changes_make hl hm
  obtain ⟨s1, s2⟩ := shift_sees hl.2.1 (by omega) hk
  have := clen_mkR hl.2.1 (changesOf l m) 0 h1 (by omega) (by omega)
  rw [frameAt_yes hm hk, s2, h4 _ hk (by omega)]

end Go.Proofs.Ytfcjdempigoiiaa
