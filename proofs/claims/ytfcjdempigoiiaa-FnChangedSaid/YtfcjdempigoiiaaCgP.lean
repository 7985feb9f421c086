/-
  Plain facts: the changes from one cut to another make the other, and turned they take it back; no program is named.
-/
import Derived.Test.YtfcjdempigoiiaaAlP
import Derived.Test.YtfcjdempigoiiaaBkP
namespace Go.Proofs.Ytfcjdempigoiiaa
open Go.RowKit
set_option linter.unusedVariables false
set_option linter.unusedSimpArgs false

theorem pfx_has (l m : List Kl) (n : Nat) : ∃ k, IsPfx l m n k := by
  induction n with
  | zero => exact ⟨0, by omega, by omega, fun i h1 h2 => by omega, fun h => by omega⟩
  | succ n ih =>
    obtain ⟨k, a1, a2, a3, a4⟩ := ih
    by_cases hk : k < (n : Int)
    · exact ⟨k, a1, by omega, a3, fun _ => a4 hk⟩
    · have e : k = n := by omega
      subst e
      by_cases hs : seen l n = seen m n
      · refine ⟨n + 1, by omega, by omega, fun i h1 h2 => ?_, fun h => by omega⟩
        rcases Int.lt_or_le i n with h | h
        · exact a3 i h1 h
        · rw [show i = n by omega]; exact hs
      · exact ⟨n, by omega, by omega, a3, fun _ => hs⟩
theorem pfx_ex (l m : List Kl) {most : Int} (h : 0 ≤ most) : ∃ k, IsPfx l m most k := by
  obtain ⟨n, rfl⟩ : ∃ n : Nat, most = n := ⟨most.toNat, by omega⟩
  exact pfx_has l m n

/-- a frame of a source seen from its end -/
def mirS (x : Int × Int) : Int × Int := if x.1 = 0 then (0, 0) else (x.1, 9999999 - x.2)
theorem mirS_sv (c : Kl) (i : Int) : sv (mirK c) i = mirS (sv c (c.2.2 - 1 - i)) := by
  unfold sv mirK mirS
  by_cases h : c.1 = 0
  · simp [h]
  · simp [h]; omega
theorem seen_mir {l : List Kl} (hl : AOk l) {i : Int} (h0 : 0 ≤ i) (h1 : i < clen l) : seen (mir l) i = mirS (seen l (clen l - 1 - i)) := by
  induction l generalizing i with
  | nil => simp only [clen] at h1; omega
  | cons c l ih =>
    have e : mir (c :: l) = mir l ++ [mirK c] := by simp [mir]
    have hA : AOk l := hl.tail
    simp only [clen] at h1 ⊢
    rw [e, seen_append (mir_ok hA).nn h0, clen_mir]
    split
    · rename_i h
      rw [ih hA h0 h, seen_ge (by omega)]
      congr 2; omega
    · rename_i h
      rw [seen_lt (by simp only [mirK]; omega), seen_lt (by omega), mirS_sv]
      congr 2; omega
theorem seen_form {l : List Kl} (hl : AOk l) {i : Int} (h0 : 0 ≤ i) (h1 : i < clen l) : (seen l i).1 = 0 → seen l i = (0, 0) := by
  induction l generalizing i with
  | nil => simp only [clen] at h1; omega
  | cons c l ih =>
    simp only [clen] at h1
    by_cases h : i < c.2.2
    · rw [seen_lt h]
      unfold sv
      by_cases hc : c.1 = 0
      · simp [hc]
      · simp [hc]
    · rw [seen_ge h]
      exact ih hl.tail (by omega) (by omega)
theorem mirS_inj {x y : Int × Int} (hx : x.1 = 0 → x = (0, 0)) (hy : y.1 = 0 → y = (0, 0)) (h : mirS x = mirS y) : x = y := by
  unfold mirS at h
  obtain ⟨x1, x2⟩ := x
  obtain ⟨y1, y2⟩ := y
  simp only at hx hy h
  by_cases h1 : x1 = 0
  · rw [if_pos h1] at h
    by_cases h2 : y1 = 0
    · rw [hx h1, hy h2]
    · rw [if_neg h2] at h
      injection h with h3 _
      exact absurd h3.symm h2
  · rw [if_neg h1] at h
    by_cases h2 : y1 = 0
    · rw [if_pos h2] at h
      injection h with h3 _
      exact absurd h3 h1
    · rw [if_neg h2] at h
      injection h with h3 h4
      rw [h3, show x2 = y2 by omega]
theorem ends_alike {l m : List Kl} (hl : AOk l) (hm : AOk m) {most q : Int} (h : IsPfx (mir l) (mir m) most q) (h1 : most ≤ clen l) (h2 : most ≤ clen m) {j : Int} (hj : 0 ≤ j) (hq : j < q) : seen l (clen l - 1 - j) = seen m (clen m - 1 - j) := by
  obtain ⟨a1, a2, a3, a4⟩ := h
  have e := a3 j hj hq
  rw [seen_mir hl hj (by omega), seen_mir hm hj (by omega)] at e
  exact mirS_inj (seen_form hl (by omega) (by omega)) (seen_form hm (by omega) (by omega)) e
theorem part_zero {l : List Kl} (hl : AOk l) {a : Int} (h0 : 0 ≤ a) : part l a (a + 0) = [] := by
  have h := clen_ge (part_ok hl a (a + 0))
  rw [clen_part hl] at h
  have : (part l a (a + 0)).length = 0 := by omega
  exact List.length_eq_zero_iff.1 this
theorem mkR_keep {l : List Kl} (hl : AOk l) {o n : Int} (h0 : 0 ≤ o) : mkR l o (frs 1 n) = part l o (o + n) := by
  unfold frs
  by_cases h : n = 0
  · rw [if_pos h, h, part_zero hl h0]; rfl
  · rw [if_neg h]; simp [mkR, mk1]
theorem mkR_drop (l : List Kl) (o n : Int) : mkR l o (frs 2 n) = [] := by
  unfold frs
  by_cases h : n = 0
  · rw [if_pos h]; rfl
  · rw [if_neg h]; simp [mkR, mk1]
theorem old_frs {k n : Int} (hk : k = 1 ∨ k = 2) : oldL (frs k n) = n := by
  unfold frs
  by_cases h : n = 0
  · rw [if_pos h, h]; rfl
  · rw [if_neg h]
    simp only [oldL, oldC]
    rw [if_neg (by omega)]
    omega
theorem frs_ok {k n : Int} (hk : k = 1 ∨ k = 2) (h0 : 0 ≤ n) (h1 : n ≤ 10000000) : ∀ c ∈ frs k n, HOk c := by
  intro c hc
  unfold frs at hc
  split at hc
  · simp at hc
  · simp at hc
    subst hc
    exact .inl ⟨hk, rfl, rfl, by simp only; omega, by simp only; omega⟩

/-- what the changes are made of, and what they make -/
theorem changes_make {l m : List Kl} (hl : TOk l) (hm : TOk m) : (∀ c ∈ changesOf l m, HOk c) ∧ oldL (changesOf l m) = clen l ∧ clen (mkR l 0 (changesOf l m)) = clen m ∧ ∀ i, 0 ≤ i → i < clen m → seen m i = seen (mkR l 0 (changesOf l m)) i := by
  have n1 := clen_nonneg hl.2.1
  have n2 := clen_nonneg hm.2.1
  have b1 := hl.2.2
  have b2 := hm.2.2
  obtain ⟨p, hp⟩ := pfx_ex l m (most := min (clen l) (clen m)) (by omega)
  have p0 := hp.1
  have p1 := hp.2.1
  obtain ⟨q, hq⟩ := pfx_ex (mir l) (mir m) (most := min (clen l) (clen m) - p) (by omega)
  have q0 := hq.1
  have q1 := hq.2.1
  rw [changes_yes ⟨hl, hm⟩ hp hq]
  have hJ : AOk (join (part m p (clen m - q))) := foldl_ok AOk.nil (part_ok hm.2.1 _ _) (by rw [clen_part hm.2.1]; simp only [clen]; omega)
  have eM : mkR l 0 (frs 1 p ++ frs 2 (clen l - p - q) ++ adds (join (part m p (clen m - q))) ++ frs 1 q) = part l 0 p ++ (join (part m p (clen m - q)) ++ part l (clen l - q) (clen l)) := by
    rw [mkR_append, mkR_append, mkR_append, mkR_keep hl.2.1 (by omega), mkR_drop, mkR_adds, mkR_keep hl.2.1 (by rw [oldL_append, oldL_append, old_frs (.inl rfl), old_frs (.inr rfl), old_adds]; omega)]
    rw [oldL_append, oldL_append, old_frs (.inl rfl), old_frs (.inr rfl), old_adds]
    rw [show 0 + (p + (clen l - p - q) + 0) = clen l - q by omega, show clen l - q + q = clen l by omega, Int.zero_add]
    simp
  have cA : clen (part l 0 p) = p := by rw [clen_part hl.2.1]; omega
  have cJ : clen (join (part m p (clen m - q))) = clen m - q - p := by rw [clen_join, clen_part hm.2.1]; omega
  have cQ : clen (part l (clen l - q) (clen l)) = q := by rw [clen_part hl.2.1]; omega
  refine ⟨?_, ?_, ?_, ?_⟩
  · intro c hc
    rw [List.mem_append, List.mem_append, List.mem_append] at hc
    rcases hc with ((hc | hc) | hc) | hc
    · exact frs_ok (.inl rfl) (by omega) (by omega) c hc
    · exact frs_ok (.inr rfl) (by omega) (by omega) c hc
    · exact adds_ok hJ c hc
    · exact frs_ok (.inl rfl) (by omega) (by omega) c hc
  · rw [oldL_append, oldL_append, oldL_append, old_frs (.inl rfl), old_frs (.inr rfl), old_adds, old_frs (.inl rfl)]
    omega
  · rw [eM, clen_append, clen_append]
    omega
  · intro i h0 h1
    rw [eM, seen_append (part_ok hl.2.1 _ _).nn h0, cA]
    split
    · rename_i h
      rw [seen_part hl.2.1 h0 (by omega), show max (0 : Int) 0 + i = i by omega]
      exact (hp.2.2.1 i h0 h).symm
    · rename_i h
      rw [seen_append hJ.nn (by omega), cJ]
      split
      · rename_i h2
        rw [seen_join (part_ok hm.2.1 _ _).nn (by omega), seen_part hm.2.1 (by omega) (by omega)]
        congr 1; omega
      · rename_i h2
        rw [seen_part hl.2.1 (by omega) (by omega)]
        have e := ends_alike hl.2.1 hm.2.1 hq (by omega) (by omega) (j := clen m - 1 - i) (by omega) (by omega)
        rw [show clen m - 1 - (clen m - 1 - i) = i by omega] at e
        rw [← e]
        congr 1; omega

/-- the changes make the other cut -/
theorem changed_makes {l m : List Kl} (hl : TOk l) (hm : TOk m) (hlen : (changesOf l m).length ≤ 300) : applyOf l (changesOf l m) = some (join m) := by
  obtain ⟨h1, h2, h3, h4⟩ := changes_make hl hm
  have hM := mkR_ok hl.2.1 h1 0
  rw [apply_yes ⟨hl, ⟨hlen, h1⟩, h2⟩, made_all]
  have hj : AOk (join (mkR l 0 (changesOf l m))) := foldl_ok AOk.nil hM (by have := hm.2.2; simp only [clen]; omega)
  have e : join (mkR l 0 (changesOf l m)) = join m := sees_join hM hm.2.1 hj (join_tok hm).2.1 h3 (fun i h0 h9 => (h4 i h0 (by omega)).symm)
  rw [edit_yes hM (by rw [e]; exact join_tok hm), e]
/-- turned they take it back -/
theorem changed_back {l m : List Kl} (hl : TOk l) (hm : TOk m) (hlen : (changesOf l m).length ≤ 300) (ht : (tnUp l (changesOf l m) (changesOf l m).length).length ≤ 300) : applyOf m (tnUp l (changesOf l m) (changesOf l m).length) = some (join l) := by
  obtain ⟨h1, h2, h3, h4⟩ := changes_make hl hm
  exact turned_back hl hm ⟨hlen, h1⟩ h2 h3 h4 ht

end Go.Proofs.Ytfcjdempigoiiaa
