/-
  Plain facts: frames alike at the beginning, counted by the pieces that lie in one clip of each list.
-/
import Derived.Test.YtfcjdempigoiiaaPlc
namespace Go.Proofs.Ytfcjdempigoiiaa
open Go.RowKit
set_option linter.unusedVariables false
set_option linter.unusedSimpArgs false

/-- where clip x begins -/
def bgAt (l : List Kl) (x : Nat) : Int := clen (l.take x)
/-- the other list's pieces that lie at clip x -/
def pcs (l m : List Kl) (x : Nat) : List Kl := part m (bgAt l x) (bgAt l x + (kAt l x).2.2)
def ptOf (c : Kl) (f n : Int) : Kl := (c.1, if c.1 = 0 then 0 else c.2.1 + f, n)
/-- piece y at clip x is what the clip shows there -/
def Eqp (l m : List Kl) (x y : Nat) : Prop := kAt (pcs l m x) y = ptOf (kAt l x) (clen ((pcs l m x).take y)) (kAt (pcs l m x) y).2.2
def sumC (l m : List Kl) (k : Nat) : Int := ((List.range k).map (fun x => clen (pcs l m x))).sum
theorem sumC_succ (l m : List Kl) (k : Nat) : sumC l m (k + 1) = sumC l m k + clen (pcs l m k) := by
  unfold sumC; rw [List.range_succ, List.map_append, List.sum_append]; simp
theorem bgAt_succ {l : List Kl} {x : Nat} (h : x < l.length) : bgAt l (x + 1) = bgAt l x + (kAt l x).2.2 := by
  unfold bgAt; rw [clen_take (kAt_get h)]
theorem kAt_ok {l : List Kl} (h : AOk l) {x : Nat} (hx : x < l.length) : COk (kAt l x) := h _ (List.mem_of_getElem? (kAt_get hx))
theorem bgAt_nn {l : List Kl} (h : AOk l) (x : Nat) : 0 ≤ bgAt l x := clen_nonneg (h.take x)
theorem pcs_clen {l m : List Kl} (hl : AOk l) (hm : AOk m) {x : Nat} (hx : x < l.length) : clen (pcs l m x) = max 0 (min (bgAt l (x + 1)) (clen m) - bgAt l x) := by
  unfold pcs
  rw [clen_part hm, ← bgAt_succ hx]
  have := bgAt_nn hl x
  omega
theorem sumC_eq {l m : List Kl} (hl : AOk l) (hm : AOk m) {k : Nat} (hk : k ≤ l.length) : sumC l m k = min (bgAt l k) (clen m) := by
  induction k with
  | zero => have := clen_nonneg hm; simp [sumC, bgAt, clen]; omega
  | succ k ih =>
    rw [sumC_succ, ih (by omega), pcs_clen hl hm (by omega), bgAt_succ (by omega)]
    have := bgAt_nn hl k
    have := (kAt_ok hl (show k < l.length by omega)).1
    have := clen_nonneg hm
    omega
theorem piece_ex {P : List Kl} (hP : AOk P) {e : Int} (h0 : 0 ≤ e) {j : Nat} (hj : j ≤ P.length) (h1 : e < clen (P.take j)) : ∃ y, y < j ∧ clen (P.take y) ≤ e ∧ e < clen (P.take y) + (kAt P y).2.2 := by
  induction j with
  | zero => simp [clen] at h1; omega
  | succ j ih =>
    by_cases hlt : e < clen (P.take j)
    · obtain ⟨y, hy, h⟩ := ih (by omega) hlt
      exact ⟨y, by omega, h⟩
    · rw [clen_take (kAt_get (show j < P.length by omega))] at h1
      exact ⟨j, by omega, by omega, h1⟩
theorem sv_ptOf (c : Kl) (f n d : Int) : sv (ptOf c f n) d = sv c (f + d) := by
  unfold sv ptOf
  by_cases h : c.1 = 0
  · simp [h]
  · simp [h]; omega
theorem pcs_in {l m : List Kl} (hl : AOk l) (hm : AOk m) {x : Nat} (hx : x < l.length) {e : Int} (h0 : 0 ≤ e) (h1 : e < clen (pcs l m x)) : seen (pcs l m x) e = seen m (bgAt l x + e) ∧ seen l (bgAt l x + e) = sv (kAt l x) e ∧ bgAt l x + e < clen m ∧ bgAt l x + e < clen l := by
  have hc := pcs_clen hl hm hx
  have hb := bgAt_nn hl x
  have hs := bgAt_succ hx
  have hle := clen_take_le hl (x + 1)
  have hse : bgAt l (x + 1) ≤ clen l := hle
  refine ⟨?_, ?_, by omega, by omega⟩
  · have := seen_part hm (a := bgAt l x) (b := bgAt l x + (kAt l x).2.2) (i := e) h0 (by omega)
    unfold pcs
    rw [this]
    congr 1
    omega
  · exact seen_at hl (kAt_get hx) h0 (by omega)
theorem pcs_alike {l m : List Kl} (hl : AOk l) (hm : AOk m) {x j : Nat} (hx : x < l.length) (hj : j ≤ (pcs l m x).length) (h : ∀ y, y < j → Eqp l m x y) {e : Int} (h0 : 0 ≤ e) (h1 : e < clen ((pcs l m x).take j)) : seen l (bgAt l x + e) = seen m (bgAt l x + e) := by
  have hP : AOk (pcs l m x) := part_ok hm _ _
  obtain ⟨y, hy, h2, h3⟩ := piece_ex hP h0 hj h1
  have hle := clen_take_le hP j
  obtain ⟨e1, e2, _, _⟩ := pcs_in hl hm hx h0 (by omega)
  have e3 := seen_at hP (kAt_get (show y < (pcs l m x).length by omega)) (e := e - clen ((pcs l m x).take y)) (by omega) (by omega)
  have e4 : clen ((pcs l m x).take y) + (e - clen ((pcs l m x).take y)) = e := by omega
  rw [e4] at e3
  rw [← e1, e2, e3, h y hy, sv_ptOf]
  congr 1
  omega
theorem bg_pre {l m : List Kl} (hl : AOk l) (hm : AOk m) {k : Nat} (hk : k ≤ l.length) (h : ∀ x, x < k → ∀ y, y < (pcs l m x).length → Eqp l m x y) {f : Int} (h0 : 0 ≤ f) (h1 : f < min (bgAt l k) (clen m)) : seen l f = seen m f := by
  induction k with
  | zero => simp [bgAt, clen] at h1; omega
  | succ k ih =>
    by_cases hlt : f < bgAt l k
    · exact ih (by omega) (fun x hx => h x (by omega)) (by omega)
    · have hx : k < l.length := by omega
      have hc := pcs_clen hl hm hx
      have := pcs_alike hl hm hx (Nat.le_refl _) (h k (by omega)) (e := f - bgAt l k) (by omega) (by rw [List.take_length]; omega)
      have e4 : bgAt l k + (f - bgAt l k) = f := by omega
      rwa [e4] at this
theorem bg_done {l m : List Kl} (hl : AOk l) (hm : AOk m) (h : ∀ x, x < l.length → ∀ y, y < (pcs l m x).length → Eqp l m x y) : IsPfx l m (min (clen l) (clen m)) (sumC l m l.length) := by
  have hs := sumC_eq hl hm (Nat.le_refl l.length)
  have hb : bgAt l l.length = clen l := by unfold bgAt; rw [List.take_length]
  rw [hs, hb]
  have := clen_nonneg hl
  have := clen_nonneg hm
  exact ⟨by omega, by omega, fun i h0 h1 => bg_pre hl hm (Nat.le_refl _) h h0 (by rw [hb]; exact h1), fun hlt => by omega⟩
theorem bg_stop {l m : List Kl} (hl : AOk l) (hm : AOk m) {k j : Nat} (hk : k < l.length) (h : ∀ x, x < k → ∀ y, y < (pcs l m x).length → Eqp l m x y) (hj : j < (pcs l m k).length) (h2 : ∀ y, y < j → Eqp l m k y) (h3 : ¬ Eqp l m k j) :
    IsPfx l m (min (clen l) (clen m)) (sumC l m k + clen ((pcs l m k).take j)) := by
  have hP : AOk (pcs l m k) := part_ok hm _ _
  have hs := sumC_eq hl hm (show k ≤ l.length by omega)
  have hc := pcs_clen hl hm hk
  have hp := kAt_ok hP hj
  have ht := clen_take (kAt_get hj)
  have hle := clen_take_le hP (j + 1)
  have t0 := clen_nonneg (hP.take j)
  have b0 := bgAt_nn hl k
  have hp1 := hp.1
  have hpos : clen ((pcs l m k).take j) < clen (pcs l m k) := by omega
  obtain ⟨e1, e2, e3, e4⟩ := pcs_in hl hm hk t0 hpos
  have hsum : sumC l m k = bgAt l k := by omega
  rw [hsum]
  refine ⟨by omega, by omega, fun i i0 i1 => ?_, fun _ => ?_⟩
  · by_cases hlt : i < bgAt l k
    · exact bg_pre hl hm (by omega) h i0 (by omega)
    · have := pcs_alike hl hm hk (show j ≤ _ by omega) h2 (e := i - bgAt l k) (by omega) (by omega)
      have e5 : bgAt l k + (i - bgAt l k) = i := by omega
      rwa [e5] at this
  · have e5 := seen_at hP (kAt_get hj) (e := 0) (by omega) (by omega)
    rw [Int.add_zero] at e5
    rw [← e1, e2, e5]
    intro hc
    apply h3
    have hcl := kAt_ok hl hk
    have q0 : 0 ≤ (kAt l k).1 := by rcases hcl.2.2.2.2 with h | h <;> omega
    have q1 : 0 ≤ (kAt (pcs l m k) j).1 := by rcases hp.2.2.2.2 with h | h <;> omega
    have hx := Classical.not_not.1 (fun hn => sv_not (x := clen ((pcs l m k).take j)) (y := 0) q0 q1 hn hc)
    obtain ⟨s1, s2⟩ := hx
    unfold Eqp ptOf
    generalize hP9 : kAt (pcs l m k) j = P9 at *
    obtain ⟨p1, p2, p3⟩ := P9
    simp only at *
    by_cases hz : (kAt l k).1 = 0
    · have : p1 = 0 := by omega
      have : p2 = 0 := by rcases hp.2.2.2.2 with h | h <;> simp only at h <;> omega
      rw [if_pos hz]
      simp [*]
    · rw [if_neg hz, ← s1]
      have : p2 = (kAt l k).2.1 + clen ((pcs l m k).take j) := by rcases s2 with h | h <;> omega
      rw [this]

end Go.Proofs.Ytfcjdempigoiiaa
