/-
  Plain: what two sorted neighbouring parts come to when they are merged in place: by one moved through the other, or by an exchange in the middle; no program is named.
-/
import Derived.Test.YtmpbcmpjfcddoaaRo
namespace Go.Proofs.Ytmpbcmpjfcddoaa
set_option linter.unusedVariables false
set_option linter.unusedSimpArgs false
namespace D
/-- the first of a part moved on to k -/
def MvR1 (L L' : List Kl) (a k : Nat) : Prop := ∀ p : Nat, L'[p]? = if a ≤ p ∧ p < k then L[p + 1]? else if p = k then L[a]? else L[p]?
theorem MvR1.zero (L : List Kl) (a : Nat) : MvR1 L L a a := by
  intro p
  rw [if_neg (by omega)]
  split
  · rename_i h; rw [h]
  · rfl
theorem MvR1.step {L L1 : List Kl} {a k : Nat} {x y : Kl} (h : MvR1 L L1 a k) (hak : a ≤ k) (hx : L1[k]? = some x) (hy : L1[k + 1]? = some y) : MvR1 L (swp L1 k (k + 1) x y) a (k + 1) := by
  intro p
  rw [swp_at hx hy]
  by_cases h1 : p = k + 1
  · subst h1
    rw [if_pos rfl, if_neg (by omega), if_pos rfl, ← hx, h k, if_neg (by omega), if_pos rfl]
  · rw [if_neg h1]
    by_cases h2 : p = k
    · subst h2
      rw [if_pos rfl, if_pos (by omega), ← hy, h (p + 1), if_neg (by omega), if_neg (by omega)]
    · rw [if_neg h2, h p]
      by_cases h3 : a ≤ p ∧ p < k
      · rw [if_pos h3, if_pos (by omega)]
      · rw [if_neg h3, if_neg h2, if_neg (by omega), if_neg h1]
theorem MvR1.out {L L1 : List Kl} {a k b : Nat} (h : MvR1 L L1 a k) (hk : a ≤ k) (hb : k < b) : Out L L1 a b := by
  intro p hp
  rw [h p, if_neg (by omega), if_neg (by omega)]
/-- where it stops the part is in order -/
theorem MvR1.done {L L1 : List Kl} {a b i : Nat} (h : MvR1 L L1 a (i - 1)) (hai : a + 1 ≤ i) (hib : i ≤ b) (hbl : b ≤ L.length) (hs : SrtdIn L (a + 1) b) (hlo : ∀ p x y, a + 1 ≤ p → p < i → L[p]? = some y → L[a]? = some x → y.1 ≤ x.1) (hhi : ∀ p x y, i ≤ p → p < b → L[p]? = some y → L[a]? = some x → x.1 ≤ y.1) : SrtdIn L1 a b := by
  intro p q x y h1 h2 h3 hx hy
  rw [h p] at hx
  rw [h q] at hy
  by_cases p1 : a ≤ p ∧ p < i - 1
  · rw [if_pos p1] at hx
    by_cases q1 : a ≤ q ∧ q < i - 1
    · rw [if_pos q1] at hy
      exact hs (p + 1) (q + 1) x y (by omega) (by omega) (by omega) hx hy
    · rw [if_neg q1] at hy
      by_cases q2 : q = i - 1
      · rw [if_pos q2] at hy
        exact hlo (p + 1) y x (by omega) (by omega) hx hy
      · rw [if_neg q2] at hy
        exact hs (p + 1) q x y (by omega) (by omega) (by omega) hx hy
  · rw [if_neg p1] at hx
    have q1 : ¬ (a ≤ q ∧ q < i - 1) := by omega
    rw [if_neg q1] at hy
    by_cases p2 : p = i - 1
    · rw [if_pos p2] at hx
      rw [if_neg (by omega)] at hy
      exact hhi q x y (by omega) (by omega) hy hx
    · rw [if_neg p2] at hx
      rw [if_neg (by omega)] at hy
      exact hs p q x y (by omega) (by omega) (by omega) hx hy
/-- the last of a part, at m, moved back to k -/
def MvL1 (L L' : List Kl) (k m : Nat) : Prop := ∀ p : Nat, L'[p]? = if k < p ∧ p ≤ m then L[p - 1]? else if p = k then L[m]? else L[p]?
theorem MvL1.zero (L : List Kl) (m : Nat) : MvL1 L L m m := by
  intro p
  rw [if_neg (by omega)]
  split
  · rename_i h; rw [h]
  · rfl
theorem MvL1.step {L L1 : List Kl} {k m : Nat} {x y : Kl} (h : MvL1 L L1 (k + 1) m) (hkm : k + 1 ≤ m) (hx : L1[k]? = some x) (hy : L1[k + 1]? = some y) : MvL1 L (swp L1 k (k + 1) x y) k m := by
  intro p
  rw [swp_at hx hy]
  by_cases h1 : p = k + 1
  · subst h1
    rw [if_pos rfl, if_pos (by omega), ← hx, h k, if_neg (by omega), if_neg (by omega)]
    rfl
  · rw [if_neg h1]
    by_cases h2 : p = k
    · subst h2
      rw [if_pos rfl, if_neg (by omega), if_pos rfl, ← hy, h (p + 1), if_neg (by omega), if_pos rfl]
    · rw [if_neg h2, h p]
      by_cases h3 : k + 1 < p ∧ p ≤ m
      · rw [if_pos h3, if_pos (by omega)]
      · rw [if_neg h3, if_neg h1, if_neg (by omega), if_neg h2]
theorem MvL1.out {L L1 : List Kl} {a k m : Nat} (h : MvL1 L L1 k m) (ha : a ≤ k) (hk : k ≤ m) : Out L L1 a (m + 1) := by
  intro p hp
  rw [h p, if_neg (by omega), if_neg (by omega)]
theorem MvL1.done {L L1 : List Kl} {a i m : Nat} (h : MvL1 L L1 i m) (hai : a ≤ i) (him : i ≤ m) (hs : SrtdIn L a m) (hlo : ∀ p x y, a ≤ p → p < i → L[p]? = some y → L[m]? = some x → y.1 ≤ x.1) (hhi : ∀ p x y, i ≤ p → p < m → L[p]? = some y → L[m]? = some x → x.1 ≤ y.1) : SrtdIn L1 a (m + 1) := by
  intro p q x y h1 h2 h3 hx hy
  rw [h p] at hx
  rw [h q] at hy
  by_cases q1 : i < q ∧ q ≤ m
  · rw [if_pos q1] at hy
    by_cases p1 : i < p ∧ p ≤ m
    · rw [if_pos p1] at hx
      exact hs (p - 1) (q - 1) x y (by omega) (by omega) (by omega) hx hy
    · rw [if_neg p1] at hx
      by_cases p2 : p = i
      · rw [if_pos p2] at hx
        exact hhi (q - 1) x y (by omega) (by omega) hy hx
      · rw [if_neg p2] at hx
        exact hs p (q - 1) x y (by omega) (by omega) (by omega) hx hy
  · rw [if_neg q1] at hy
    rw [if_neg (by omega), if_neg (by omega)] at hx
    by_cases q2 : q = i
    · rw [if_pos q2] at hy
      exact hlo p y x (by omega) (by omega) hx hy
    · rw [if_neg q2] at hy
      exact hs p q x y (by omega) (by omega) (by omega) hx hy
/-- what an exchange of neighbours keeps -/
theorem roi_alk {L L' : List Kl} {a m b : Nat} (ham : a ≤ m) (hmb : m ≤ b) (hb : b ≤ L.length) (hl : L'.length = L.length) (h : ∀ k : Nat, L'[k]? = L[roi a m b k]?) (hlt : ∀ p q x y, a ≤ p → p < m → m ≤ q → q < b → L[p]? = some x → L[q]? = some y → y.1 < x.1) : Alk L L' := by
  refine ⟨?_, hl.symm⟩
  have e1 := split4 ham hmb hb
  have e2 : L' = L.take a ++ seg L m b ++ seg L a m ++ L.drop b := by
    apply List.ext_getElem?
    intro k
    rw [h k]
    have l1 : (L.take a).length = a := by simp; omega
    have l2 := seg_len (l := L) (a := m) (b := b) hb
    have l3 := seg_len (l := L) (a := a) (b := m) (by omega)
    unfold roi
    by_cases k1 : k < a
    · rw [if_neg (by omega), if_neg (by omega), List.append_assoc, List.append_assoc, List.getElem?_append_left (by omega), List.getElem?_take]
      simp [k1]
    · by_cases k2 : k < a + (b - m)
      · rw [if_pos (by omega), List.append_assoc, List.append_assoc, List.getElem?_append_right (by omega), l1, List.getElem?_append_left (by omega), seg_at (by omega)]
      · by_cases k3 : k < b
        · rw [if_neg (by omega), if_pos (by omega), List.append_assoc, List.append_assoc, List.getElem?_append_right (by omega), l1, List.getElem?_append_right (by omega), l2, List.getElem?_append_left (by omega), seg_at (by omega)]
          congr 1
          omega
        · rw [if_neg (by omega), if_neg (by omega), List.append_assoc, List.append_assoc, List.getElem?_append_right (by omega), l1, List.getElem?_append_right (by omega), l2, List.getElem?_append_right (by omega), l3, List.getElem?_drop]
          congr 1
          omega
  rw [e2]
  conv => lhs; rw [e1]
  refine srt_blocks ?_
  intro x hx y hy
  obtain ⟨i, hi, he⟩ := List.mem_iff_getElem.1 hx
  obtain ⟨j, hj, hf⟩ := List.mem_iff_getElem.1 hy
  have l2 := seg_len (l := L) (a := m) (b := b) hb
  have l3 := seg_len (l := L) (a := a) (b := m) (by omega)
  have h1 : L[a + i]? = some x := by rw [← seg_at (b := m) (by omega), List.getElem?_eq_getElem hi, he]
  have h2 : L[m + j]? = some y := by rw [← seg_at (b := b) (by omega), List.getElem?_eq_getElem hj, hf]
  exact hlt (a + i) (m + j) x y (by omega) (by omega) (by omega) (by omega) h1 h2
theorem roi_out {L L' : List Kl} {a m b c d : Nat} (ham : a ≤ m) (hmb : m ≤ b) (h : ∀ k : Nat, L'[k]? = L[roi a m b k]?) (hc : c ≤ a) (hd : b ≤ d) : Out L L' c d := by
  intro k hk
  rw [h k]
  congr 1
  unfold roi
  rw [if_neg (by omega), if_neg (by omega)]
/-- what lies in a part was in it -/
def Sub (L L' : List Kl) (a b : Nat) : Prop := ∀ p x, a ≤ p → p < b → L'[p]? = some x → ∃ q, a ≤ q ∧ q < b ∧ L[q]? = some x
theorem Sub.rfl {L : List Kl} {a b : Nat} : Sub L L a b := fun p x h1 h2 h3 => ⟨p, h1, h2, h3⟩
theorem Sub.trans {L M N : List Kl} {a b : Nat} (h : Sub L M a b) (k : Sub M N a b) : Sub L N a b := by
  intro p x h1 h2 h3
  obtain ⟨q, q1, q2, q3⟩ := k p x h1 h2 h3
  exact h q x q1 q2 q3
theorem Sub.wide {L M : List Kl} {a b c d : Nat} (h : Sub L M a b) (ho : Out L M a b) (hc : c ≤ a) (hd : b ≤ d) : Sub L M c d := by
  intro p x h1 h2 h3
  by_cases hp : a ≤ p ∧ p < b
  · obtain ⟨q, q1, q2, q3⟩ := h p x hp.1 hp.2 h3
    exact ⟨q, by omega, by omega, q3⟩
  · rw [ho p (by omega)] at h3
    exact ⟨p, h1, h2, h3⟩
theorem MvR1.sub {L L1 : List Kl} {a k b : Nat} (h : MvR1 L L1 a k) (hk : a ≤ k) (hb : k < b) : Sub L L1 a b := by
  intro p x h1 h2 h3
  rw [h p] at h3
  split at h3
  · exact ⟨p + 1, by omega, by omega, h3⟩
  · split at h3
    · exact ⟨a, by omega, by omega, h3⟩
    · exact ⟨p, h1, h2, h3⟩
theorem MvL1.sub {L L1 : List Kl} {a k m : Nat} (h : MvL1 L L1 k m) (ha : a ≤ k) (hk : k ≤ m) : Sub L L1 a (m + 1) := by
  intro p x h1 h2 h3
  rw [h p] at h3
  split at h3
  · exact ⟨p - 1, by omega, by omega, h3⟩
  · split at h3
    · exact ⟨m, by omega, by omega, h3⟩
    · exact ⟨p, h1, h2, h3⟩
theorem roi_sub {L L' : List Kl} {a m b c d : Nat} (ham : a ≤ m) (hmb : m ≤ b) (h : ∀ k : Nat, L'[k]? = L[roi a m b k]?) (hc : c ≤ a) (hd : b ≤ d) : Sub L L' c d := by
  intro p x h1 h2 h3
  rw [h p] at h3
  refine ⟨roi a m b p, ?_, ?_, h3⟩ <;> unfold roi <;> repeat' split
  all_goals omega
theorem roi_id {L : List Kl} {a m b : Nat} (h : a = m ∨ b = m) (k : Nat) : L[k]? = L[roi a m b k]? := by
  congr 1
  unfold roi
  repeat' split
  all_goals omega
/-- what the exchange in the middle comes to: s up to m and m up to e have changed places -/
structure Mid (L L1 : List Kl) (a s mid e b : Nat) : Prop where
  s1 : SrtdIn L1 a s
  s2 : SrtdIn L1 s mid
  s3 : SrtdIn L1 mid e
  s4 : SrtdIn L1 e b
  cross : ∀ p q x y, a ≤ p → p < mid → mid ≤ q → q < b → L1[p]? = some x → L1[q]? = some y → x.1 ≤ y.1
theorem mid_of {L L1 : List Kl} {a s m mid e b : Nat} (h1 : a ≤ s) (h2 : s ≤ m) (h3 : m ≤ e) (h4 : e ≤ b) (he : e + s = mid + m) (hbl : b ≤ L.length) (hs1 : SrtdIn L a m) (hs2 : SrtdIn L m b)
    (hl : s = a ∨ e = b ∨ ∃ x y, L[s - 1]? = some x ∧ L[e]? = some y ∧ x.1 ≤ y.1) (hr : e = m ∨ s = m ∨ ∃ x y, L[e - 1]? = some x ∧ L[s]? = some y ∧ x.1 < y.1) (h : ∀ k : Nat, L1[k]? = L[roi s m e k]?) : Mid L L1 a s mid e b ∧ (∀ p q x y, s ≤ p → p < m → m ≤ q → q < e → L[p]? = some x → L[q]? = some y → y.1 < x.1) := by
  have r0 : ∀ k, k < s → L1[k]? = L[k]? := fun k hk => by rw [h k]; congr 1; unfold roi; rw [if_neg (by omega), if_neg (by omega)]
  have r1 : ∀ k, s ≤ k → k < mid → L1[k]? = L[m + (k - s)]? := fun k k1 k2 => by rw [h k]; congr 1; unfold roi; rw [if_pos (by omega)]
  have r2 : ∀ k, mid ≤ k → k < e → L1[k]? = L[s + (k - mid)]? := fun k k1 k2 => by rw [h k]; congr 1; unfold roi; rw [if_neg (by omega), if_pos (by omega)]; omega
  have r3 : ∀ k, e ≤ k → L1[k]? = L[k]? := fun k hk => by rw [h k]; congr 1; unfold roi; rw [if_neg (by omega), if_neg (by omega)]
  have hstrict : ∀ p q x y, s ≤ p → p < m → m ≤ q → q < e → L[p]? = some x → L[q]? = some y → y.1 < x.1 := by
    intro p q x y p1 p2 q1 q2 hx hy
    rcases hr with hr | hr | ⟨u, v, hu, hv, huv⟩
    · omega
    · omega
    · have h5 : y.1 ≤ u.1 := by
        by_cases e1 : q = e - 1
        · subst e1; rw [hu] at hy; cases hy; omega
        · exact hs2 q (e - 1) y u q1 (by omega) (by omega) hy hu
      have h6 : v.1 ≤ x.1 := by
        by_cases e1 : p = s
        · subst e1; rw [hv] at hx; cases hx; omega
        · exact hs1 s p v x (by omega) (by omega) (by omega) hv hx
      omega
  have hcross0 : ∀ p q x y, a ≤ p → p < s → e ≤ q → q < b → L[p]? = some x → L[q]? = some y → x.1 ≤ y.1 := by
    intro p q x y p1 p2 q1 q2 hx hy
    rcases hl with hl | hl | ⟨u, v, hu, hv, huv⟩
    · omega
    · omega
    · have h5 : x.1 ≤ u.1 := by
        by_cases e1 : p = s - 1
        · subst e1; rw [hu] at hx; cases hx; omega
        · exact hs1 p (s - 1) x u p1 (by omega) (by omega) hx hu
      have h6 : v.1 ≤ y.1 := by
        by_cases e1 : q = e
        · subst e1; rw [hv] at hy; cases hy; omega
        · exact hs2 e q v y (by omega) (by omega) q2 hv hy
      omega
  refine ⟨⟨?_, ?_, ?_, ?_, ?_⟩, hstrict⟩
  · intro p q x y p1 pq q2 hx hy
    rw [r0 p (by omega)] at hx
    rw [r0 q q2] at hy
    exact hs1 p q x y p1 pq (by omega) hx hy
  · intro p q x y p1 pq q2 hx hy
    rw [r1 p p1 (by omega)] at hx
    rw [r1 q (by omega) q2] at hy
    exact hs2 _ _ x y (by omega) (by omega) (by omega) hx hy
  · intro p q x y p1 pq q2 hx hy
    rw [r2 p p1 (by omega)] at hx
    rw [r2 q (by omega) q2] at hy
    exact hs1 _ _ x y (by omega) (by omega) (by omega) hx hy
  · intro p q x y p1 pq q2 hx hy
    rw [r3 p p1] at hx
    rw [r3 q (by omega)] at hy
    exact hs2 p q x y (by omega) pq q2 hx hy
  · intro p q x y p1 p2 q1 q2 hx hy
    by_cases ps : p < s
    · rw [r0 p ps] at hx
      by_cases qe : q < e
      · rw [r2 q q1 qe] at hy
        exact hs1 p _ x y p1 (by omega) (by omega) hx hy
      · rw [r3 q (by omega)] at hy
        exact hcross0 p q x y p1 ps (by omega) q2 hx hy
    · rw [r1 p (by omega) p2] at hx
      by_cases qe : q < e
      · rw [r2 q q1 qe] at hy
        have := hstrict _ _ y x (by omega) (by omega) (by omega) (by omega) hy hx
        omega
      · rw [r3 q (by omega)] at hy
        exact hs2 _ q x y (by omega) (by omega) q2 hx hy
/-- both halves are in order, and the one is ahead of the other -/
theorem two_halves {L1 L2 L3 : List Kl} {a mid b : Nat} (ham : a ≤ mid) (hmb : mid ≤ b) (hc : ∀ p q x y, a ≤ p → p < mid → mid ≤ q → q < b → L1[p]? = some x → L1[q]? = some y → x.1 ≤ y.1)
    (h1 : SrtdIn L2 a mid) (u1 : Sub L1 L2 a mid) (o1 : Out L1 L2 a mid) (h2 : SrtdIn L3 mid b) (u2 : Sub L2 L3 mid b) (o2 : Out L2 L3 mid b) : SrtdIn L3 a b := by
  intro p q x y p1 pq q2 hx hy
  by_cases qm : q < mid
  · rw [o2 p (by omega)] at hx
    rw [o2 q (by omega)] at hy
    exact h1 p q x y p1 pq qm hx hy
  · by_cases pm : p < mid
    · rw [o2 p (by omega)] at hx
      obtain ⟨p', pa, pb, hx'⟩ := u1 p x p1 pm hx
      obtain ⟨q', qa, qb, hy'⟩ := u2 q y (by omega) q2 hy
      rw [o1 q' (by omega)] at hy'
      exact hc p' q' x y pa pb qa qb hx' hy'
    · exact h2 p q x y (by omega) pq q2 hx hy
theorem srtd_join {L : List Kl} {a s b : Nat} (h1 : SrtdIn L a s) (h2 : SrtdIn L s b) (h : s = a ∨ s = b) : SrtdIn L a b := by
  rcases h with rfl | rfl
  · exact h2
  · exact h1
end D
end Go.Proofs.Ytmpbcmpjfcddoaa
