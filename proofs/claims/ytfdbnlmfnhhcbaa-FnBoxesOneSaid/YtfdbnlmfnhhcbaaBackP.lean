/-
  Plain facts: a film is read back from the bytes that it is shown as, and of a beginning of these a beginning of it is saved. No program is named here; no conditions.
-/
import Derived.Test.YtfdbnlmfnhhcbaaRdP
import Derived.Test.YtfdbnlmfnhhcbaaShowP
import Derived.WideShapes
namespace Go.Proofs.Ytfdbnlmfnhhcbaa
open Go.RowKit
set_option linter.unusedVariables false
set_option linter.unusedSimpArgs false

theorem beL_be4 (n : Nat) (h : n < 4294967296) : beL (be4 n) = n := by
  simp [beL, be4]
  omega
theorem strOf_kb (k : ByteArray) : strOfNums (kb k) = k := by
  apply Go.WideShapes.bytes_inj
  rw [strOfNums_data]
  unfold kb
  rw [List.map_map]
  conv => rhs; rw [← List.map_id k.data.toList]
  apply List.map_congr_left
  intro c _
  simp
theorem be4_len (n : Nat) : (be4 n).length = 4 := rfl

theorem siz_fl {N : Nat} {r : List Int} (h : N < 4294967296) : siz (be4 N ++ r) = N := by
  unfold siz
  rw [List.take_left' (be4_len N), beL_be4 N h]
theorem kind_fl {N : Nat} {k : ByteArray} {r : List Int} (hk : k.size = 4) : kindOf (be4 N ++ (kb k ++ r)) = k := by
  unfold kindOf
  rw [List.drop_left' (be4_len N), List.take_left' (by rw [kb_len]; exact hk), strOf_kb]

theorem dpr_len (x : Bx) (t : List Bx) : (dpr x t).length + (aft x t).length = t.length := by
  have : t = dpr x t ++ aft x t := by unfold dpr aft; rw [List.takeWhile_append_dropWhile]
  conv => rhs; rw [this]
  rw [List.length_append]
theorem dpr_aft (x : Bx) (t : List Bx) : t = dpr x t ++ aft x t := by unfold dpr aft; rw [List.takeWhile_append_dropWhile]

/-- a forest of depth dep behind the box p -/
def Fo (p : Option Bx) (dep : Int) (l : List Bx) : Prop := strOk p l = true ∧ (∀ y ∈ l, dep ≤ y.d) ∧ ∀ y, l.head? = some y → y.d = dep
theorem stepOk_out {p : Option Bx} {x : Bx} (h : stepOk p x = true) : kindOk x.k = true ∧ 0 ≤ x.d ∧ x.d ≤ 8 ∧ (holds x.k = false ∨ x.z.length = 0) ∧ x.d ≤ dpOf p := by
  unfold stepOk at h
  simp only [Bool.and_eq_true, decide_eq_true_eq, Bool.or_eq_true, Bool.not_eq_true'] at h
  obtain ⟨⟨⟨⟨h1, h2⟩, h3⟩, h4⟩, h5⟩ := h
  exact ⟨h1, h2, h3, h4, h5⟩
theorem strOk_k4 (p : Option Bx) (l : List Bx) (h : strOk p l = true) : ∀ x ∈ l, x.k.size = 4 := by
  induction l generalizing p with
  | nil => intro x hx; simp at hx
  | cons y t ih =>
    rw [strOk, Bool.and_eq_true] at h
    intro x hx
    rcases List.mem_cons.1 hx with rfl | hx
    · exact kindOk_size (stepOk_out h.1).1
    · exact ih _ h.2 x hx

theorem Fo.parts {p : Option Bx} {dep : Int} {x : Bx} {t : List Bx} (h : Fo p dep (x :: t)) : stepOk p x = true ∧ x.d = dep ∧ Fo (some x) (dep + 1) (dpr x t) ∧ (∃ q, Fo q dep (aft x t)) ∧ (holds x.k = false → dpr x t = []) := by
  obtain ⟨h1, h2, h3⟩ := h
  rw [strOk, Bool.and_eq_true] at h1
  have hd : x.d = dep := h3 x rfl
  have e := dpr_aft x t
  have h4 : strOk (some x) (dpr x t ++ aft x t) = true := by rw [← e]; exact h1.2
  rw [strOk_append, Bool.and_eq_true] at h4
  have hin : ∀ y ∈ dpr x t, dep + 1 ≤ y.d := fun y hy => by have := dpr_mem x t y hy; omega
  have hhead : ∀ y, (dpr x t).head? = some y → y.d ≤ dpOf (some x) := by
    intro y hy
    cases hl : dpr x t with
    | nil => rw [hl] at hy; simp at hy
    | cons z r =>
      rw [hl] at hy h4
      simp at hy
      subst hy
      have := h4.1
      rw [strOk, Bool.and_eq_true] at this
      exact (stepOk_out this.1).2.2.2.2
  refine ⟨h1.1, hd, ⟨h4.1, hin, ?_⟩, ⟨lastOr (some x) (dpr x t), h4.2, ?_, ?_⟩, ?_⟩
  · intro y hy
    have h5 := hhead y hy
    have h6 : y ∈ dpr x t := List.mem_of_mem_head? hy
    have h7 := hin y h6
    have h8 : dpOf (some x) ≤ x.d + 1 := by unfold dpOf; dsimp only; split <;> omega
    omega
  · intro y hy
    exact h2 y (List.mem_cons_of_mem _ (by rw [e]; exact List.mem_append_right _ hy))
  · intro y hy
    have h5 := aft_head x t y hy
    have h6 : y ∈ t := by rw [e]; exact List.mem_append_right _ (List.mem_of_mem_head? hy)
    have h7 := h2 y (List.mem_cons_of_mem _ h6)
    omega
  · intro hh
    cases hl : dpr x t with
    | nil => rfl
    | cons z r =>
      exfalso
      have h5 := hhead z (by rw [hl]; rfl)
      have h6 := hin z (by rw [hl]; exact List.mem_cons_self ..)
      have h8 : dpOf (some x) = x.d := by unfold dpOf; dsimp only; rw [if_neg (by simp [hh])]; omega
      omega

theorem total_cons (x : Bx) (t : List Bx) : total (x :: t) = x.z.length + total t := by simp [total]
theorem tot_le (l : List Bx) (hl : l.length ≤ 200) (ht : total l ≤ 20000) : tot l ≤ 21600 := by unfold tot; omega

/-- one whole box at the head: what the reader sees -/
theorem head_fl {p : Option Bx} {dep : Int} {x : Bx} {t : List Bx} {s : RS} {r : List Int} (h : Fo p dep (x :: t)) (hN : tot (x :: dpr x t) < 4294967296) (hs : s.l.length < 200) (hn : s.n + x.z.length ≤ 20000)
    (left : List Int) (hleft : left = be4 (tot (x :: dpr x t)) ++ (kb x.k ++ (x.z ++ (fl (dpr x t) ++ r)))) :
    siz left = (tot (x :: dpr x t) : Nat) ∧ kindOf left = x.k ∧ headFault left dep s = 0 ∧ inner left = x.z ++ fl (dpr x t) ∧ rest left = r ∧ 0 < left.length := by
  obtain ⟨h1, hd, h2, _, h4⟩ := h.parts
  obtain ⟨k1, k2, k3, k4, k5⟩ := stepOk_out h1
  have hk := kindOk_size k1
  have hfl : (fl (dpr x t)).length = tot (dpr x t) := fl_len _ (strOk_k4 _ _ h2.1)
  have hsz : siz left = (tot (x :: dpr x t) : Nat) := by rw [hleft]; exact siz_fl hN
  have hkd : kindOf left = x.k := by rw [hleft]; exact kind_fl hk
  have hN8 : tot (x :: dpr x t) = 8 + x.z.length + tot (dpr x t) := tot_cons _ _
  have hlen : left.length = tot (x :: dpr x t) + r.length := by
    rw [hleft]
    simp only [List.length_append, be4_len, kb_len, hk, hfl]
    omega
  have hpre : left.take (tot (x :: dpr x t)) = be4 (tot (x :: dpr x t)) ++ (kb x.k ++ (x.z ++ fl (dpr x t))) := by
    have e : left = (be4 (tot (x :: dpr x t)) ++ (kb x.k ++ (x.z ++ fl (dpr x t)))) ++ r := by rw [hleft]; simp [List.append_assoc]
    rw [e]
    exact List.take_left' (by simp only [List.length_append, be4_len, kb_len, hk, hfl]; omega)
  refine ⟨hsz, hkd, ?_, ?_, ?_, by omega⟩
  · refine hf0 (by omega) (by omega) (by omega) (by rw [hkd]; exact k1) (by omega) (by omega) ?_
    cases hh : holds x.k with
    | true => left; rw [hkd]; exact hh
    | false =>
      right
      have e0 : tot (dpr x t) = 0 := by rw [h4 hh]; rfl
      omega
  · unfold inner
    rw [hsz, Int.toNat_natCast, hpre, ← List.append_assoc]
    exact List.drop_left' (by simp only [List.length_append, be4_len, kb_len, hk])
  · unfold rest
    rw [hsz, Int.toNat_natCast]
    have e : left = (be4 (tot (x :: dpr x t)) ++ (kb x.k ++ (x.z ++ fl (dpr x t)))) ++ r := by rw [hleft]; simp [List.append_assoc]
    rw [e]
    exact List.drop_left' (by simp only [List.length_append, be4_len, kb_len, hk, hfl]; omega)

theorem fl_head (x : Bx) (t : List Bx) : fl (x :: t) = be4 (tot (x :: dpr x t)) ++ (kb x.k ++ (x.z ++ (fl (dpr x t) ++ fl (aft x t)))) := by
  rw [fl_cons, fl_split x t]

theorem bx_eta (x : Bx) (d : Int) (z : List Int) (h1 : x.d = d) (h2 : x.z = z) : (⟨x.k, d, z⟩ : Bx) = x := by cases x; simp_all

theorem read_full (m : Nat) : ∀ (l : List Bx) (p : Option Bx) (dep pos : Int) (s : RS) (n : Nat), l.length ≤ m → Fo p dep l → (fl l).length ≤ n → s.l.length + l.length ≤ 200 → 0 ≤ s.n → s.n + total l ≤ 20000 → rdAll n (fl l) dep pos s = (⟨s.l ++ l, s.n + total l⟩, none) := by
  induction m with
  | zero =>
    intro l p dep pos s n hm _ _ _ _ _
    have : l = [] := List.eq_nil_of_length_eq_zero (by omega)
    subst this
    show rdAll n [] dep pos s = _
    rw [rd_nil]
    simp [total]
  | succ m ih =>
    intro l p dep pos s n hm hF hn hl hs0 hst
    cases l with
    | nil =>
      show rdAll n [] dep pos s = _
      rw [rd_nil]
      simp [total]
    | cons x t =>
      obtain ⟨h1, hd, h2, ⟨q, h3⟩, h4⟩ := hF.parts
      obtain ⟨k1, k2, k3, k4, k5⟩ := stepOk_out h1
      have hdl := dpr_len x t
      have htt : total t = total (dpr x t) + total (aft x t) := by
        conv => lhs; rw [dpr_aft x t]
        rw [total_append]
      have htc := total_cons x t
      rw [List.length_cons] at hm hl
      have hN : tot (x :: dpr x t) ≤ 21600 := tot_le _ (by rw [List.length_cons]; omega) (by rw [total_cons]; omega)
      obtain ⟨e1, e2, e3, e4, e5, e6⟩ := head_fl (s := s) (r := fl (aft x t)) hF (by omega) (by omega) (by omega) (fl (x :: t)) (fl_head x t)
      have hk4 := strOk_k4 _ _ hF.1
      have hlen := fl_len (x :: t) hk4
      have hlenD : (fl (dpr x t)).length = tot (dpr x t) := fl_len _ (strOk_k4 _ _ h2.1)
      have hlenA : (fl (aft x t)).length = tot (aft x t) := fl_len _ (strOk_k4 _ _ h3.1)
      have htot : tot (x :: t) = 8 + x.z.length + (tot (dpr x t) + tot (aft x t)) := by
        rw [tot_cons]
        conv => lhs; rw [dpr_aft x t, tot_append]
      obtain ⟨n', rfl⟩ : ∃ n', n = n' + 1 := ⟨n - 1, by omega⟩
      cases hh : holds x.k with
      | true =>
        have hz : x.z = [] := List.eq_nil_of_length_eq_zero (by rcases k4 with k4 | k4; rw [hh] at k4; cases k4; exact k4)
        have hi := ih (dpr x t) (some x) (dep + 1) (pos + 8) ⟨s.l ++ [x], s.n⟩ n' (by omega) h2 (by rw [hlenD]; omega) (by simp; omega) hs0 (by show s.n + _ ≤ 20000; omega)
        have hin : rdAll n' (inner (fl (x :: t))) (dep + 1) (pos + 8) ⟨s.l ++ [⟨kindOf (fl (x :: t)), dep, []⟩], s.n⟩ = (⟨s.l ++ [x] ++ dpr x t, s.n + total (dpr x t)⟩, none) := by
          rw [e4, e2, hz, List.nil_append, bx_eta x dep [] hd hz]
          exact hi
        rw [rd_in_go e6 e3 (by rw [e2]; exact hh) hin, e5]
        rw [ih (aft x t) q dep _ _ n' (by omega) h3 (by rw [hlenA]; omega) (by simp; omega) (by show 0 ≤ s.n + _; omega) (by show s.n + _ + _ ≤ 20000; omega)]
        have hl2 : s.l ++ [x] ++ dpr x t ++ aft x t = s.l ++ (x :: t) := by
          conv => rhs; rw [dpr_aft x t]
          simp [List.append_assoc]
        rw [hz] at htc
        rw [show (⟨s.l ++ [x] ++ dpr x t, s.n + ↑(total (dpr x t))⟩ : RS).l ++ aft x t = s.l ++ (x :: t) from hl2]
        have hn2 : s.n + (total (dpr x t) : Int) + (total (aft x t) : Int) = s.n + (total (x :: t) : Int) := by simp at htc; omega
        rw [hn2]
      | false =>
        have hD := h4 hh
        have hta : t = aft x t := by have := dpr_aft x t; rw [hD, List.nil_append] at this; exact this
        rw [rd_leaf e6 e3 (by rw [e2]; exact hh), e5, e4, e2, e1, hD]
        have hz : x.z ++ fl [] = x.z := by show x.z ++ [] = x.z; simp
        rw [hz, bx_eta x dep x.z hd rfl]
        have hN2 : s.n + ((tot [x] : Nat) : Int) - 8 = s.n + (x.z.length : Int) := by simp [tot, total]; omega
        rw [hN2]
        rw [hD] at htt hlenD
        have ht0 : total ([] : List Bx) = 0 := rfl
        rw [ih (aft x t) q dep _ _ n' (by omega) h3 (by rw [hlenA]; omega) (by simp; omega) (by show 0 ≤ s.n + _; omega) (by show s.n + _ + _ ≤ 20000; omega)]
        have hl2 : s.l ++ [x] ++ aft x t = s.l ++ (x :: t) := by
          conv => rhs; rw [hta]
          simp [List.append_assoc]
        rw [show (⟨s.l ++ [x], s.n + ↑x.z.length⟩ : RS).l ++ aft x t = s.l ++ (x :: t) from hl2]
        have hn2 : s.n + (x.z.length : Int) + (total (aft x t) : Int) = s.n + (total (x :: t) : Int) := by omega
        rw [hn2]

theorem siz_take {L : List Int} {j : Nat} (h : 4 ≤ j) : siz (L.take j) = siz L := by
  unfold siz
  rw [List.take_take, Nat.min_eq_left h]
theorem read_part (m : Nat) : ∀ (l : List Bx) (p : Option Bx) (dep pos : Int) (s : RS) (n j : Nat), l.length ≤ m → Fo p dep l → ((fl l).take j).length ≤ n → s.l.length + l.length ≤ 200 → 0 ≤ s.n → s.n + total l ≤ 20000 → ∃ l', (rdAll n ((fl l).take j) dep pos s).1.l = s.l ++ l' ∧ l' <+: l := by
  induction m with
  | zero =>
    intro l p dep pos s n j hm _ _ _ _ _
    have : l = [] := List.eq_nil_of_length_eq_zero (by omega)
    subst this
    refine ⟨[], ?_, List.nil_prefix⟩
    rw [show (fl []).take j = [] from List.take_nil, rd_nil, List.append_nil]
  | succ m ih =>
    intro l p dep pos s n j hm hF hn hl hs0 hst
    cases l with
    | nil =>
      refine ⟨[], ?_, List.nil_prefix⟩
      rw [show (fl []).take j = [] from List.take_nil, rd_nil, List.append_nil]
    | cons x t =>
      obtain ⟨h1, hd, h2, ⟨q, h3⟩, h4⟩ := hF.parts
      obtain ⟨k1, k2, k3, k4, k5⟩ := stepOk_out h1
      have hdl := dpr_len x t
      have htt : total t = total (dpr x t) + total (aft x t) := by
        conv => lhs; rw [dpr_aft x t]
        rw [total_append]
      have htc := total_cons x t
      rw [List.length_cons] at hm hl
      have hN : tot (x :: dpr x t) ≤ 21600 := tot_le _ (by rw [List.length_cons]; omega) (by rw [total_cons]; omega)
      have hN8 : tot (x :: dpr x t) = 8 + x.z.length + tot (dpr x t) := tot_cons _ _
      have hk4 := strOk_k4 _ _ hF.1
      have hlen := fl_len (x :: t) hk4
      have hlenD : (fl (dpr x t)).length = tot (dpr x t) := fl_len _ (strOk_k4 _ _ h2.1)
      have hlenA : (fl (aft x t)).length = tot (aft x t) := fl_len _ (strOk_k4 _ _ h3.1)
      have htot : tot (x :: t) = 8 + x.z.length + (tot (dpr x t) + tot (aft x t)) := by
        rw [tot_cons]
        conv => lhs; rw [dpr_aft x t, tot_append]
      by_cases j0 : j = 0
      · subst j0
        refine ⟨[], ?_, List.nil_prefix⟩
        rw [List.take_zero, rd_nil, List.append_nil]
      by_cases hj : j < tot (x :: dpr x t)
      · have hll : ((fl (x :: t)).take j).length = j := by rw [List.length_take, hlen]; omega
        obtain ⟨n', rfl⟩ : ∃ n', n = n' + 1 := ⟨n - 1, by omega⟩
        have hf : headFault ((fl (x :: t)).take j) dep s ≠ 0 := by
          by_cases h8 : j < 8
          · rw [hf2 (by omega)]; decide
          · have hsz : siz ((fl (x :: t)).take j) = (tot (x :: dpr x t) : Nat) := by
              rw [siz_take (by omega), fl_head]
              exact siz_fl (by omega)
            rw [hf3 (by omega) (.inr (by rw [hsz]; omega))]; decide
        refine ⟨[], ?_, List.nil_prefix⟩
        rw [rd_fault (by omega) hf, List.append_nil]
      · have hpl : (be4 (tot (x :: dpr x t)) ++ (kb x.k ++ (x.z ++ fl (dpr x t)))).length = tot (x :: dpr x t) := by
          simp only [List.length_append, be4_len, kb_len, kindOk_size k1, hlenD]; omega
        have hleft : (fl (x :: t)).take j = be4 (tot (x :: dpr x t)) ++ (kb x.k ++ (x.z ++ (fl (dpr x t) ++ (fl (aft x t)).take (j - tot (x :: dpr x t))))) := by
          have e : fl (x :: t) = (be4 (tot (x :: dpr x t)) ++ (kb x.k ++ (x.z ++ fl (dpr x t)))) ++ fl (aft x t) := by rw [fl_head]; simp [List.append_assoc]
          rw [e, List.take_append, hpl, List.take_of_length_le (by omega)]
          simp [List.append_assoc]
        obtain ⟨e1, e2, e3, e4, e5, e6⟩ := head_fl (s := s) (r := (fl (aft x t)).take (j - tot (x :: dpr x t))) hF (by omega) (by omega) (by omega) _ hleft
        have hll : ((fl (x :: t)).take j).length = tot (x :: dpr x t) + ((fl (aft x t)).take (j - tot (x :: dpr x t))).length := by
          rw [hleft]
          simp only [List.length_append, be4_len, kb_len, kindOk_size k1, hlenD]; omega
        obtain ⟨n', rfl⟩ : ∃ n', n = n' + 1 := ⟨n - 1, by omega⟩
        cases hh : holds x.k with
        | true =>
          have hz : x.z = [] := List.eq_nil_of_length_eq_zero (by rcases k4 with k4 | k4; rw [hh] at k4; cases k4; exact k4)
          have hi := read_full m (dpr x t) (some x) (dep + 1) (pos + 8) ⟨s.l ++ [x], s.n⟩ n' (by omega) h2 (by rw [hlenD]; omega) (by simp; omega) hs0 (by show s.n + _ ≤ 20000; omega)
          have hin : rdAll n' (inner ((fl (x :: t)).take j)) (dep + 1) (pos + 8) ⟨s.l ++ [⟨kindOf ((fl (x :: t)).take j), dep, []⟩], s.n⟩ = (⟨s.l ++ [x] ++ dpr x t, s.n + total (dpr x t)⟩, none) := by
            rw [e4, e2, hz, List.nil_append, bx_eta x dep [] hd hz]
            exact hi
          rw [rd_in_go e6 e3 (by rw [e2]; exact hh) hin, e5]
          obtain ⟨l', h5, h6⟩ := ih (aft x t) q dep (pos + siz ((fl (x :: t)).take j)) ⟨s.l ++ [x] ++ dpr x t, s.n + total (dpr x t)⟩ n' (j - tot (x :: dpr x t)) (by omega) h3 (by omega) (by simp; omega) (by show 0 ≤ s.n + _; omega) (by show s.n + _ + _ ≤ 20000; omega)
          refine ⟨x :: (dpr x t ++ l'), ?_, ?_⟩
          · rw [h5]; simp [List.append_assoc]
          · conv => rhs; rw [dpr_aft x t]
            exact (List.prefix_cons_inj x).2 ((List.prefix_append_right_inj _).2 h6)
        | false =>
          have hD := h4 hh
          have hta : t = aft x t := by have := dpr_aft x t; rw [hD, List.nil_append] at this; exact this
          have hz : x.z ++ fl [] = x.z := by show x.z ++ [] = x.z; simp
          have hN2 : s.n + ((tot [x] : Nat) : Int) - 8 = s.n + (x.z.length : Int) := by simp [tot, total]; omega
          have ht0 : total ([] : List Bx) = 0 := rfl
          rw [rd_leaf e6 e3 (by rw [e2]; exact hh), e5, e4, e2, e1]
          rw [hD] at htt hlenD hll ⊢
          rw [hz, bx_eta x dep x.z hd rfl, hN2]
          obtain ⟨l', h5, h6⟩ := ih (aft x t) q dep (pos + ((tot [x] : Nat) : Int)) ⟨s.l ++ [x], s.n + (x.z.length : Int)⟩ n' (j - tot [x]) (by omega) h3 (by omega) (by simp; omega) (by show 0 ≤ s.n + _; omega) (by show s.n + _ + _ ≤ 20000; omega)
          refine ⟨x :: l', ?_, ?_⟩
          · rw [h5]; simp [List.append_assoc]
          · conv => rhs; rw [hta]
            exact (List.prefix_cons_inj x).2 h6

theorem strOk_d0 (p : Option Bx) (l : List Bx) (h : strOk p l = true) : ∀ x ∈ l, 0 ≤ x.d := by
  induction l generalizing p with
  | nil => intro x hx; simp at hx
  | cons y t ih =>
    rw [strOk, Bool.and_eq_true] at h
    intro x hx
    rcases List.mem_cons.1 hx with rfl | hx
    · exact (stepOk_out h.1).2.1
    · exact ih _ h.2 x hx
theorem ok_film {l : List Bx} (h : ok l = true) : l.length ≤ 200 ∧ Fo none 0 l ∧ total l ≤ 20000 := by
  unfold ok at h
  simp only [Bool.and_eq_true, decide_eq_true_eq] at h
  obtain ⟨⟨h1, h2⟩, h3⟩ := h
  refine ⟨h1, ⟨h2, strOk_d0 _ _ h2, ?_⟩, h3⟩
  intro y hy
  cases l with
  | nil => simp at hy
  | cons x t =>
    simp at hy
    subst hy
    rw [strOk, Bool.and_eq_true] at h2
    have := stepOk_out h2.1
    have e : dpOf none = 0 := rfl
    omega
theorem fl_short {l : List Bx} (h : ok l = true) : (fl l).length ≤ 21600 := by
  obtain ⟨h1, h2, h3⟩ := ok_film h
  rw [fl_len _ (strOk_k4 _ _ h2.1)]
  exact tot_le l h1 h3
theorem back_all {l : List Bx} (h : ok l = true) : rdAll ((fl l).length + 1) (fl l) 0 0 ⟨[], 0⟩ = (⟨l, total l⟩, none) := by
  obtain ⟨h1, h2, h3⟩ := ok_film h
  rw [read_full l.length l none 0 0 ⟨[], 0⟩ _ (Nat.le_refl _) h2 (by omega) (by simpa using h1) (by decide) (by simp; omega)]
  simp
theorem back_part {l : List Bx} (h : ok l = true) (j : Nat) : (rdAll (((fl l).take j).length + 1) ((fl l).take j) 0 0 ⟨[], 0⟩).1.l <+: l := by
  obtain ⟨h1, h2, h3⟩ := ok_film h
  obtain ⟨l', h5, h6⟩ := read_part l.length l none 0 0 ⟨[], 0⟩ (((fl l).take j).length + 1) j (Nat.le_refl _) h2 (by omega) (by simpa using h1) (by decide) (by simp; omega)
  rw [h5]
  simpa using h6

end Go.Proofs.Ytfdbnlmfnhhcbaa
