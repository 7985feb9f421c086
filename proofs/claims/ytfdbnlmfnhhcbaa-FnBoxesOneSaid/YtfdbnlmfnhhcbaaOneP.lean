/-
  Plain facts on reading boxes of any bytes: what is read without a fault shows as it was; what is saved is a film; a fault stands inside the bytes. No program is named here; no conditions.
-/
import Derived.Test.YtfdbnlmfnhhcbaaBackP
import Derived.Test.YtfdbnlmfnhhcbaaIUp
import Derived.Test.YtfdbnlmfnhhcbaaIShow2
namespace Go.Proofs.Ytfdbnlmfnhhcbaa
open Go.RowKit
set_option linter.unusedVariables false

theorem lastOr_append (p : Option Bx) (l m : List Bx) : lastOr p (l ++ m) = lastOr (lastOr p l) m := by
  induction l generalizing p with
  | nil => rfl
  | cons x t ih => exact ih (some x)
theorem lastOr_mem (x : Bx) (l : List Bx) : ∃ y, lastOr (some x) l = some y ∧ (y = x ∨ y ∈ l) := by
  induction l generalizing x with
  | nil => exact ⟨x, rfl, .inl rfl⟩
  | cons z t ih =>
    obtain ⟨y, h1, h2⟩ := ih z
    refine ⟨y, h1, .inr ?_⟩
    rcases h2 with rfl | h2
    · exact List.mem_cons_self
    · exact List.mem_cons_of_mem _ h2
theorem dpOf_last {x : Bx} {l : List Bx} {dep : Int} (hx : x.d = dep) (hl : ∀ y ∈ l, dep ≤ y.d) : dep ≤ dpOf (lastOr (some x) l) := by
  obtain ⟨y, h1, h2⟩ := lastOr_mem x l
  rw [h1]
  have hd : dep ≤ y.d := by
    rcases h2 with rfl | h2
    · omega
    · exact hl y h2
  unfold dpOf
  dsimp only
  split <;> omega
theorem dpr_mid {x : Bx} {l1 l2 : List Bx} (h1 : ∀ y ∈ l1, x.d < y.d) (h2 : ∀ y, l2.head? = some y → ¬ x.d < y.d) : dpr x (l1 ++ l2) = l1 ∧ aft x (l1 ++ l2) = l2 := by
  induction l1 with
  | nil =>
    rw [List.nil_append]
    unfold dpr aft
    cases l2 with
    | nil => exact ⟨rfl, rfl⟩
    | cons y t =>
      have := h2 y rfl
      rw [List.takeWhile_cons, List.dropWhile_cons]
      simp [this]
  | cons z t ih =>
    obtain ⟨i1, i2⟩ := ih (fun y hy => h1 y (List.mem_cons_of_mem _ hy))
    have hz := h1 z List.mem_cons_self
    unfold dpr aft at *
    rw [List.cons_append, List.takeWhile_cons, List.dropWhile_cons]
    simp [hz, i1, i2]
theorem kb_strOf {l : List Int} (h : ∀ z ∈ l, 0 ≤ z ∧ z ≤ 255) : kb (strOfNums l) = l := by
  unfold kb
  rw [strOfNums_data, List.map_map]
  conv => rhs; rw [← List.map_id l]
  apply List.map_congr_left
  intro z hz
  have := h z hz
  simp only [Function.comp_apply, id_eq]
  have e : (UInt8.ofNat z.toNat).toNat = z.toNat := by
    rw [UInt8.toNat_ofNat']; omega
  first
    | (rw [e]; omega)
    | (simp only [UInt8.toNat_ofNat']; omega)
theorem be4_beL {l : List Int} (hl : l.length = 4) (h : ∀ z ∈ l, 0 ≤ z ∧ z ≤ 255) (n : Nat) (hn : (n : Int) = beL l) : be4 n = l := by
  obtain ⟨a, b, c, d, rfl⟩ : ∃ a b c d, l = [a, b, c, d] := by
    match l, hl with
    | [a, b, c, d], _ => exact ⟨a, b, c, d, rfl⟩
  have ha := h a (by simp)
  have hb := h b (by simp)
  have hc := h c (by simp)
  have hd := h d (by simp)
  have e : beL [a, b, c, d] = ((a * 256 + b) * 256 + c) * 256 + d := by simp [beL]
  rw [e] at hn
  unfold be4
  simp only [List.cons.injEq, and_true]
  refine ⟨by omega, by omega, by omega, by omega⟩
theorem left_parts {left : List Int} (h1 : 8 ≤ siz left) (h2 : siz left ≤ left.length) : left = left.take 4 ++ ((left.drop 4).take 4 ++ (inner left ++ rest left)) := by
  unfold inner rest
  obtain ⟨k, hk⟩ : ∃ k : Nat, siz left = k := ⟨(siz left).toNat, by omega⟩
  rw [hk, Int.toNat_natCast]
  have e1 : (left.take k).drop 8 ++ left.drop k = left.drop 8 := by
    have : left.drop 8 = (left.take k ++ left.drop k).drop 8 := by rw [List.take_append_drop]
    rw [this, List.drop_append_of_le_length (by rw [List.length_take]; omega)]
  rw [e1]
  have e2 : (left.drop 4).take 4 ++ left.drop 8 = left.drop 4 := by
    have : left.drop 8 = (left.drop 4).drop 4 := by rw [List.drop_drop]
    rw [this, List.take_append_drop]
  rw [e2, List.take_append_drop]
theorem kb_kind {left : List Int} (h : ∀ z ∈ left, 0 ≤ z ∧ z ≤ 255) : kb (kindOf left) = (left.drop 4).take 4 := by
  unfold kindOf
  exact kb_strOf (fun z hz => h z (List.mem_of_mem_drop (List.mem_of_mem_take hz)))
theorem be4_siz {left : List Int} (h8 : 8 ≤ left.length) (h : ∀ z ∈ left, 0 ≤ z ∧ z ≤ 255) (n : Nat) (hn : (n : Int) = siz left) : be4 n = left.take 4 :=
  be4_beL (by rw [List.length_take]; omega) (fun z hz => h z (List.mem_of_mem_take hz)) n hn

theorem rd_fact (n : Nat) : ∀ (left : List Int) (dep pos : Int) (s : RS), left.length < n → (∀ z ∈ left, 0 ≤ z ∧ z ≤ 255) → 0 ≤ dep → dep ≤ dpOf (lastOr none s.l) → s.l.length ≤ 200 → strOk none s.l = true → s.n = total s.l → s.n ≤ 20000 →
    ∃ l', (rdAll n left dep pos s).1.l = s.l ++ l' ∧ strOk none (s.l ++ l') = true ∧ (s.l ++ l').length ≤ 200 ∧ (rdAll n left dep pos s).1.n = total (s.l ++ l') ∧ (total (s.l ++ l') : Int) ≤ 20000 ∧ (∀ y ∈ l', dep ≤ y.d)
      ∧ ((rdAll n left dep pos s).2 = none → fl l' = left ∧ ∀ y, l'.head? = some y → y.d = dep) ∧ (∀ f, (rdAll n left dep pos s).2 = some f → f.1 ≠ 0 ∧ pos ≤ f.2 ∧ f.2 < pos + left.length) := by
  induction n with
  | zero => intro left dep pos s h; omega
  | succ n ih =>
    intro left dep pos s hn hbd hd0 hdp hl hst hsn hs2
    by_cases h0 : left = []
    · subst h0
      rw [rd_nil]
      refine ⟨[], by simp, by simpa using hst, by simpa using hl, by simpa using hsn, by simp; omega, by simp, fun _ => ⟨rfl, by simp⟩, fun f hf => by simp at hf⟩
    have hlen : 0 < left.length := List.length_pos_iff.2 h0
    by_cases hf : headFault left dep s = 0
    case neg =>
      rw [rd_fault hlen hf]
      refine ⟨[], by simp, by simpa using hst, by simpa using hl, by simpa using hsn, by simp; omega, by simp, fun h => by simp at h, fun f h => ?_⟩
      simp only [Option.some.injEq] at h
      subst h
      exact ⟨hf, by simp, by simp; omega⟩
    obtain ⟨q1, q2, q3, q4, q5, q6, q7⟩ := head_ok hf
    have hin := inner_len q2 q3
    have hre := rest_len q2 q3
    have hbi := inner_bd hbd
    have hbr : ∀ z ∈ rest left, 0 ≤ z ∧ z ≤ 255 := fun z hz => hbd z (List.mem_of_mem_drop hz)
    have hlp := left_parts q2 q3
    have hkb := kb_kind hbd
    cases hh : holds (kindOf left) with
    | true =>
      obtain ⟨x, hx⟩ : ∃ x : Bx, x = ⟨kindOf left, dep, []⟩ := ⟨_, rfl⟩
      have xd : x.d = dep := by rw [hx]
      have xk : x.k = kindOf left := by rw [hx]
      have xz : x.z = [] := by rw [hx]
      have hstx : strOk none (s.l ++ [x]) = true := by
        rw [strOk_append, hst, Bool.true_and, strOk, Bool.and_eq_true]
        exact ⟨step_yes (by rw [xk]; exact q4) (by omega) (by omega) (.inr (by rw [xz]; rfl)) (by omega), rfl⟩
      have htx : total (s.l ++ [x]) = total s.l := by rw [total_append]; simp [total, xz]
      have hlx : (s.l ++ [x]).length = s.l.length + 1 := by simp
      have hlast : lastOr none (s.l ++ [x]) = some x := by rw [lastOr_append]; rfl
      have hdx : dpOf (some x) = dep + 1 := by
        unfold dpOf
        dsimp only
        rw [xk, hh, xd]; simp
      obtain ⟨l1, a1, a2, a3, a4, a5, a6, a7, a8⟩ := ih (inner left) (dep + 1) (pos + 8) ⟨s.l ++ [x], s.n⟩ (by omega) hbi (by omega) (by show dep + 1 ≤ dpOf (lastOr none (s.l ++ [x])); rw [hlast, hdx]; omega) (by show (s.l ++ [x]).length ≤ 200; omega) hstx (by show s.n = _; rw [htx]; exact hsn) hs2
      have hrd : rdAll n (inner left) (dep + 1) (pos + 8) ⟨s.l ++ [⟨kindOf left, dep, []⟩], s.n⟩ = rdAll n (inner left) (dep + 1) (pos + 8) ⟨s.l ++ [x], s.n⟩ := by rw [hx]
      simp only at a1 a2 a3 a4 a5
      have a6' : ∀ y ∈ l1, dep ≤ y.d := fun y hy => by have := a6 y hy; omega
      cases hr : rdAll n (inner left) (dep + 1) (pos + 8) ⟨s.l ++ [x], s.n⟩ with
      | mk s1 r1 =>
        rw [hr] at a1 a4 a7 a8
        simp only at a1 a4 a7 a8
        cases r1 with
        | some f =>
          rw [rd_in_fault hlen hf hh (hrd.trans hr)]
          refine ⟨x :: l1, by simp only [a1]; simp, by simpa using a2, by simpa using a3, by simp only [a4]; simp, by simpa using a5, ?_, fun h => by simp at h, fun g hg => ?_⟩
          · intro y hy
            rcases List.mem_cons.1 hy with rfl | hy
            · omega
            · exact a6' y hy
          · simp only [Option.some.injEq] at hg
            subst hg
            obtain ⟨b1, b2, b3⟩ := a8 f rfl
            exact ⟨b1, by omega, by omega⟩
        | none =>
          rw [rd_in_go hlen hf hh (hrd.trans hr)]
          obtain ⟨e1, e2⟩ := a7 rfl
          have hl1 : lastOr none (s.l ++ [x] ++ l1) = lastOr (some x) l1 := by rw [lastOr_append, hlast]
          obtain ⟨l2, c1, c2, c3, c4, c5, c6, c7, c8⟩ := ih (rest left) dep (pos + siz left) s1 (by omega) hbr hd0 (by rw [a1, hl1]; exact dpOf_last xd a6') (by rw [a1]; exact a3) (by rw [a1]; exact a2) (by rw [a1]; exact a4) (by rw [a4]; exact a5)
          rw [a1] at c1 c2 c3 c4 c5
          have hcat : s.l ++ [x] ++ l1 ++ l2 = s.l ++ (x :: (l1 ++ l2)) := by simp
          rw [hcat] at c1 c2 c3 c4 c5
          refine ⟨x :: (l1 ++ l2), c1, c2, c3, c4, c5, ?_, fun h => ?_, fun f h => ?_⟩
          · intro y hy
            rcases List.mem_cons.1 hy with rfl | hy
            · omega
            · rcases List.mem_append.1 hy with hy | hy
              · exact a6' y hy
              · exact c6 y hy
          · obtain ⟨d1, d2⟩ := c7 h
            obtain ⟨m1, m2⟩ := dpr_mid (x := x) (l1 := l1) (l2 := l2) (fun y hy => by have := a6 y hy; omega) (fun y hy => by have := d2 y hy; omega)
            refine ⟨?_, fun y hy => by simp at hy; rw [← hy]; exact xd⟩
            have hk4 : ∀ y ∈ l1, y.k.size = 4 := by
              intro y hy
              exact strOk_k4 none _ a2 y (by simp [hy])
            have hfl1 := fl_len l1 hk4
            rw [e1] at hfl1
            have htt : ((tot (x :: l1) : Nat) : Int) = siz left := by rw [tot_cons, xz]; simp; omega
            rw [fl_head, m1, m2, e1, d1, xk, hkb, xz, List.nil_append, be4_siz q1 hbd _ htt]
            exact hlp.symm
          · obtain ⟨b1, b2, b3⟩ := c8 f h
            exact ⟨b1, by omega, by omega⟩
    | false =>
      obtain ⟨x, hx⟩ : ∃ x : Bx, x = ⟨kindOf left, dep, inner left⟩ := ⟨_, rfl⟩
      have xd : x.d = dep := by rw [hx]
      have xk : x.k = kindOf left := by rw [hx]
      have xz : x.z = inner left := by rw [hx]
      have hstx : strOk none (s.l ++ [x]) = true := by
        rw [strOk_append, hst, Bool.true_and, strOk, Bool.and_eq_true]
        exact ⟨step_yes (by rw [xk]; exact q4) (by omega) (by omega) (.inl (by rw [xk]; exact hh)) (by omega), rfl⟩
      have htx : (total (s.l ++ [x]) : Int) = s.n + siz left - 8 := by
        have : total (s.l ++ [x]) = total s.l + (inner left).length := by rw [total_append]; simp [total, xz]
        omega
      have hlx : (s.l ++ [x]).length = s.l.length + 1 := by simp
      have hlast : lastOr none (s.l ++ [x]) = some x := by rw [lastOr_append]; rfl
      have q7' : s.n + siz left - 8 ≤ 20000 := by rcases q7 with q7 | q7; rw [hh] at q7; cases q7; exact q7
      rw [rd_leaf hlen hf hh]
      have hs1 : (⟨s.l ++ [⟨kindOf left, dep, inner left⟩], s.n + siz left - 8⟩ : RS) = ⟨s.l ++ [x], s.n + siz left - 8⟩ := by rw [hx]
      rw [hs1]
      obtain ⟨l2, c1, c2, c3, c4, c5, c6, c7, c8⟩ := ih (rest left) dep (pos + siz left) ⟨s.l ++ [x], s.n + siz left - 8⟩ (by omega) hbr hd0 (by show dep ≤ dpOf (lastOr none (s.l ++ [x])); rw [hlast]; exact dpOf_last (l := []) xd (by simp)) (by show (s.l ++ [x]).length ≤ 200; omega) hstx htx.symm q7'
      simp only at c1 c2 c3 c4 c5
      have hcat : s.l ++ [x] ++ l2 = s.l ++ (x :: l2) := by simp
      rw [hcat] at c1 c2 c3 c4 c5
      refine ⟨x :: l2, c1, c2, c3, c4, c5, ?_, fun h => ?_, fun f h => ?_⟩
      · intro y hy
        rcases List.mem_cons.1 hy with rfl | hy
        · omega
        · exact c6 y hy
      · obtain ⟨d1, d2⟩ := c7 h
        obtain ⟨m1, m2⟩ := dpr_mid (x := x) (l1 := []) (l2 := l2) (fun y hy => by simp at hy) (fun y hy => by have := d2 y hy; omega)
        rw [List.nil_append] at m1 m2
        refine ⟨?_, fun y hy => by simp at hy; rw [← hy]; exact xd⟩
        have htt : ((tot [x] : Nat) : Int) = siz left := by rw [tot_cons, xz]; simp [tot, total]; omega
        rw [fl_head, m1, m2, d1, xk, hkb, xz, be4_siz q1 hbd _ htt]
        show _ = left
        rw [show fl [] = [] from rfl, List.nil_append]
        exact hlp.symm
      · obtain ⟨b1, b2, b3⟩ := c8 f h
        exact ⟨b1, by omega, by omega⟩

/-- what the law asks of what is read -/
theorem one_facts (zs : List Int) (hbd : ∀ z ∈ zs, 0 ≤ z ∧ z ≤ 255) :
    ok (rdTop zs).1 = true ∧ ((rdTop zs).2.1 = 0 → (rdTop zs).2 = (0, 0) ∧ rdBoxes zs = (rdTop zs).1 ∧ sh (rdTop zs).1 = zs) ∧ ((rdTop zs).2.1 ≠ 0 → rdBoxes zs = [] ∧ 0 ≤ (rdTop zs).2.2 ∧ (rdTop zs).2.2 < zs.length) := by
  by_cases hl : 40000 < zs.length
  · have e : rdTop zs = ([], (1, 0)) := by unfold rdTop; rw [if_pos hl]
    have e2 : rdBoxes zs = [] := by unfold rdBoxes; rw [e]; rfl
    rw [e2, e]
    exact ⟨by rfl, fun h => by simp at h, fun _ => ⟨rfl, by simp, by simp; omega⟩⟩
  · have e : rdTop zs = ((rdAll (zs.length + 1) zs 0 0 ⟨[], 0⟩).1.l, (rdAll (zs.length + 1) zs 0 0 ⟨[], 0⟩).2.getD (0, 0)) := by unfold rdTop; rw [if_neg hl]
    obtain ⟨l', a1, a2, a3, a4, a5, a6, a7, a8⟩ := rd_fact (zs.length + 1) zs 0 0 ⟨[], 0⟩ (by omega) hbd (by omega) (by decide) (by simp) (by rfl) (by rfl) (by decide)
    simp only [List.nil_append] at a1 a2 a3 a5
    have e3 : rdBoxes zs = if (rdTop zs).2 = (0, 0) then (rdTop zs).1 else [] := rfl
    rw [e3, e, a1]
    have hok : ok l' = true := by
      unfold ok
      simp only [Bool.and_eq_true, decide_eq_true_eq]
      exact ⟨⟨a3, a2⟩, by omega⟩
    refine ⟨hok, ?_, ?_⟩
    · intro h
      cases hr : (rdAll (zs.length + 1) zs 0 0 ⟨[], 0⟩).2 with
      | none =>
        refine ⟨rfl, by simp, ?_⟩
        unfold sh
        rw [if_pos hok]
        exact (a7 hr).1
      | some f =>
        rw [hr] at h
        exact absurd h (a8 f hr).1
    · intro h
      cases hr : (rdAll (zs.length + 1) zs 0 0 ⟨[], 0⟩).2 with
      | none => rw [hr] at h; simp at h
      | some f =>
        rw [hr] at h
        obtain ⟨b1, b2, b3⟩ := a8 f hr
        refine ⟨if_neg (fun e => b1 ?_), by simpa using b2, by simpa using b3⟩
        have : f = (0, 0) := e
        rw [this]

end Go.Proofs.Ytfdbnlmfnhhcbaa
