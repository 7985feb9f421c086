/-
  Plain: titles are read back from their text; a text that is read is the one text of its titles. No program is named here; there are no conditions.
-/
import Derived.Test.YtcpllfjhhlbmiaaDoorRdP
namespace Go.Proofs.YtcpllfjhhlbmiaaDoor
open Go.RowKit
set_option linter.unusedVariables false
set_option linter.unusedSimpArgs false

theorem cutN_of {x : List UInt8} (h : ∀ b ∈ x, b ≠ 10) (r : List UInt8) : cutN (x ++ 10 :: r) = some (x, r) := by
  induction x with
  | nil => simp [cutN]
  | cons b x ih =>
    have hb : b ≠ 10 := h b (by simp)
    have := ih (fun c hc => h c (by simp [hc]))
    simp only [List.cons_append, cutN, if_neg hb, this]
theorem cutN_no : ∀ {r x r' : List UInt8}, cutN r = some (x, r') → ∀ b ∈ x, b ≠ 10 := by
  intro r
  induction r with
  | nil => intro x r' h; simp [cutN] at h
  | cons c r ih =>
    intro x r' h b hb
    unfold cutN at h
    by_cases hc : c = 10
    · rw [if_pos hc] at h
      injection h with h
      injection h with h1 h2
      subst h1
      cases hb
    · rw [if_neg hc] at h
      cases hq : cutN r with
      | none => rw [hq] at h; simp at h
      | some p =>
        obtain ⟨y, s⟩ := p
        rw [hq] at h
        simp only [Option.some.injEq, Prod.mk.injEq] at h
        obtain ⟨rfl, rfl⟩ := h
        rcases List.mem_cons.1 hb with rfl | hb
        · exact hc
        · exact ih hq b hb
theorem dg_ne (k : Nat) : Pl.dg k ≠ 10 := by
  intro e
  have := congrArg UInt8.toNat e
  rw [Pl.dg_toNat] at this
  have h32 : (10 : UInt8).toNat = 10 := rfl
  omega
theorem mt_no10 (a : Nat) : ∀ x ∈ mt a, x ≠ 10 := by
  intro x hx
  simp only [mt, Pl.two, Pl.three, List.mem_append, List.mem_cons, List.mem_nil_iff, or_false] at hx
  rcases hx with (((((((h | h) | h) | (h | h)) | h) | (h | h)) | h) | (h | h | h)) <;> subst h <;> first | exact dg_ne _ | decide
/-- a text is one line, or a line and a text behind it -/
theorem tx_cases {t : List UInt8} (h : tx true t = true) : (t ≠ [] ∧ ∀ b ∈ t, b ≠ 10) ∨ ∃ x t', t = x ++ 10 :: t' ∧ x ≠ [] ∧ (∀ b ∈ x, b ≠ 10) ∧ tx true t' = true := by
  have key : ∀ (l : List UInt8), tx false l = true → (∀ b ∈ l, b ≠ 10) ∨ ∃ x t', l = x ++ 10 :: t' ∧ (∀ b ∈ x, b ≠ 10) ∧ tx true t' = true := by
    intro l
    induction l with
    | nil => intro _; left; intro b hb; cases hb
    | cons b l ih =>
      intro hl
      by_cases hb : b = 10
      · subst hb
        simp [tx] at hl
        exact .inr ⟨[], l, rfl, fun c hc => (by cases hc), hl⟩
      · simp [tx, hb] at hl
        rcases ih hl.2 with h1 | ⟨x, t', h1, h2, h3⟩
        · left
          intro c hc
          rcases List.mem_cons.1 hc with rfl | hc
          · exact hb
          · exact h1 c hc
        · refine .inr ⟨b :: x, t', by rw [h1]; rfl, fun c hc => ?_, h3⟩
          rcases List.mem_cons.1 hc with rfl | hc
          · exact hb
          · exact h2 c hc
  cases t with
  | nil => simp [tx] at h
  | cons b l =>
    by_cases hb : b = 10
    · subst hb; simp [tx] at h
    · simp [tx, hb] at h
      rcases key l h.2 with h1 | ⟨x, t', h1, h2, h3⟩
      · left
        refine ⟨by simp, fun c hc => ?_⟩
        rcases List.mem_cons.1 hc with rfl | hc
        · exact hb
        · exact h1 c hc
      · refine .inr ⟨b :: x, t', by rw [h1]; rfl, by simp, fun c hc => ?_, h3⟩
        rcases List.mem_cons.1 hc with rfl | hc
        · exact hb
        · exact h2 c hc
theorem blkF_text (f : Nat) : ∀ (t ws rest : List UInt8), tx true t = true → t.length + 2 ≤ f → blkF f ws (t ++ 10 :: 10 :: rest) = some (ws ++ t ++ [10], rest) := by
  induction f with
  | zero => intro t ws rest _ h; omega
  | succ f ih =>
    intro t ws rest ht hf
    rcases tx_cases ht with ⟨h1, h2⟩ | ⟨x, t', rfl, hx, h2, h3⟩
    · obtain ⟨f', rfl⟩ : ∃ f', f = f' + 1 := ⟨f - 1, by omega⟩
      simp only [blkF, cutN_of h2, if_neg h1]
      simp [cutN]
    · have e : x ++ 10 :: t' ++ 10 :: 10 :: rest = x ++ 10 :: (t' ++ 10 :: 10 :: rest) := by simp
      rw [e]
      simp only [blkF, cutN_of h2, if_neg hx]
      rw [ih t' _ rest h3 (by simp at hf; omega)]
      simp
theorem blkF_back (f : Nat) : ∀ (ws r ws' r' : List UInt8), blkF f ws r = some (ws', r') → ws' ++ 10 :: r' = ws ++ r ∧ (ws' = ws ∨ ∃ y, ws' = y ++ [10]) := by
  induction f with
  | zero => intro ws r ws' r' h; cases h
  | succ f ih =>
    intro ws r ws' r' h
    simp only [blkF] at h
    cases hc : cutN r with
    | none => rw [hc] at h; cases h
    | some p =>
      obtain ⟨x, r1⟩ := p
      rw [hc] at h
      simp only at h
      have hp := cutN_parts hc
      by_cases hx : x = []
      · rw [if_pos hx] at h
        injection h with h
        injection h with h1 h2
        subst h1 h2 hx
        exact ⟨by rw [hp]; rfl, .inl rfl⟩
      · rw [if_neg hx] at h
        obtain ⟨h1, h2⟩ := ih _ _ _ _ h
        refine ⟨by rw [h1, hp]; simp, ?_⟩
        rcases h2 with rfl | h2
        · exact .inr ⟨ws ++ x, rfl⟩
        · exact .inr h2
theorem trm_snoc (t : List UInt8) : trm (t ++ [10]) = t := by
  unfold trm Lib.trimSuffix
  have h : Lib.hasSuffix (t ++ [10]) [10] = true := by simp [Lib.hasSuffix]
  rw [if_pos h]
  simp
theorem trm_nil : trm [] = [] := by
  unfold trm Lib.trimSuffix
  split <;> rfl
theorem dec_no10 : ∀ (n : Nat), ∀ b ∈ Pl.dec n, b ≠ 10 := by
  intro n
  induction n using Nat.strongRecOn with
  | _ n ih =>
    intro b hb
    by_cases h : n < 10
    · rw [Pl.dec_small h] at hb
      simp at hb
      subst hb
      exact dg_ne _
    · rw [Pl.dec_step (by omega)] at hb
      rcases List.mem_append.1 hb with hb | hb
      · exact ih (n / 10) (by omega) b hb
      · simp at hb
        subst hb
        exact dg_ne _
/-- the text of titles, numbered from i on -/
def shF : Nat → List Kl → List UInt8
  | _, [] => []
  | i, x :: l => tl i x ++ shF (i + 1) l
theorem shF_snoc (l : List Kl) : ∀ (i : Nat) (x : Kl), shF i (l ++ [x]) = shF i l ++ tl (i + l.length) x := by
  induction l with
  | nil => intro i x; simp [shF]
  | cons y l ih =>
    intro i x
    simp only [List.cons_append, shF, ih, List.append_assoc, List.length_cons]
    rw [show i + 1 + l.length = i + (l.length + 1) by omega]
theorem shw_shF (l : List Kl) : ∀ k, k ≤ l.length → shw l k = shF 0 (l.take k) := by
  intro k
  induction k with
  | zero => intro _; rfl
  | succ k ih =>
    intro hk
    have hx : l[k]? = some (l[k]'(by omega)) := List.getElem?_eq_getElem (by omega)
    rw [shw_step hx, ih (by omega), take_snocK hx, shF_snoc]
    have : (l.take k).length = k := by simp; omega
    rw [this, Nat.zero_add]
theorem showT_shF {l : List Kl} (h : tOk l = true) : showT l = shF 0 l := by
  unfold showT
  rw [if_pos h, shw_shF l l.length (Nat.le_refl _), List.take_length]
theorem tl_ne (i : Nat) (x : Kl) : tl i x ≠ [] := by
  intro h
  have := congrArg List.length h
  simp [tl] at this
theorem tl_form (n : Nat) (x : Kl) (rest : List UInt8) : tl n x ++ rest = Pl.dec (n + 1) ++ 10 :: ((mt x.1.toNat ++ arw ++ mt x.2.1.toNat) ++ 10 :: (x.2.2.data.toList ++ 10 :: 10 :: rest)) := by
  simp [tl, arw]
theorem ar_no10 (a b : Nat) : ∀ c ∈ mt a ++ arw ++ mt b, c ≠ 10 := by
  intro c hc
  rcases List.mem_append.1 hc with hc | hc
  · rcases List.mem_append.1 hc with hc | hc
    · exact mt_no10 a c hc
    · simp [arw] at hc
      rcases hc with rfl | rfl | rfl | rfl <;> decide
  · exact mt_no10 b c hc
theorem ttOk_facts {e : Int} {x : Kl} (h : ttOk e x = true) : e ≤ x.1 ∧ x.1 < x.2.1 ∧ x.2.1 ≤ 359999999 ∧ txOk x.2.2.data.toList = true := by
  simp only [ttOk, Bool.and_eq_true, decide_eq_true_eq] at h
  exact ⟨h.1.1.1, h.1.1.2, h.1.2, h.2⟩
theorem mk_back (s : ByteArray) : (⟨s.data.toList.toArray⟩ : ByteArray) = s := by cases s; simp
theorem tstep_tl {n : Nat} {e : Int} {x : Kl} (he : 0 ≤ e) (hn : n < 200) (h : ttOk e x = true) (rest : List UInt8) : tstep n e (tl n x ++ rest) = (0, x, rest) := by
  obtain ⟨h1, h2, h3, h4⟩ := ttOk_facts h
  have h5 : tx true x.2.2.data.toList = true := by unfold txOk at h4; rw [Bool.and_eq_true] at h4; exact h4.2
  have e1 : ((x.1.toNat : Nat) : Int) = x.1 := by omega
  have e2 : ((x.2.1.toNat : Nat) : Int) = x.2.1 := by omega
  rw [tl_form]
  unfold tstep
  rw [cutN_of (dec_no10 _)]
  simp only [if_true]
  rw [cutN_of (ar_no10 _ _)]
  simp only
  rw [tms_of _ _ (by omega) (by omega)]
  simp only
  rw [if_pos (by omega), blkF_text _ _ _ _ h5 (by first | (simp; done) | (simp; omega))]
  simp only [List.nil_append]
  rw [trm_snoc, if_pos h4, if_neg (by omega), e1, e2, mk_back]
theorem rdF_shF (l : List Kl) : ∀ (acc : List Kl) (e : Int) (f : Nat), 0 ≤ e → tsOk e l = true → acc.length + l.length ≤ 200 → l.length + 1 ≤ f → rdF f acc e (shF acc.length l) = (acc ++ l, 0) := by
  induction l with
  | nil =>
    intro acc e f _ _ _ hf
    obtain ⟨g, rfl⟩ : ∃ g, f = g + 1 := ⟨f - 1, by simp at hf; omega⟩
    simp [rdF, shF]
  | cons x l ih =>
    intro acc e f he h hn hf
    obtain ⟨g, rfl⟩ : ∃ g, f = g + 1 := ⟨f - 1, by simp at hf; omega⟩
    simp only [tsOk, Bool.and_eq_true] at h
    simp only [List.length_cons] at hn hf
    have hs := tstep_tl he (n := acc.length) (by omega) h.1 (shF (acc.length + 1) l)
    obtain ⟨h1, h2, h3, h4⟩ := ttOk_facts h.1
    have hne : shF acc.length (x :: l) ≠ [] := by
      intro h0
      have := congrArg List.length h0
      simp [shF, tl] at this
    unfold rdF
    rw [if_neg hne]
    simp only [shF, hs, if_true]
    have := ih (acc ++ [x]) x.2.1 g (by omega) h.2 (by simp; omega) (by omega)
    simp only [List.length_append, List.length_cons, List.length_nil, Nat.zero_add] at this
    rw [this]
    simp
theorem shF_len (l : List Kl) : ∀ i, l.length ≤ (shF i l).length := by
  induction l with
  | nil => intro i; simp
  | cons x l ih =>
    intro i
    have := ih (i + 1)
    have h2 : 1 ≤ (tl i x).length := by cases h : tl i x with | nil => exact absurd h (tl_ne i x) | cons a b => simp
    simp only [shF, List.length_append, List.length_cons]
    omega
/-- titles are read back from their text -/
theorem titles_back {l : List Kl} (h : tOk l = true) (hl : (showT l).length ≤ 40000) : (if 40000 < (showT l).length then ([], 1, 0) else if (rdF ((showT l).length + 1) [] 0 (showT l)).2 = 0 then ((rdF ((showT l).length + 1) [] 0 (showT l)).1, 0, 0) else ([], (rdF ((showT l).length + 1) [] 0 (showT l)).2, ((rdF ((showT l).length + 1) [] 0 (showT l)).1.length : Int)) : List Kl × Int × Int) = (l, 0, 0) := by
  have hk := h
  unfold tOk at hk
  rw [Bool.and_eq_true] at hk
  have h200 : l.length ≤ 200 := by simpa using hk.1
  rw [if_neg (by omega), showT_shF h]
  have := rdF_shF l [] 0 ((shF 0 l).length + 1) (Int.le_refl 0) hk.2 (by simpa using h200) (by have := shF_len l 0; omega)
  simp only [List.length_nil, List.nil_append] at this
  rw [this]; rfl
theorem tstep_back {n : Nat} {e : Int} {r r3 : List UInt8} {x : Kl} (h : tstep n e r = (0, x, r3)) : r = tl n x ++ r3 ∧ ttOk e x = true ∧ n ≠ 200 := by
  unfold tstep at h
  cases h1 : cutN r with
  | none => rw [h1] at h; simp at h
  | some p =>
    obtain ⟨x1, r1⟩ := p
    rw [h1] at h
    simp only at h
    split at h
    rotate_left
    · simp at h
    rename_i hd
    cases h2 : cutN r1 with
    | none => rw [h2] at h; simp at h
    | some p =>
      obtain ⟨y, r2⟩ := p
      rw [h2] at h
      simp only at h
      cases h3 : tms y with
      | none => rw [h3] at h; simp at h
      | some p =>
        obtain ⟨a, b⟩ := p
        rw [h3] at h
        simp only at h
        split at h
        rotate_left
        · simp at h
        rename_i hab
        cases h4 : blkF (r2.length + 1) [] r2 with
        | none => rw [h4] at h; simp at h
        | some p =>
          obtain ⟨ws, r4⟩ := p
          rw [h4] at h
          simp only at h
          split at h
          rotate_left
          · simp at h
          rename_i htx
          split at h
          · simp at h
          rename_i hn
          simp only [Prod.mk.injEq, true_and] at h
          obtain ⟨hx, rfl⟩ := h
          obtain ⟨b1, b2⟩ := blkF_back _ _ _ _ _ h4
          obtain ⟨t1, t2, t3⟩ := tms_some h3
          have hws : ∃ y, ws = y ++ [10] := by
            rcases b2 with rfl | b2
            · rw [trm_nil] at htx; simp [txOk, tx] at htx
            · exact b2
          obtain ⟨t, rfl⟩ := hws
          rw [trm_snoc] at htx hx
          have hx1 : x = ((a : Int), (b : Int), ⟨t.toArray⟩) := hx.symm
          subst hx1
          refine ⟨?_, ?_, hn⟩
          · rw [tl_form, cutN_parts h1, cutN_parts h2, hd, t1]
            simp only [List.nil_append] at b1
            rw [← b1]
            simp
          · simp only [ttOk, Bool.and_eq_true, decide_eq_true_eq]
            exact ⟨⟨⟨hab.1, hab.2⟩, by omega⟩, by simpa using htx⟩
theorem rdF_back (f : Nat) : ∀ (acc : List Kl) (e : Int) (r : List UInt8) (m : List Kl), r.length < f → acc.length ≤ 200 → rdF f acc e r = (m, 0) → ∃ l, m = acc ++ l ∧ r = shF acc.length l ∧ tsOk e l = true ∧ m.length ≤ 200 := by
  induction f with
  | zero => intro acc e r m hf; omega
  | succ f ih =>
    intro acc e r m hf ha h
    unfold rdF at h
    by_cases hr : r = []
    · rw [if_pos hr] at h
      injection h with h _
      subst h hr
      exact ⟨[], by simp, rfl, rfl, ha⟩
    · rw [if_neg hr] at h
      by_cases hc : (tstep acc.length e r).1 = 0
      · rw [if_pos hc] at h
        have hq : tstep acc.length e r = (0, (tstep acc.length e r).2.1, (tstep acc.length e r).2.2) := Prod.ext hc rfl
        obtain ⟨h1, h2, h3⟩ := tstep_back hq
        generalize (tstep acc.length e r).2.1 = x at *
        generalize (tstep acc.length e r).2.2 = r3 at *
        have h4 : r3.length < f := by
          have := congrArg List.length h1
          have h5 : 1 ≤ (tl acc.length x).length := by cases h : tl acc.length x with | nil => exact absurd h (tl_ne _ x) | cons a b => simp
          rw [List.length_append] at this
          omega
        obtain ⟨l, e1, e2, e3, e4⟩ := ih (acc ++ [x]) x.2.1 r3 m h4 (by simp; omega) h
        refine ⟨x :: l, by rw [e1]; simp, ?_, by simp only [tsOk, Bool.and_eq_true]; exact ⟨h2, e3⟩, e4⟩
        rw [h1]
        simp only [shF]
        rw [e2]
        simp
      · rw [if_neg hc] at h
        injection h with _ h
        exact absurd h hc
/-- a text that is read is the one text of its titles -/
theorem titles_one {r : List UInt8} {m : List Kl} (h : rdF (r.length + 1) [] 0 r = (m, 0)) : tOk m = true ∧ showT m = r := by
  obtain ⟨l, e1, e2, e3, e4⟩ := rdF_back _ _ _ _ _ (Nat.lt_succ_self _) (by simp) h
  simp only [List.nil_append] at e1
  subst e1
  have hk : tOk m = true := by
    unfold tOk
    rw [Bool.and_eq_true]
    exact ⟨by simpa using e4, e3⟩
  exact ⟨hk, by rw [showT_shF hk]; exact e2.symm⟩

end Go.Proofs.YtcpllfjhhlbmiaaDoor
