/-
  Plain facts of joined tracks: joining a track gives a track, joined again it is itself, and what is seen tells a joined track; what is seen behind an insert and an overwrite; no program is named.
-/
import Derived.Test.YtfhbmfndjbdhcaaGreatDoorEdP
namespace Go.Proofs.YtfhbmfndjbdhcaaGreatDoor
set_option linter.unusedVariables false
set_option linter.unusedSimpArgs false

theorem clen_mem {l : List Kl} (h : AOk l) {c : Kl} (hc : c ∈ l) : c.2.2 ≤ clen l := by
  induction l with
  | nil => simp at hc
  | cons d l ih =>
    have h0 := clen_nonneg h.tail
    have h1 := h.head.1
    simp only [clen]
    rcases List.mem_cons.1 hc with rfl | hc
    · omega
    · have := ih h.tail hc; omega
theorem jstep_ok {o : List Kl} {c : Kl} (ho : AOk o) (hc : COk c) (hs : clen o + c.2.2 ≤ 10000000) : AOk (jstep o c) := by
  rcases List.eq_nil_or_concat o with rfl | ⟨o, p, rfl⟩
  · exact AOk.cons hc AOk.nil
  · rw [List.concat_eq_append] at *
    rw [jstep_snoc]
    have hp : COk p := ho p (by simp)
    have ho' : AOk o := fun x hx => ho x (by simp [hx])
    have hl : p.2.2 ≤ clen (o ++ [p]) := clen_mem ho (by simp)
    split
    · rename_i hg
      refine ho'.append (AOk.cons ?_ AOk.nil)
      obtain ⟨g1, g2⟩ := hg
      obtain ⟨a1, a2, a3, a4, a5⟩ := hp
      obtain ⟨b1, b2, b3, b4, b5⟩ := hc
      unfold COk
      simp only
      refine ⟨by omega, by omega, by omega, by omega, by omega⟩
    · exact ho.append (AOk.cons hc AOk.nil)
theorem foldl_ok {l o : List Kl} (ho : AOk o) (hl : AOk l) (hs : clen o + clen l ≤ 10000000) : AOk (l.foldl jstep o) := by
  induction l generalizing o with
  | nil => exact ho
  | cons c l ih =>
    have h0 := clen_nonneg hl.tail
    simp only [clen] at hs
    rw [List.foldl_cons]
    exact ih (jstep_ok ho hl.head (by omega)) hl.tail (by rw [clen_jstep]; omega)
theorem join_tok {l : List Kl} (h : TOk l) : TOk (join l) := by
  refine ⟨Nat.le_trans (len_join l) h.1, foldl_ok AOk.nil h.2.1 (by simp only [clen]; have := h.2.2; omega), ?_⟩
  rw [clen_join]; exact h.2.2

/-- no clip goes on where the one ahead ends -/
def NJ : List Kl → Prop
  | [] => True
  | [_] => True
  | p :: c :: l => ¬ goes p c ∧ NJ (c :: l)
theorem NJ.tail {c : Kl} {l : List Kl} (h : NJ (c :: l)) : NJ l := by
  cases l with
  | nil => trivial
  | cons d l => exact h.2
theorem NJ.snoc {o : List Kl} {p c : Kl} (h : NJ (o ++ [p])) (hg : ¬ goes p c) : NJ (o ++ [p] ++ [c]) := by
  induction o with
  | nil => exact ⟨hg, trivial⟩
  | cons d o ih =>
    cases o with
    | nil => exact ⟨h.1, hg, trivial⟩
    | cons e o => exact ⟨h.1, ih h.2⟩
theorem NJ.last {o : List Kl} {p q : Kl} (h : NJ (o ++ [p])) (h1 : q.1 = p.1) (h2 : q.2.1 = p.2.1) : NJ (o ++ [q]) := by
  induction o with
  | nil => trivial
  | cons d o ih =>
    cases o with
    | nil =>
      refine ⟨fun hg => h.1 ?_, trivial⟩
      obtain ⟨g1, g2⟩ := hg
      exact ⟨by omega, by omega⟩
    | cons e o => exact ⟨h.1, ih h.2⟩
theorem NJ.jstep {o : List Kl} {c : Kl} (h : NJ o) : NJ (jstep o c) := by
  rcases List.eq_nil_or_concat o with rfl | ⟨o, p, rfl⟩
  · trivial
  · rw [List.concat_eq_append] at *
    rw [jstep_snoc]
    split
    · exact h.last rfl rfl
    · rename_i hg; exact h.snoc hg
theorem nj_foldl {l o : List Kl} (h : NJ o) : NJ (l.foldl jstep o) := by
  induction l generalizing o with
  | nil => exact h
  | cons c l ih => exact ih h.jstep
theorem nj_join (l : List Kl) : NJ (join l) := nj_foldl trivial
theorem join_nj_aux {l o : List Kl} (h : NJ (o ++ l)) : l.foldl jstep o = o ++ l := by
  induction l generalizing o with
  | nil => simp
  | cons c l ih =>
    rw [List.foldl_cons]
    have e : jstep o c = o ++ [c] := by
      rcases List.eq_nil_or_concat o with rfl | ⟨o, p, rfl⟩
      · rfl
      · rw [List.concat_eq_append] at *
        rw [jstep_snoc, if_neg]
        intro hg
        clear ih
        induction o with
        | nil => exact h.1 hg
        | cons d o ih => exact ih (NJ.tail (c := d) h)
    rw [e]
    have e2 : o ++ c :: l = (o ++ [c]) ++ l := by simp
    rw [e2] at h ⊢
    exact ih h
theorem join_nj {l : List Kl} (h : NJ l) : join l = l := by
  have := join_nj_aux (l := l) (o := []) (by simpa using h)
  simpa [join] using this
theorem join_join (l : List Kl) : join (join l) = join l := join_nj (nj_join l)

theorem sv_inj {c d : Kl} (hc : COk c) (hd : COk d) (h : sv c 0 = sv d 0) : c.1 = d.1 ∧ c.2.1 = d.2.1 := by
  obtain ⟨_, _, _, _, h5⟩ := hc
  obtain ⟨_, _, _, _, k5⟩ := hd
  unfold sv at h
  split at h
  · split at h
    · exact ⟨by omega, by omega⟩
    · injection h with h1 h2; omega
  · split at h
    · injection h with h1 h2; omega
    · injection h with h1 h2; exact ⟨h1, by omega⟩
/-- what is seen tells a joined list -/
theorem seen_tells {l m : List Kl} (hl : AOk l) (hm : AOk m) (nl : NJ l) (nm : NJ m) (hc : clen l = clen m) (hs : ∀ i, 0 ≤ i → seen l i = seen m i) : l = m := by
  induction l generalizing m with
  | nil =>
    cases m with
    | nil => rfl
    | cons d m => have := hm.head.1; have := clen_nonneg hm.tail; simp only [clen] at hc; omega
  | cons c l ih =>
    cases m with
    | nil => have := hl.head.1; have := clen_nonneg hl.tail; simp only [clen] at hc; omega
    | cons d m =>
      have c1 := hl.head.1
      have d1 := hm.head.1
      have l0 := clen_nonneg hl.tail
      have m0 := clen_nonneg hm.tail
      simp only [clen] at hc
      have h0 := hs 0 (by omega)
      rw [seen_lt (by omega), seen_lt (by omega)] at h0
      obtain ⟨e1, e2⟩ := sv_inj hl.head hm.head h0
      have key : ∀ {c d : Kl} {l m : List Kl}, AOk (c :: l) → AOk (d :: m) → NJ (c :: l) → c.1 = d.1 → c.2.1 = d.2.1 → c.2.2 < d.2.2 → c.2.2 + clen l = d.2.2 + clen m → seen (c :: l) c.2.2 = seen (d :: m) c.2.2 → False := by
        intro c d l m hl hm nl e1 e2 hlt hc hs
        have c1 := hl.head.1
        have m0 := clen_nonneg hm.tail
        cases l with
        | nil => simp only [clen] at hc; omega
        | cons f l =>
          rw [seen_ge (by omega), seen_lt hlt] at hs
          have f1 := hl.tail.head.1
          have e0 : c.2.2 - c.2.2 = 0 := by omega
          rw [e0, seen_lt (by omega)] at hs
          apply nl.1
          obtain ⟨_, _, _, _, h5⟩ := hl.head
          obtain ⟨_, _, _, _, k5⟩ := hl.tail.head
          obtain ⟨_, _, _, _, d5⟩ := hm.head
          unfold sv at hs
          unfold goes
          split at hs
          · split at hs
            · exact ⟨by omega, by omega⟩
            · injection hs with h1 h2; omega
          · split at hs
            · injection hs with h1 h2; omega
            · injection hs with h1 h2; exact ⟨by omega, by omega⟩
      have e3 : c.2.2 = d.2.2 := by
        rcases Int.lt_trichotomy c.2.2 d.2.2 with h | h | h
        · exact (key hl hm nl e1 e2 h hc (hs _ (by omega))).elim
        · exact h
        · exact (key hm hl nm e1.symm e2.symm h (by omega) (hs _ (by omega)).symm).elim
      have ecd : c = d := by
        obtain ⟨a, b, e⟩ := c
        obtain ⟨a', b', e'⟩ := d
        simp only at e1 e2 e3
        subst e1 e2 e3
        rfl
      subst ecd
      have := ih hl.tail hm.tail nl.tail nm.tail (by omega) (fun i hi => by
        have := hs (i + c.2.2) (by omega)
        rw [seen_ge (by omega), seen_ge (by omega)] at this
        have e : i + c.2.2 - c.2.2 = i := by omega
        rw [e] at this
        exact this)
      rw [this]

/-- a clip put over -/
theorem over_sees {l u : List Kl} {t : Int} {c : Kl} (hu : overS l t c = some u) : TOk l ∧ COk c ∧ InR t 0 (clen l) ∧ TOk u ∧ clen u = max (clen l) (t + c.2.2) ∧ ∀ i, frameAt u i = if t ≤ i ∧ i < t + c.2.2 then sv c (i - t) else frameAt l i := by
  unfold overS at hu
  split at hu
  case isFalse => cases hu
  rename_i hr
  obtain ⟨h, hg, h1, h2⟩ := hr
  unfold putS at hu
  have hA : AOk (part l 0 t ++ [c] ++ part l (t + c.2.2) 10000000) := ((part_ok h.2.1 _ _).append (aok_one.2 hg)).append (part_ok h.2.1 _ _)
  rw [edit_ok hA] at hu
  split at hu
  case isFalse => cases hu
  rename_i hT
  injection hu with hu
  subst hu
  have hL := h.2.2
  have hn := hg.1
  have e1 : clen (part l 0 t) = t := by rw [clen_part h.2.1]; omega
  have e2 : clen (part l (t + c.2.2) 10000000) = max 0 (clen l - (t + c.2.2)) := by rw [clen_part h.2.1]; omega
  have e3 : clen (part l 0 t ++ [c] ++ part l (t + c.2.2) 10000000) = max (clen l) (t + c.2.2) := by
    rw [clen_append, clen_append, e1, e2]; simp only [clen]; omega
  refine ⟨h, hg, ⟨h1, h2⟩, hT, by rw [clen_join, e3], ?_⟩
  intro i
  by_cases hi : 0 ≤ i
  · rw [frameAt_yes hT hi, frameAt_yes h hi, seen_join hA.nn hi]
    rw [List.append_assoc, seen_append (part_ok h.2.1 _ _).nn hi, e1]
    by_cases a1 : i < t
    · rw [if_pos a1, if_neg (show ¬ (t ≤ i ∧ i < t + c.2.2) by omega), seen_part h.2.1 hi (by omega)]
      congr 1; omega
    · rw [if_neg a1, seen_append (aok_one.2 hg).nn (by omega)]
      simp only [clen, Int.add_zero]
      by_cases a2 : i - t < c.2.2
      · rw [if_pos a2, if_pos (show t ≤ i ∧ i < t + c.2.2 by omega)]
        rw [seen_lt a2]
      · rw [if_neg a2, if_neg (show ¬ (t ≤ i ∧ i < t + c.2.2) by omega)]
        by_cases a3 : i < clen l
        · rw [seen_part h.2.1 (by omega) (by omega)]
          congr 1; omega
        · rw [seen_past h.2.1 (by omega), seen_past (part_ok h.2.1 _ _) (by rw [e2]; omega)]
  · rw [frameAt_neg hi, frameAt_neg hi, if_neg (show ¬ (t ≤ i ∧ i < t + c.2.2) by omega)]

/-- a clip put in, and taken out again -/
theorem insert_sees {l u : List Kl} {t : Int} {c : Kl} (hu : insertS l t c = some u) : TOk l ∧ COk c ∧ InR t 0 (clen l) ∧ TOk u ∧ clen u = clen l + c.2.2 ∧ frameAt u t = (c.1, c.2.1) ∧ extractS u t c.2.2 = some (join l) := by
  unfold insertS at hu
  split at hu
  case isFalse => cases hu
  rename_i hr
  obtain ⟨h, hg, h1, h2⟩ := hr
  unfold putS at hu
  have hA : AOk (part l 0 t ++ [c] ++ part l t 10000000) := ((part_ok h.2.1 _ _).append (aok_one.2 hg)).append (part_ok h.2.1 _ _)
  rw [edit_ok hA] at hu
  split at hu
  case isFalse => cases hu
  rename_i hT
  injection hu with hu
  subst hu
  have hL := h.2.2
  have hn := hg.1
  have e1 : clen (part l 0 t) = t := by rw [clen_part h.2.1]; omega
  have e2 : clen (part l t 10000000) = clen l - t := by rw [clen_part h.2.1]; omega
  have e3 : clen (part l 0 t ++ [c] ++ part l t 10000000) = clen l + c.2.2 := by
    rw [clen_append, clen_append, e1, e2]; simp only [clen]; omega
  have hse : ∀ i, 0 ≤ i → seen (join (part l 0 t ++ [c] ++ part l t 10000000)) i = if i < t then seen l i else if i < t + c.2.2 then sv c (i - t) else seen l (i - c.2.2) := by
    intro i hi
    rw [seen_join hA.nn hi, List.append_assoc, seen_append (part_ok h.2.1 _ _).nn hi, e1]
    by_cases a1 : i < t
    · rw [if_pos a1, if_pos a1, seen_part h.2.1 hi (by omega)]
      congr 1; omega
    · rw [if_neg a1, if_neg a1, seen_append (aok_one.2 hg).nn (by omega)]
      simp only [clen, Int.add_zero]
      by_cases a2 : i - t < c.2.2
      · rw [if_pos a2, if_pos (show i < t + c.2.2 by omega), seen_lt a2]
      · rw [if_neg a2, if_neg (show ¬ i < t + c.2.2 by omega)]
        by_cases a3 : i - c.2.2 < clen l
        · rw [seen_part h.2.1 (by omega) (by omega)]
          congr 1; omega
        · rw [seen_past h.2.1 (by omega), seen_past (part_ok h.2.1 _ _) (by rw [e2]; omega)]
  generalize hU : join (part l 0 t ++ [c] ++ part l t 10000000) = U at *
  have hUl : clen U = clen l + c.2.2 := by rw [← hU, clen_join, e3]
  have hUm := hT.2.2
  refine ⟨h, hg, ⟨h1, h2⟩, hT, hUl, ?_, ?_⟩
  · rw [frameAt_yes hT h1, hse t h1, if_neg (by omega), if_pos (by omega)]
    obtain ⟨_, _, _, _, h5⟩ := hg
    unfold sv
    split
    · rename_i hz
      have : c.2.1 = 0 := by omega
      rw [hz, this]
    · congr 1; omega
  · have hR : Rng U t c.2.2 := ⟨hT, ⟨h1, by omega⟩, ⟨hn, by omega⟩⟩
    unfold extractS
    rw [if_pos hR]
    unfold putS
    have hB : AOk (part U 0 t ++ [] ++ part U (t + c.2.2) 10000000) := ((part_ok hT.2.1 _ _).append AOk.nil).append (part_ok hT.2.1 _ _)
    have f1 : clen (part U 0 t) = t := by rw [clen_part hT.2.1]; omega
    have f2 : clen (part U (t + c.2.2) 10000000) = clen l - t := by rw [clen_part hT.2.1]; omega
    have hj : join (part U 0 t ++ [] ++ part U (t + c.2.2) 10000000) = join l := by
      refine seen_tells ?_ (join_tok h).2.1 (nj_join _) (nj_join _) ?_ ?_
      · refine foldl_ok AOk.nil hB ?_
        rw [clen_append, clen_append, f1, f2]; simp only [clen]; omega
      · rw [clen_join, clen_join, clen_append, clen_append, f1, f2]; simp only [clen]; omega
      · intro i hi
        rw [seen_join hB.nn hi, seen_join h.2.1.nn hi, List.append_nil, seen_append (part_ok hT.2.1 _ _).nn hi, f1]
        by_cases a1 : i < t
        · rw [if_pos a1, seen_part hT.2.1 hi (by omega), hse _ (by omega), if_pos (by omega)]
          congr 1; omega
        · rw [if_neg a1]
          by_cases a2 : i < clen l
          · rw [seen_part hT.2.1 (by omega) (by omega), hse _ (by omega), if_neg (by omega), if_neg (by omega)]
            congr 1; omega
          · rw [seen_past h.2.1 (by omega), seen_past (part_ok hT.2.1 _ _) (by rw [f2]; omega)]
    rw [edit_ok hB, hj, if_pos (join_tok h)]

end Go.Proofs.YtfhbmfndjbdhcaaGreatDoor
