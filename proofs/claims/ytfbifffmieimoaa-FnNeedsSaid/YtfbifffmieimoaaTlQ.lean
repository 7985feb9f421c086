/-
  Plain facts of reels by their frames: told reels are one list for one set of frames; what is missing is what is needed and not had; no program is named.
-/
import Derived.Test.YtfbifffmieimoaaTlP
namespace Go.Proofs.Ytfbifffmieimoaa
set_option linter.unusedVariables false
set_option linter.unusedSimpArgs false

/-- a frame of a source lies in one of the reels -/
def inR (l : List Kl) (s f : Int) : Prop := ∃ r ∈ l, r.1 = s ∧ r.2.1 ≤ f ∧ f < r.2.2
/-- the one ends ahead of the other, and they do not touch -/
def apart (a b : Kl) : Prop := a.1 < b.1 ∨ (a.1 = b.1 ∧ a.2.2 < b.2.1)
/-- told reels -/
def Td (l : List Kl) : Prop := l.Pairwise apart ∧ ∀ r ∈ l, r.2.1 < r.2.2
theorem inR_nil {s f : Int} : ¬ inR [] s f := by rintro ⟨r, h, _⟩; simp at h
theorem inR_cons {a : Kl} {l : List Kl} {s f : Int} : inR (a :: l) s f ↔ (a.1 = s ∧ a.2.1 ≤ f ∧ f < a.2.2) ∨ inR l s f := by
  constructor
  · rintro ⟨r, h, h'⟩
    rcases List.mem_cons.1 h with e | h
    · subst e; exact Or.inl h'
    · exact Or.inr ⟨r, h, h'⟩
  · rintro (h | ⟨r, h, h'⟩)
    · exact ⟨a, List.mem_cons_self, h⟩
    · exact ⟨r, List.mem_cons_of_mem _ h, h'⟩
theorem inR_append {l m : List Kl} {s f : Int} : inR (l ++ m) s f ↔ inR l s f ∨ inR m s f := by
  constructor
  · rintro ⟨r, h, h'⟩
    rcases List.mem_append.1 h with h | h
    · exact Or.inl ⟨r, h, h'⟩
    · exact Or.inr ⟨r, h, h'⟩
  · rintro (⟨r, h, h'⟩ | ⟨r, h, h'⟩)
    · exact ⟨r, List.mem_append_left _ h, h'⟩
    · exact ⟨r, List.mem_append_right _ h, h'⟩
theorem inR_perm {l m : List Kl} (h : l.Perm m) (s f : Int) : inR l s f ↔ inR m s f :=
  ⟨fun ⟨r, a, b⟩ => ⟨r, h.subset a, b⟩, fun ⟨r, a, b⟩ => ⟨r, h.symm.subset a, b⟩⟩
theorem Td.nil : Td [] := ⟨List.Pairwise.nil, fun r h => by simp at h⟩
theorem Td.tail {a : Kl} {l : List Kl} (h : Td (a :: l)) : Td l := ⟨(List.pairwise_cons.1 h.1).2, fun r hr => h.2 r (List.mem_cons_of_mem _ hr)⟩
theorem Td.off {a : Kl} {l : List Kl} (h : Td (a :: l)) {s f : Int} (hf : inR l s f) : a.1 < s ∨ (a.1 = s ∧ a.2.2 < f) := by
  obtain ⟨r, hr, h1, h2, h3⟩ := hf
  have := (List.pairwise_cons.1 h.1).1 r hr
  unfold apart at this; omega
theorem sorted_mid {x : Kl} {l : List Kl} {t : Int} (h : (x :: l).Pairwise kle) : ((x.1, x.2.1, t) :: l).Pairwise kle := by
  obtain ⟨h1, h2⟩ := List.pairwise_cons.1 h
  exact List.pairwise_cons.2 ⟨fun y hy => by have := h1 y hy; unfold kle at *; exact this, h2⟩
theorem sorted_skip {x r : Kl} {l : List Kl} (h : (x :: r :: l).Pairwise kle) : (x :: l).Pairwise kle := by
  obtain ⟨h1, h2⟩ := List.pairwise_cons.1 h
  exact List.pairwise_cons.2 ⟨fun y hy => h1 y (List.mem_cons_of_mem _ hy), (List.pairwise_cons.1 h2).2⟩
theorem tellG_kle {x : Kl} {l : List Kl} (h : (x :: l).Pairwise kle) : ∀ e ∈ tellG x l, kle x e := by
  induction l generalizing x with
  | nil => intro e he; simp [tellG] at he; subst he; unfold kle; omega
  | cons r l ih =>
    intro e he
    by_cases hh : r.1 = x.1 ∧ r.2.1 ≤ x.2.2
    · rw [tellG_hit hh] at he
      have := ih (sorted_mid (sorted_skip h)) e he
      unfold kle at *; exact this
    · rw [tellG_new hh] at he
      rcases List.mem_cons.1 he with e1 | he
      · subst e1; unfold kle; omega
      · exact ((List.pairwise_cons.1 h).1 r List.mem_cons_self).trans (ih (List.pairwise_cons.1 h).2 e he)
theorem tellG_td {x : Kl} {l : List Kl} (h : (x :: l).Pairwise kle) (hr : ∀ r ∈ x :: l, r.2.1 < r.2.2) : Td (tellG x l) ∧ ∀ s f, inR (tellG x l) s f ↔ inR (x :: l) s f := by
  induction l generalizing x with
  | nil => exact ⟨⟨List.pairwise_singleton _ _, hr⟩, fun s f => Iff.rfl⟩
  | cons r l ih =>
    have hx := hr x List.mem_cons_self
    have hrr := hr r (by simp)
    have hk : kle x r := (List.pairwise_cons.1 h).1 r List.mem_cons_self
    by_cases hh : r.1 = x.1 ∧ r.2.1 ≤ x.2.2
    · rw [tellG_hit hh]
      obtain ⟨i1, i2⟩ := ih (x := (x.1, x.2.1, max x.2.2 r.2.2)) (sorted_mid (sorted_skip h)) (by
        intro y hy
        rcases List.mem_cons.1 hy with e | hy
        · subst e; show x.2.1 < max x.2.2 r.2.2; omega
        · exact hr y (by simp [hy]))
      refine ⟨i1, fun s f => ?_⟩
      rw [i2 s f, inR_cons, inR_cons, inR_cons, ← or_assoc]
      have : ((x.1 = s ∧ x.2.1 ≤ f ∧ f < max x.2.2 r.2.2) ↔ ((x.1 = s ∧ x.2.1 ≤ f ∧ f < x.2.2) ∨ (r.1 = s ∧ r.2.1 ≤ f ∧ f < r.2.2))) := by
        unfold kle at hk
        constructor
        · intro h; omega
        · intro h; omega
      show ((x.1 = s ∧ x.2.1 ≤ f ∧ f < max x.2.2 r.2.2) ∨ _) ↔ _
      rw [this]
    · rw [tellG_new hh]
      obtain ⟨i1, i2⟩ := ih (List.pairwise_cons.1 h).2 (fun y hy => hr y (List.mem_cons_of_mem _ hy))
      refine ⟨⟨List.pairwise_cons.2 ⟨fun e he => ?_, i1.1⟩, ?_⟩, fun s f => by rw [inR_cons, i2 s f, ← inR_cons]⟩
      · have := tellG_kle (List.pairwise_cons.1 h).2 e he
        unfold kle at *; unfold apart; omega
      · intro e he
        rcases List.mem_cons.1 he with e1 | he
        · subst e1; exact hx
        · exact i1.2 e he
theorem told_td {l : List Kl} (hr : ∀ r ∈ l, r.2.1 < r.2.2) : Td (told l) ∧ ∀ s f, inR (told l) s f ↔ inR l s f := by
  obtain ⟨h1, h2⟩ := sortK_spec l
  have h3 : ∀ r ∈ sortK l, r.2.1 < r.2.2 := fun r h => hr r (h1.subset h)
  have h4 := fun s f => inR_perm h1 s f
  unfold told
  cases e : sortK l with
  | nil => rw [e] at h4; exact ⟨Td.nil, h4⟩
  | cons a m =>
    rw [e] at h2 h3 h4
    obtain ⟨i1, i2⟩ := tellG_td h2 h3
    exact ⟨i1, fun s f => (i2 s f).trans (h4 s f)⟩

/-- told reels are one list for one set of frames -/
theorem td_one {l m : List Kl} (hl : Td l) (hm : Td m) (h : ∀ s f, inR l s f ↔ inR m s f) : l = m := by
  induction l generalizing m with
  | nil =>
    cases m with
    | nil => rfl
    | cons b m => exact absurd ((h b.1 b.2.1).2 ⟨b, List.mem_cons_self, rfl, Int.le_refl _, hm.2 b List.mem_cons_self⟩) inR_nil
  | cons a l ih =>
    cases m with
    | nil => exact absurd ((h a.1 a.2.1).1 ⟨a, List.mem_cons_self, rfl, Int.le_refl _, hl.2 a List.mem_cons_self⟩) inR_nil
    | cons b m =>
      have ha := hl.2 a List.mem_cons_self
      have hb := hm.2 b List.mem_cons_self
      have k1 := inR_cons.1 ((h a.1 a.2.1).1 (inR_cons.2 (Or.inl ⟨rfl, Int.le_refl _, ha⟩)))
      have k2 := inR_cons.1 ((h b.1 b.2.1).2 (inR_cons.2 (Or.inl ⟨rfl, Int.le_refl _, hb⟩)))
      have k1' : (b.1 = a.1 ∧ b.2.1 ≤ a.2.1 ∧ a.2.1 < b.2.2) ∨ (b.1 < a.1 ∨ (b.1 = a.1 ∧ b.2.2 < a.2.1)) := k1.imp id (fun x => hm.off x)
      have k2' : (a.1 = b.1 ∧ a.2.1 ≤ b.2.1 ∧ b.2.1 < a.2.2) ∨ (a.1 < b.1 ∨ (a.1 = b.1 ∧ a.2.2 < b.2.1)) := k2.imp id (fun x => hl.off x)
      have e1 : a.1 = b.1 := by omega
      have e2 : a.2.1 = b.2.1 := by omega
      have e3 : ¬ a.2.2 < b.2.2 := by
        intro hlt
        have k := inR_cons.1 ((h b.1 a.2.2).2 (inR_cons.2 (Or.inl ⟨rfl, by omega, by omega⟩)))
        have k' : (a.1 = b.1 ∧ a.2.1 ≤ a.2.2 ∧ a.2.2 < a.2.2) ∨ (a.1 < b.1 ∨ (a.1 = b.1 ∧ a.2.2 < a.2.2)) := k.imp id (fun x => hl.off x)
        omega
      have e4 : ¬ b.2.2 < a.2.2 := by
        intro hlt
        have k := inR_cons.1 ((h a.1 b.2.2).1 (inR_cons.2 (Or.inl ⟨rfl, by omega, by omega⟩)))
        have k' : (b.1 = a.1 ∧ b.2.1 ≤ b.2.2 ∧ b.2.2 < b.2.2) ∨ (b.1 < a.1 ∨ (b.1 = a.1 ∧ b.2.2 < b.2.2)) := k.imp id (fun x => hm.off x)
        omega
      have e5 : a.2.2 = b.2.2 := by omega
      have e : a = b := by obtain ⟨a1, a2, a3⟩ := a; obtain ⟨b1, b2, b3⟩ := b; simp only at *; subst e1 e2 e5; rfl
      subst e
      rw [ih hl.tail hm.tail (fun s f => ?_)]
      have hq := h s f
      rw [inR_cons, inR_cons] at hq
      constructor
      · intro x
        rcases hq.1 (Or.inr x) with y | y
        · have := hl.off x; omega
        · exact y
      · intro x
        rcases hq.2 (Or.inr x) with y | y
        · have := hm.off x; omega
        · exact y
theorem td_nil {l : List Kl} (hl : Td l) (h : ∀ s f, ¬ inR l s f) : l = [] := td_one hl Td.nil (fun s f => ⟨fun x => absurd x (h s f), fun x => absurd x inR_nil⟩)
theorem Td.sorted {l : List Kl} (h : Td l) : l.Pairwise kle := by
  have hp := h.1
  have hn := h.2
  induction l with
  | nil => exact List.Pairwise.nil
  | cons a l ih =>
    obtain ⟨h1, h2⟩ := List.pairwise_cons.1 hp
    refine List.pairwise_cons.2 ⟨fun y hy => ?_, ih h.tail h2 h.tail.2⟩
    have k1 := h1 y hy
    have k2 := hn a List.mem_cons_self
    unfold apart at k1; unfold kle; omega
theorem told_id {l : List Kl} (h : Td l) : told l = l := by
  obtain ⟨h1, h2⟩ := told_td h.2
  exact td_one h1 h h2

theorem wo_bd {s t f : Int} {l : List Kl} : ∀ e ∈ wo s t f l, e.1 = s ∧ f ≤ e.2.1 ∧ e.2.1 < e.2.2 ∧ e.2.2 ≤ t := by
  induction l generalizing f with
  | nil =>
    intro e he
    unfold wo at he
    split at he
    · simp at he; subst he; exact ⟨rfl, Int.le_refl _, by assumption, Int.le_refl _⟩
    · simp at he
  | cons b l ih =>
    intro e he
    by_cases h : b.1 ≠ s ∨ b.2.2 ≤ f ∨ t ≤ b.2.1
    · rw [wo_skip h] at he; exact ih e he
    · rw [wo_take h] at he
      rcases List.mem_append.1 he with he | he
      · split at he
        · simp at he; subst he; refine ⟨rfl, Int.le_refl _, by assumption, ?_⟩; show b.2.1 ≤ t; omega
        · simp at he
      · have := ih e he; omega
theorem wo_td {s t f : Int} {l : List Kl} (hl : Td l) : Td (wo s t f l) ∧ ∀ s' g, inR (wo s t f l) s' g ↔ (s' = s ∧ f ≤ g ∧ g < t ∧ ¬ inR l s g) := by
  induction l generalizing f with
  | nil =>
    unfold wo
    split
    · refine ⟨⟨List.pairwise_singleton _ _, fun r hr => by simp at hr; subst hr; assumption⟩, fun s' g => ?_⟩
      rw [inR_cons]
      constructor
      · rintro (⟨h1, h2, h3⟩ | h)
        · exact ⟨h1.symm, h2, h3, inR_nil⟩
        · exact absurd h inR_nil
      · rintro ⟨h1, h2, h3, _⟩; exact Or.inl ⟨h1.symm, h2, h3⟩
    · refine ⟨Td.nil, fun s' g => ⟨fun h => absurd h inR_nil, ?_⟩⟩
      rintro ⟨h1, h2, h3, _⟩; omega
  | cons b l ih =>
    have hb := hl.2 b List.mem_cons_self
    by_cases h : b.1 ≠ s ∨ b.2.2 ≤ f ∨ t ≤ b.2.1
    · rw [wo_skip h]
      obtain ⟨i1, i2⟩ := ih (f := f) hl.tail
      refine ⟨i1, fun s' g => ?_⟩
      rw [i2 s' g, inR_cons]
      constructor
      · rintro ⟨h1, h2, h3, h4⟩
        exact ⟨h1, h2, h3, fun x => by rcases x with x | x; (· omega); (· exact h4 x)⟩
      · rintro ⟨h1, h2, h3, h4⟩
        exact ⟨h1, h2, h3, fun x => h4 (Or.inr x)⟩
    · rw [wo_take h]
      obtain ⟨i1, i2⟩ := ih (f := b.2.2) hl.tail
      have hbd := wo_bd (s := s) (t := t) (f := b.2.2) (l := l)
      have hoff : ∀ g, inR l s g → b.2.2 < g := fun g hg => by have := hl.off hg; omega
      constructor
      · split
        · refine ⟨List.pairwise_cons.2 ⟨fun e he => ?_, i1.1⟩, fun r hr => ?_⟩
          · have := hbd e he; unfold apart; simp only []; omega
          · rcases List.mem_cons.1 hr with e | hr
            · subst e; assumption
            · exact i1.2 r hr
        · exact i1
      · intro s' g
        rw [inR_append, i2 s' g, inR_cons]
        constructor
        · rintro (hx | ⟨h1, h2, h3, h4⟩)
          · split at hx
            · rcases inR_cons.1 hx with ⟨x1, x2, x3⟩ | hx
              · simp only [] at x1 x2 x3
                refine ⟨x1.symm, x2, by omega, ?_⟩
                rintro (y | y)
                · omega
                · have := hoff g y; omega
              · exact absurd hx inR_nil
            · exact absurd hx inR_nil
          · refine ⟨h1, by omega, h3, ?_⟩
            rintro (y | y)
            · omega
            · exact h4 y
        · rintro ⟨h1, h2, h3, h4⟩
          by_cases hg : b.2.2 ≤ g
          · exact Or.inr ⟨h1, hg, h3, fun x => h4 (Or.inr x)⟩
          · have hg2 : g < b.2.1 := by
              refine Int.not_le.1 (fun hc => h4 (Or.inl ?_)); omega
            left
            rw [if_pos (by omega)]
            exact inR_cons.2 (Or.inl ⟨h1.symm, h2, hg2⟩)
theorem missG_td {a b : List Kl} (ha : Td a) (hb : Td b) : Td (missG a b) ∧ ∀ s f, inR (missG a b) s f ↔ (inR a s f ∧ ¬ inR b s f) := by
  induction a with
  | nil => exact ⟨Td.nil, fun s f => ⟨fun h => absurd h inR_nil, fun h => absurd h.1 inR_nil⟩⟩
  | cons x a ih =>
    obtain ⟨i1, i2⟩ := ih ha.tail
    obtain ⟨j1, j2⟩ := wo_td (s := x.1) (t := x.2.2) (f := x.2.1) hb
    have e : missG (x :: a) b = wo x.1 x.2.2 x.2.1 b ++ missG a b := by simp [missG]
    rw [e]
    refine ⟨⟨List.pairwise_append.2 ⟨j1.1, i1.1, fun y hy z hz => ?_⟩, fun r hr => ?_⟩, fun s f => ?_⟩
    · have hy' := wo_bd y hy
      have hz' : inR a z.1 z.2.1 := ((i2 z.1 z.2.1).1 ⟨z, hz, rfl, Int.le_refl _, i1.2 z hz⟩).1
      have := ha.off hz'
      unfold apart; omega
    · rcases List.mem_append.1 hr with hr | hr
      · exact j1.2 r hr
      · exact i1.2 r hr
    · rw [inR_append, i2 s f, j2 s f, inR_cons]
      constructor
      · rintro (⟨h1, h2, h3, h4⟩ | ⟨h1, h2⟩)
        · subst h1; exact ⟨Or.inl ⟨rfl, h2, h3⟩, h4⟩
        · exact ⟨Or.inr h1, h2⟩
      · rintro ⟨⟨h1, h2, h3⟩ | h1, h4⟩
        · subst h1; exact Or.inl ⟨rfl, h2, h3, h4⟩
        · exact Or.inr ⟨h1, h4⟩
theorem missing_td {a b : List Kl} (ha : ∀ r ∈ a, r.2.1 < r.2.2) (hb : ∀ r ∈ b, r.2.1 < r.2.2) : Td (missing a b) ∧ ∀ s f, inR (missing a b) s f ↔ (inR a s f ∧ ¬ inR b s f) := by
  obtain ⟨a1, a2⟩ := told_td ha
  obtain ⟨b1, b2⟩ := told_td hb
  obtain ⟨m1, m2⟩ := missG_td a1 b1
  exact ⟨m1, fun s f => by rw [← a2 s f, ← b2 s f]; exact m2 s f⟩
theorem RsOk.pos {l : List Kl} (h : RsOk l) : ∀ r ∈ l, r.2.1 < r.2.2 := fun r hr => (h.2 r hr).2.2.1

/-- every reel of told ones is as told, where those are that it was made of -/
theorem tellG_all {P : Int → Int → Int → Prop} (hP : ∀ s f t u, P s f t → P s f u → P s f (max t u)) (hQ : ∀ s f g t, f ≤ g → P s g t → (∃ u, P s f u) → P s f t) {x : Kl} {l : List Kl} (hs : (x :: l).Pairwise kle) (h : ∀ r ∈ x :: l, P r.1 r.2.1 r.2.2) : ∀ r ∈ tellG x l, P r.1 r.2.1 r.2.2 := by
  induction l generalizing x with
  | nil => exact h
  | cons r l ih =>
    have hx := h x List.mem_cons_self
    have hr := h r (by simp)
    by_cases hh : r.1 = x.1 ∧ r.2.1 ≤ x.2.2
    · rw [tellG_hit hh]
      have hk : kle x r := (List.pairwise_cons.1 hs).1 r List.mem_cons_self
      refine ih (sorted_mid (sorted_skip hs)) (fun y hy => ?_)
      rcases List.mem_cons.1 hy with e | hy
      · subst e
        rw [hh.1] at hr
        exact hP _ _ _ _ hx (hQ _ _ _ _ (by show x.2.1 ≤ r.2.1; unfold kle at hk; omega) hr ⟨_, hx⟩)
      · exact h y (by simp [hy])
    · rw [tellG_new hh]
      intro y hy
      rcases List.mem_cons.1 hy with e | hy
      · subst e; exact hx
      · exact ih (List.pairwise_cons.1 hs).2 (fun z hz => h z (List.mem_cons_of_mem _ hz)) y hy
theorem told_rok {l : List Kl} (h : ∀ r ∈ l, ROk r) : ∀ r ∈ told l, ROk r := by
  obtain ⟨h1, h2⟩ := sortK_spec l
  unfold told
  cases e : sortK l with
  | nil => intro r hr; simp [tell] at hr
  | cons a m =>
    rw [e] at h1 h2
    exact tellG_all (P := fun s f t => (1 ≤ s ∧ s ≤ 500) ∧ 0 ≤ f ∧ f < t ∧ t ≤ 10000000) (fun s f t u a b => by omega) (fun s f g t hfg hg hu => by obtain ⟨u, hu⟩ := hu; omega) h2 (fun r hr => h r (h1.subset hr))
theorem reelOf_rok {h : Int} {c : Kl} (hc : COk c) (h0 : 0 ≤ h) : ∀ r ∈ reelOf h c, ROk r := by
  intro r hr
  unfold reelOf at hr
  split at hr
  · simp at hr
  · simp at hr; subst hr; unfold COk at hc; unfold ROk; simp only []; omega
theorem shown_rok {h : Int} {ts : List (List Kl)} (hc : ∀ t ∈ ts, AOk t) (h0 : 0 ≤ h) : ∀ r ∈ shownOf h ts, ROk r := by
  intro r hr
  obtain ⟨t, ht, hr⟩ := List.mem_flatMap.1 hr
  obtain ⟨c, hcm, hr⟩ := List.mem_flatMap.1 hr
  exact reelOf_rok (hc t ht c hcm) h0 r hr
/-- with a handle no frame is lost -/
theorem shown_more {h : Int} {ts : List (List Kl)} (hc : ∀ t ∈ ts, AOk t) (h0 : 0 ≤ h) {s f : Int} (hf : inR (shownOf 0 ts) s f) : inR (shownOf h ts) s f := by
  obtain ⟨r, hr, r1, r2, r3⟩ := hf
  obtain ⟨t, ht, hr⟩ := List.mem_flatMap.1 hr
  obtain ⟨c, hcm, hr⟩ := List.mem_flatMap.1 hr
  unfold reelOf at hr
  split at hr
  · simp at hr
  · rename_i hne
    simp at hr; subst hr
    simp only [] at r1 r2 r3
    refine ⟨(c.1, max (c.2.1 - h) 0, min (c.2.1 + c.2.2 + h) 10000000), List.mem_flatMap.2 ⟨t, ht, List.mem_flatMap.2 ⟨c, hcm, by unfold reelOf; rw [if_neg hne]; simp⟩⟩, r1, ?_, ?_⟩
    · show max (c.2.1 - h) 0 ≤ f; omega
    · show f < min (c.2.1 + c.2.2 + h) 10000000; omega
/-- the five facts of what is needed -/
theorem needs_facts {h : Int} {ts : List (List Kl)} (hc : ∀ t ∈ ts, AOk t) (h0 : 0 ≤ h) (n1 : (told (shownOf h ts)).length ≤ 300) (n2 : (told (shownOf 0 ts)).length ≤ 300) :
    let l := told (shownOf h ts)
    let p := told (shownOf 0 ts)
    RsOk l ∧ RsOk p ∧ missOf l l = [] ∧ missOf p l = [] ∧ missOf l [] = l ∧ missOf l (missOf l p) = missOf p (missOf l p) := by
  intro l p
  have r1 : RsOk l := ⟨n1, told_rok (shown_rok hc h0)⟩
  have r2 : RsOk p := ⟨n2, told_rok (shown_rok hc (Int.le_refl _))⟩
  have r0 : RsOk [] := ⟨by simp, fun r hr => by simp at hr⟩
  obtain ⟨l1, l2⟩ := told_td (l := shownOf h ts) (fun r hr => (shown_rok hc h0 r hr).2.2.1)
  obtain ⟨p1, p2⟩ := told_td (l := shownOf 0 ts) (fun r hr => (shown_rok hc (Int.le_refl _) r hr).2.2.1)
  have hsub : ∀ s f, inR p s f → inR l s f := fun s f x => (l2 s f).2 (shown_more hc h0 ((p2 s f).1 x))
  refine ⟨r1, r2, ?_, ?_, ?_, ?_⟩
  · unfold missOf; rw [if_pos ⟨r1, r1⟩]
    obtain ⟨m1, m2⟩ := missing_td r1.pos r1.pos
    exact td_nil m1 (fun s f x => by have := (m2 s f).1 x; exact this.2 this.1)
  · unfold missOf; rw [if_pos ⟨r2, r1⟩]
    obtain ⟨m1, m2⟩ := missing_td r2.pos r1.pos
    exact td_nil m1 (fun s f x => by have := (m2 s f).1 x; exact this.2 (hsub s f this.1))
  · unfold missOf; rw [if_pos ⟨r1, r0⟩]
    obtain ⟨m1, m2⟩ := missing_td r1.pos r0.pos
    exact td_one m1 l1 (fun s f => by rw [m2 s f]; exact ⟨fun x => x.1, fun x => ⟨x, inR_nil⟩⟩)
  · by_cases hm : RsOk (missOf l p)
    · have em : missOf l p = missing l p := by unfold missOf; rw [if_pos ⟨r1, r2⟩]
      have e1 : missOf l (missOf l p) = missing l (missOf l p) := by rw [missOf, if_pos ⟨r1, hm⟩]
      have e2 : missOf p (missOf l p) = missing p (missOf l p) := by rw [missOf, if_pos ⟨r2, hm⟩]
      rw [e1, e2]
      obtain ⟨m1, m2⟩ := missing_td r1.pos r2.pos
      rw [em] at hm ⊢
      obtain ⟨x1, x2⟩ := missing_td r1.pos hm.pos
      obtain ⟨y1, y2⟩ := missing_td r2.pos hm.pos
      refine td_one x1 y1 (fun s f => ?_)
      rw [x2 s f, y2 s f, m2 s f]
      have := hsub s f
      constructor
      · rintro ⟨a, b⟩
        have c : inR p s f := Classical.byContradiction fun c => b ⟨a, c⟩
        exact ⟨c, b⟩
      · rintro ⟨a, b⟩; exact ⟨this a, b⟩
    · have e1 : missOf l (missOf l p) = [] := by rw [missOf, if_neg (fun x => hm x.2)]
      have e2 : missOf p (missOf l p) = [] := by rw [missOf, if_neg (fun x => hm x.2)]
      rw [e1, e2]

end Go.Proofs.Ytfbifffmieimoaa
