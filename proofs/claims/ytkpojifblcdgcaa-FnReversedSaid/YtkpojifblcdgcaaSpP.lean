/-
  Plain facts of speed: keys, what is seen between them, a track retimed and a track reversed; no program is named.
-/
import Derived.Test.YtkpojifblcdgcaaJoP
namespace Go.Proofs.Ytkpojifblcdgcaa
set_option linter.unusedVariables false
set_option linter.unusedSimpArgs false

/-- a key: the frame, and the frame that is seen at it -/
abbrev Ky := Int × Int
def FrOk (x : Int) : Prop := 0 ≤ x ∧ x ≤ 10000000
instance (x : Int) : Decidable (FrOk x) := by unfold FrOk; infer_instance
def KOk (k : Ky) : Prop := FrOk k.1 ∧ FrOk k.2
instance (k : Ky) : Decidable (KOk k) := by unfold KOk; infer_instance
/-- the first k keys are frames and rise -/
def KPre (l : List Ky) (k : Nat) : Prop := ∀ j x, j < k → l[j]? = some x → KOk x ∧ ∀ i y, i + 1 = j → l[i]? = some y → y.1 < x.1
def KsOk (l : List Ky) : Prop := 1 ≤ l.length ∧ l.length ≤ 100 ∧ KPre l l.length
noncomputable instance (l : List Ky) : Decidable (KsOk l) := Classical.propDecidable _
theorem KPre.zero (l : List Ky) : KPre l 0 := fun j x h => by omega
theorem KPre.step {l : List Ky} {k : Nat} {x : Ky} (h : KPre l k) (hx : l[k]? = some x) (hk : KOk x) (hy : ∀ i y, i + 1 = k → l[i]? = some y → y.1 < x.1) : KPre l (k + 1) := by
  intro j z hj hz
  by_cases e : j = k
  · subst e
    rw [hx] at hz
    injection hz with hz
    subst hz
    exact ⟨hk, hy⟩
  · exact h j z (by omega) hz
theorem KsOk.at {l : List Ky} (h : KsOk l) {j : Nat} {x : Ky} (hx : l[j]? = some x) : KOk x := (h.2.2 j x (List.getElem?_eq_some_iff.1 hx).1 hx).1
theorem KsOk.rise {l : List Ky} (h : KsOk l) {j : Nat} {x y : Ky} (hx : l[j]? = some x) (hy : l[j + 1]? = some y) : x.1 < y.1 :=
  (h.2.2 (j + 1) y (List.getElem?_eq_some_iff.1 hy).1 hy).2 j x rfl hx
theorem ksno_key {l : List Ky} {j : Nat} {x : Ky} (hx : l[j]? = some x) (h : ¬ KOk x) : ¬ KsOk l := fun k => h (k.at hx)
theorem ksno_rise {l : List Ky} {j : Nat} {x y : Ky} (hx : l[j]? = some x) (hy : l[j + 1]? = some y) (h : y.1 ≤ x.1) : ¬ KsOk l := fun k => by have := k.rise hx hy; omega

/-- what is seen between two keys: the frame, what is left of the division, the divisor -/
def btw (a b : Ky) (t : Int) : Int × Int × Int := (a.2 + (t - a.1) * (b.2 - a.2) / (b.1 - a.1), (t - a.1) * (b.2 - a.2) % (b.1 - a.1), b.1 - a.1)
def atGo : Ky → List Ky → Int → Int × Int × Int
  | a, [], t => (a.2, 0, 0)
  | a, b :: l, t => if t < b.1 then (if t = a.1 then (a.2, 0, 0) else btw a b t) else atGo b l t
def spAt : List Ky → Int → Int × Int × Int
  | [], t => (0, 0, 0)
  | a :: l, t => if t ≤ a.1 then (a.2, 0, 0) else atGo a l t

theorem drop_at {l : List Ky} {i : Nat} {b : Ky} (h : l[i]? = some b) : l.drop i = b :: l.drop (i + 1) := by
  obtain ⟨hi, rfl⟩ := List.getElem?_eq_some_iff.1 h
  exact List.drop_eq_getElem_cons hi
theorem spAt_first {l : List Ky} {a : Ky} {t : Int} (h : l[0]? = some a) (ht : t ≤ a.1) : spAt l t = (a.2, 0, 0) := by
  cases l with
  | nil => simp at h
  | cons b l => simp at h; subst h; simp [spAt, ht]
theorem spAt_start {l : List Ky} {a : Ky} {t : Int} (h : l[0]? = some a) (ht : ¬ t ≤ a.1) : spAt l t = atGo a (l.drop 1) t := by
  cases l with
  | nil => simp at h
  | cons b l => simp at h; subst h; simp [spAt, ht]
theorem atGo_end {l : List Ky} {a : Ky} {i : Nat} {t : Int} (h : l.length ≤ i) : atGo a (l.drop i) t = (a.2, 0, 0) := by
  rw [List.drop_of_length_le h]; rfl
theorem atGo_step {l : List Ky} {a b : Ky} {i : Nat} {t : Int} (h : l[i]? = some b) (ht : ¬ t < b.1) : atGo a (l.drop i) t = atGo b (l.drop (i + 1)) t := by
  rw [drop_at h]; simp only [atGo]; rw [if_neg ht]
theorem atGo_hit {l : List Ky} {a b : Ky} {i : Nat} {t : Int} (h : l[i]? = some b) (ht : t < b.1) : atGo a (l.drop i) t = if t = a.1 then (a.2, 0, 0) else btw a b t := by
  rw [drop_at h]; simp only [atGo]; rw [if_pos ht]
/-- all keys up to the one at i lie ahead of t -/
theorem spAt_run {l : List Ky} {t : Int} : ∀ {i : Nat} {a : Ky}, l[i]? = some a → (∀ j x, j ≤ i → l[j]? = some x → x.1 < t) → spAt l t = atGo a (l.drop (i + 1)) t := by
  intro i
  induction i with
  | zero => intro a ha h; exact spAt_start ha (by have := h 0 a (Nat.le_refl _) ha; omega)
  | succ i ih =>
    intro a ha h
    have hi : i < l.length := by have := (List.getElem?_eq_some_iff.1 ha).1; omega
    rw [ih (List.getElem?_eq_getElem hi) (fun j x hj hx => h j x (by omega) hx), atGo_step ha (by have := h (i + 1) a (Nat.le_refl _) ha; omega)]
theorem spAt_none {l : List Ky} {t : Int} {i : Nat} {a : Ky} (hl : l.length = i + 1) (ha : l[i]? = some a) (h : ∀ j x, j < l.length → l[j]? = some x → x.1 < t) : spAt l t = (a.2, 0, 0) := by
  rw [spAt_run ha (fun j x hj hx => h j x (by omega) hx), atGo_end (by omega)]
theorem spAt_at {l : List Ky} (hk : KsOk l) {t : Int} {i : Nat} {a : Ky} (ha : l[i]? = some a) (h : ∀ j x, j < i → l[j]? = some x → x.1 < t) (ht : a.1 = t ∨ (i = 0 ∧ t ≤ a.1)) : spAt l t = (a.2, 0, 0) := by
  cases i with
  | zero => exact spAt_first ha (by omega)
  | succ i =>
    have hat : a.1 = t := by rcases ht with ht | ht; exact ht; omega
    have hi : i < l.length := by have := (List.getElem?_eq_some_iff.1 ha).1; omega
    rw [spAt_run (List.getElem?_eq_getElem hi) (fun j x hj hx => h j x (by omega) hx), atGo_step ha (by omega)]
    by_cases hn : i + 1 + 1 < l.length
    · rw [atGo_hit (List.getElem?_eq_getElem hn) (by have := hk.rise ha (List.getElem?_eq_getElem hn); omega), if_pos hat.symm]
    · exact atGo_end (by omega)
theorem spAt_btw {l : List Ky} {t : Int} {i : Nat} {a b : Ky} (ha : l[i]? = some a) (hb : l[i + 1]? = some b) (h : ∀ j x, j ≤ i → l[j]? = some x → x.1 < t) (ht : t < b.1) : spAt l t = btw a b t := by
  rw [spAt_run ha h, atGo_hit hb ht, if_neg (by have := h i a (Nat.le_refl _) ha; omega)]

/-- divisions -/
theorem div_between {u v d : Int} (hu : 0 < u) (hd : u < d) : (0 ≤ v → 0 ≤ u * v / d ∧ u * v / d ≤ v) ∧ (v ≤ 0 → v ≤ u * v / d ∧ u * v / d ≤ 0) := by
  have hd0 : 0 < d := by omega
  constructor
  · intro hv
    refine ⟨Int.ediv_nonneg (Int.mul_nonneg (by omega) hv) (by omega), ?_⟩
    have h1 : u * v ≤ v * d := by rw [Int.mul_comm v d]; exact Int.mul_le_mul_of_nonneg_right (by omega) hv
    have := Int.ediv_le_ediv hd0 h1
    rwa [Int.mul_ediv_cancel _ (by omega)] at this
  · intro hv
    have h1 : v * d ≤ u * v := by
      rw [Int.mul_comm v d]
      have := Int.mul_le_mul_of_nonneg_right (a := u) (b := d) (c := -v) (by omega) (by omega)
      rw [Int.mul_neg, Int.mul_neg] at this
      omega
    constructor
    · have := Int.ediv_le_ediv hd0 h1
      rwa [Int.mul_ediv_cancel _ (by omega)] at this
    · have h2 : u * v ≤ 0 := Int.mul_nonpos_of_nonneg_of_nonpos (by omega) hv
      have := Int.ediv_le_ediv hd0 h2
      simpa using this
theorem tdiv_down {x d : Int} (hd : 0 < d) : (if x.tmod d < 0 then x.tdiv d - 1 else x.tdiv d) = x / d := by
  have h1 := Int.mul_tdiv_add_tmod x d
  have h2 : -d < x.tmod d ∧ x.tmod d < d := ⟨by have h3 := Int.tmod_lt_of_pos (-x) hd; rw [Int.neg_tmod] at h3; omega, Int.tmod_lt_of_pos x hd⟩
  split
  · rename_i h
    symm
    rw [Int.ediv_eq_iff_of_pos hd]
    rw [Int.sub_mul, Int.mul_comm (x.tdiv d) d]
    omega
  · rename_i h
    symm
    rw [Int.ediv_eq_iff_of_pos hd]
    rw [Int.mul_comm (x.tdiv d) d]
    omega
theorem tmod_up {x d : Int} (hd : 0 < d) : (if x.tmod d < 0 then x.tmod d + d else x.tmod d) = x % d := by
  have h1 := Int.mul_tdiv_add_tmod x d
  have h2 := tdiv_down (x := x) hd
  have h3 := Int.mul_ediv_add_emod x d
  split at h2
  · rename_i h
    rw [if_pos h]
    rw [← h2, Int.mul_sub] at h3
    omega
  · rename_i h
    rw [if_neg h]
    rw [← h2] at h3
    omega
theorem rest_div {x d : Int} (hd : 0 < d) : (x - x % d).tdiv d = x / d := by
  have h3 := Int.mul_ediv_add_emod x d
  have : x - x % d = d * (x / d) := by omega
  rw [this, Int.mul_tdiv_cancel_left _ (by omega)]

/-- what is seen lies between two keys' frames; what is left of the division is below the divisor -/
def Btw (l : List Ky) (r : Int × Int × Int) : Prop :=
  (∃ x ∈ l, x.2 ≤ r.1) ∧ (∃ y ∈ l, r.1 ≤ y.2) ∧ ((r.2.1 = 0 ∧ r.2.2 = 0) ∨ (0 ≤ r.2.1 ∧ r.2.1 < r.2.2 ∧ r.2.2 ≤ 10000000))
theorem btw_key {l : List Ky} {a : Ky} (h : a ∈ l) : Btw l (a.2, 0, 0) := ⟨⟨a, h, by simp⟩, ⟨a, h, by simp⟩, Or.inl ⟨rfl, rfl⟩⟩
theorem btw_two {l : List Ky} {a b : Ky} {t : Int} (ha : a ∈ l) (hb : b ∈ l) (h1 : a.1 < t) (h2 : t < b.1) (h3 : b.1 - a.1 ≤ 10000000) : Btw l (btw a b t) := by
  obtain ⟨p, q⟩ := div_between (u := t - a.1) (v := b.2 - a.2) (d := b.1 - a.1) (by omega) (by omega)
  have hr : 0 ≤ (t - a.1) * (b.2 - a.2) % (b.1 - a.1) ∧ (t - a.1) * (b.2 - a.2) % (b.1 - a.1) < b.1 - a.1 := ⟨Int.emod_nonneg _ (by omega), Int.emod_lt_of_pos _ (by omega)⟩
  rcases Int.le_total 0 (b.2 - a.2) with h | h
  · have := p h
    exact ⟨⟨a, ha, by simp only [btw]; omega⟩, ⟨b, hb, by simp only [btw]; omega⟩, Or.inr ⟨hr.1, hr.2, h3⟩⟩
  · have := q h
    exact ⟨⟨b, hb, by simp only [btw]; omega⟩, ⟨a, ha, by simp only [btw]; omega⟩, Or.inr ⟨hr.1, hr.2, h3⟩⟩
theorem atGo_btw {l m : List Ky} {a : Ky} {t : Int} (ha : a ∈ l) (ht : a.1 ≤ t) (hm : ∀ x ∈ m, x ∈ l) (hf : ∀ x ∈ l, KOk x) : Btw l (atGo a m t) := by
  induction m generalizing a with
  | nil => exact btw_key ha
  | cons b m ih =>
    have hb := hm b List.mem_cons_self
    simp only [atGo]
    split
    · rename_i h
      split
      · exact btw_key ha
      · exact btw_two ha hb (by omega) h (by have := (hf a ha).1.1; have := (hf b hb).1.2; omega)
    · exact ih hb (by omega) (fun x hx => hm x (List.mem_cons_of_mem _ hx))
theorem KsOk.mem {l : List Ky} (h : KsOk l) : ∀ x ∈ l, KOk x := by
  intro x hx
  obtain ⟨j, hj⟩ := List.getElem?_of_mem hx
  exact h.at hj
theorem spAt_in {l : List Ky} (h : KsOk l) (t : Int) : Btw l (spAt l t) := by
  have hm := h.mem
  cases l with
  | nil => have := h.1; simp at this
  | cons a l =>
    simp only [spAt]
    split
    · exact btw_key List.mem_cons_self
    · exact atGo_btw List.mem_cons_self (by omega) (fun x hx => List.mem_cons_of_mem _ hx) hm
theorem spAt_fr {l : List Ky} (h : KsOk l) (t : Int) : 0 ≤ (spAt l t).1 ∧ (spAt l t).1 ≤ 10000000 := by
  obtain ⟨⟨x, hx, h1⟩, ⟨y, hy, h2⟩, _⟩ := spAt_in h t
  have := (h.mem x hx).2.1
  have := (h.mem y hy).2.2
  omega
/-- at a key it is the key's frame -/
theorem rise_lt {l : List Ky} (h : KsOk l) {j : Nat} {y : Ky} (hy : l[j]? = some y) : ∀ {i : Nat} {x : Ky}, i < j → l[i]? = some x → x.1 < y.1 := by
  induction j generalizing y with
  | zero => intro i x hi; omega
  | succ j ih =>
    intro i x hi hx
    have hj : j < l.length := by have := (List.getElem?_eq_some_iff.1 hy).1; omega
    have h1 := h.rise (List.getElem?_eq_getElem hj) hy
    by_cases e : i = j
    · subst e
      rw [List.getElem?_eq_getElem hj] at hx
      injection hx with hx
      subst hx
      exact h1
    · have := ih (List.getElem?_eq_getElem hj) (i := i) (x := x) (by omega) hx
      omega
theorem spAt_key {l : List Ky} (h : KsOk l) {j : Nat} {y : Ky} (hy : l[j]? = some y) : (spAt l y.1).1 = y.2 := by
  rw [spAt_at h hy (fun i x hi hx => rise_lt h hy hi hx) (Or.inl rfl)]

/-- SpeedAt -/
noncomputable def speedOf (l : List Ky) (t : Int) : Int := if KsOk l ∧ FrOk t then (spAt l t).1 else -1
theorem speed_yes {l : List Ky} {t : Int} (h : KsOk l) (k : FrOk t) : speedOf l t = (spAt l t).1 := if_pos ⟨h, k⟩
theorem speed_no {l : List Ky} {t : Int} (h : ¬ (KsOk l ∧ FrOk t)) : speedOf l t = -1 := if_neg h
/-- Blend -/
noncomputable def blendOf (l : List Ky) (t : Int) : Int × Int × Int :=
  if KsOk l ∧ FrOk t then (if (spAt l t).2.2 = 0 then ((spAt l t).1, (spAt l t).1, 0) else ((spAt l t).1, min ((spAt l t).1 + 1) 10000000, (spAt l t).2.1 * 256 / (spAt l t).2.2)) else (-1, -1, -1)
theorem blend_no {l : List Ky} {t : Int} (h : ¬ (KsOk l ∧ FrOk t)) : blendOf l t = (-1, -1, -1) := if_neg h
theorem blend_still {l : List Ky} {t : Int} (h : KsOk l) (k : FrOk t) (e : (spAt l t).2.2 = 0) : blendOf l t = ((spAt l t).1, (spAt l t).1, 0) := by unfold blendOf; rw [if_pos ⟨h, k⟩, if_pos e]
theorem blend_yes {l : List Ky} {t : Int} (h : KsOk l) (k : FrOk t) (e : (spAt l t).2.2 ≠ 0) : blendOf l t = ((spAt l t).1, min ((spAt l t).1 + 1) 10000000, (spAt l t).2.1 * 256 / (spAt l t).2.2) := by unfold blendOf; rw [if_pos ⟨h, k⟩, if_neg e]
theorem blend_first (l : List Ky) (t : Int) : (blendOf l t).1 = speedOf l t := by
  unfold blendOf speedOf
  split
  · split <;> rfl
  · rfl
theorem weight_bd {r d : Int} (h0 : 0 ≤ r) (h1 : r < d) : 0 ≤ r * 256 / d ∧ r * 256 / d < 256 := by
  refine ⟨Int.ediv_nonneg (by omega) (by omega), ?_⟩
  exact Int.ediv_lt_of_lt_mul (by omega) (by omega)
theorem blend_facts {l : List Ky} {t : Int} (h : KsOk l) (k : FrOk t) : 0 ≤ (blendOf l t).2.2 ∧ (blendOf l t).2.2 < 256 ∧ (((blendOf l t).2.1 = speedOf l t ∧ (blendOf l t).2.2 = 0) ∨ (blendOf l t).2.1 = speedOf l t + 1 ∨ (blendOf l t).2.1 = 10000000) := by
  obtain ⟨_, _, hr⟩ := spAt_in h t
  rw [speed_yes h k]
  by_cases e : (spAt l t).2.2 = 0
  · rw [blend_still h k e]; simp
  · rw [blend_yes h k e]
    rcases hr with hr | ⟨r0, r1, _⟩
    · exact absurd hr.2 e
    · have := weight_bd r0 r1
      refine ⟨this.1, this.2, Or.inr ?_⟩
      simp only
      omega

/-- Retime -/
def retK (l : List Ky) (s : Int) (t : Nat) : Kl := (s, (spAt l t).1, 1)
def retL (l : List Ky) (s : Int) (n : Nat) : List Kl := (List.range n).map (retK l s)
theorem retL_succ (l : List Ky) (s : Int) (n : Nat) : retL l s (n + 1) = retL l s n ++ [retK l s n] := by simp [retL, List.range_succ]
theorem retL_len (l : List Ky) (s : Int) (n : Nat) : (retL l s n).length = n := by simp [retL]
noncomputable def retOf (l : List Ky) (s n : Int) : Option (List Kl) := if KsOk l ∧ InR s 1 500 ∧ InR n 1 2000 then edit (retL l s n.toNat) else none
theorem ret_no {l : List Ky} {s n : Int} (h : ¬ (KsOk l ∧ InR s 1 500 ∧ InR n 1 2000)) : retOf l s n = none := if_neg h
theorem ret_yes {l : List Ky} {s n : Int} (h : KsOk l ∧ InR s 1 500 ∧ InR n 1 2000) : retOf l s n = edit (retL l s n.toNat) := if_pos h
theorem ret_len (l : List Ky) (s n : Int) : (outL (retOf l s n)).length ≤ 300 := by
  unfold retOf
  split
  · exact edit_len _
  · exact Nat.zero_le _
theorem retL_bd {l : List Ky} (h : KsOk l) {s : Int} (hs : InR s 1 500) (n : Nat) : ∀ c ∈ retL l s n, Bd 10000000 c := by
  intro c hc
  obtain ⟨t, _, rfl⟩ := List.mem_map.1 hc
  have := spAt_fr h t
  obtain ⟨s0, s1⟩ := hs
  exact ⟨by simp only [retK]; omega, by simp only [retK]; omega, this.1, this.2, by simp only [retK]; omega, by simp only [retK]; omega⟩
/-- a clip that ends too late ends too late when joined -/
theorem end_jstep {o : List Kl} {c : Kl} (hc : c.1 ≠ 0) (h0 : 0 ≤ c.2.2) : (∃ d ∈ jstep o c, c.2.1 + c.2.2 ≤ d.2.1 + d.2.2) ∧ ∀ x ∈ o, ∃ d ∈ jstep o c, x.2.1 + x.2.2 ≤ d.2.1 + d.2.2 := by
  rcases List.eq_nil_or_concat o with rfl | ⟨o, p, rfl⟩
  · rw [jstep_nil]; exact ⟨⟨c, by simp, Int.le_refl _⟩, fun x hx => by simp at hx⟩
  · rw [List.concat_eq_append, jstep_snoc]
    split
    · rename_i hg
      have hg2 := hg.2
      refine ⟨⟨(p.1, p.2.1, p.2.2 + c.2.2), by simp, by simp only; omega⟩, fun x hx => ?_⟩
      rcases List.mem_append.1 hx with hx | hx
      · exact ⟨x, by simp [hx], Int.le_refl _⟩
      · obtain rfl := List.mem_singleton.1 hx
        exact ⟨(x.1, x.2.1, x.2.2 + c.2.2), by simp, by simp only; omega⟩
    · exact ⟨⟨c, by simp, Int.le_refl _⟩, fun x hx => ⟨x, List.mem_append_left _ hx, Int.le_refl _⟩⟩
theorem end_foldl {l : List Kl} (h : ∀ c ∈ l, c.1 ≠ 0 ∧ 0 ≤ c.2.2) : ∀ o : List Kl, (∀ c ∈ l, ∃ d ∈ l.foldl jstep o, c.2.1 + c.2.2 ≤ d.2.1 + d.2.2) ∧ ∀ x ∈ o, ∃ d ∈ l.foldl jstep o, x.2.1 + x.2.2 ≤ d.2.1 + d.2.2 := by
  induction l with
  | nil => intro o; exact ⟨fun c hc => by simp at hc, fun x hx => ⟨x, hx, Int.le_refl _⟩⟩
  | cons c l ih =>
    intro o
    obtain ⟨hc, h0⟩ := h c List.mem_cons_self
    obtain ⟨i1, i2⟩ := ih (fun x hx => h x (List.mem_cons_of_mem _ hx)) (jstep o c)
    obtain ⟨j1, j2⟩ := end_jstep (o := o) hc h0
    simp only [List.foldl_cons]
    constructor
    · intro x hx
      rcases List.mem_cons.1 hx with rfl | hx
      · obtain ⟨d, hd, hle⟩ := j1
        obtain ⟨d', hd', hle'⟩ := i2 d hd
        exact ⟨d', hd', by omega⟩
      · exact i1 x hx
    · intro x hx
      obtain ⟨d, hd, hle⟩ := j2 x hx
      obtain ⟨d', hd', hle'⟩ := i2 d hd
      exact ⟨d', hd', by omega⟩
theorem edit_ret {l : List Ky} (h : KsOk l) {s : Int} (hs : InR s 1 500) (n : Nat) : edit (retL l s n) = if TOk (join (retL l s n)) then some (join (retL l s n)) else none := by
  by_cases hA : AOk (retL l s n)
  · exact edit_ok hA
  · rw [edit_no hA, if_neg]
    intro hT
    apply hA
    intro c hc
    obtain ⟨t, ht, rfl⟩ := List.mem_map.1 hc
    obtain ⟨s0, s1⟩ := hs
    have hf := spAt_fr h t
    obtain ⟨e1, _⟩ := end_foldl (l := retL l s n) (fun c hc => by obtain ⟨t, _, rfl⟩ := List.mem_map.1 hc; simp only [retK]; omega) []
    obtain ⟨d, hd, hle⟩ := e1 _ hc
    have hd4 := (hT.2.1 d hd).2.2.2.1
    simp only [retK] at hle
    refine ⟨?_, ?_, hf.1, ?_, Or.inl ⟨s0, s1⟩⟩ <;> simp only [retK] <;> omega

/-- lists of single frames -/
theorem clen_ones {L : List Kl} (h : ∀ c ∈ L, c.2.2 = 1) : clen L = L.length := by
  induction L with
  | nil => rfl
  | cons c L ih =>
    have := h c List.mem_cons_self
    simp only [clen, List.length_cons, ih (fun x hx => h x (List.mem_cons_of_mem _ hx))]
    omega
theorem seen_ones {L : List Kl} (h : ∀ c ∈ L, c.2.2 = 1) {i : Nat} {c : Kl} (hc : L[i]? = some c) : seen L i = sv c 0 := by
  induction L generalizing i with
  | nil => simp at hc
  | cons d L ih =>
    have hd := h d List.mem_cons_self
    cases i with
    | zero => simp at hc; subst hc; exact seen_lt (by omega)
    | succ i =>
      rw [seen_ge (by omega), hd, show ((i + 1 : Nat) : Int) - 1 = i by omega]
      exact ih (fun x hx => h x (List.mem_cons_of_mem _ hx)) (by simpa using hc)
theorem ret_sees {l : List Ky} {s n : Int} {u : List Kl} (hu : retOf l s n = some u) : KsOk l ∧ InR s 1 500 ∧ InR n 1 2000 ∧ TOk u ∧ clen u = n ∧ ∀ i, 0 ≤ i → i < n → frameAt u i = (s, (spAt l i).1) := by
  unfold retOf at hu
  split at hu
  · rename_i h
    obtain ⟨h1, h2, h3⟩ := h
    have ho : ∀ c ∈ retL l s n.toNat, c.2.2 = 1 := fun c hc => by obtain ⟨t, _, rfl⟩ := List.mem_map.1 hc; rfl
    unfold edit at hu
    split at hu
    · rename_i hT
      injection hu with hu
      subst hu
      have h31 := h3.1
      have hlen := clen_ones ho
      rw [retL_len] at hlen
      refine ⟨h1, h2, h3, hT.2, by rw [clen_join, hlen]; omega, fun i h0 hi => ?_⟩
      rw [frameAt_yes hT.2 h0, seen_join hT.1.nn h0]
      obtain ⟨k, rfl⟩ := Int.eq_ofNat_of_zero_le h0
      have hk : (retL l s n.toNat)[k]? = some (retK l s k) := by
        simp only [retL, List.getElem?_map]
        rw [List.getElem?_range (by omega)]
        rfl
      rw [seen_ones ho hk]
      have hs1 := h2.1
      have hs0 : ¬ (retK l s k).1 = 0 := by show ¬ s = 0; omega
      unfold sv
      rw [if_neg hs0]
      simp [retK]
    · cases hu
  · cases hu

/-- Reverse: the program's frames, the model's clips -/
theorem sees_join {x y : List Kl} (hx : AOk x) (hy : AOk y) (hX : AOk (join x)) (hY : AOk (join y)) (hc : clen x = clen y) (hs : ∀ i, 0 ≤ i → i < clen x → seen x i = seen y i) : join x = join y := by
  refine seen_tells hX hY (nj_join x) (nj_join y) (by rw [clen_join, clen_join, hc]) (fun i hi => ?_)
  rw [seen_join hx.nn hi, seen_join hy.nn hi]
  rcases Int.lt_or_le i (clen x) with h | h
  · exact hs i hi h
  · rw [seen_past hx h, seen_past hy (by omega)]
theorem join_aok {l : List Kl} (h : AOk l) (hc : clen l ≤ 10000000) : AOk (join l) := foldl_ok AOk.nil h (by simpa [clen] using hc)
def frK (l : List Kl) (i : Int) : Kl := ((seen l i).1, (seen l i).2, 1)
theorem part_fr {l : List Kl} {i : Int} (h : AOk l) (h0 : 0 ≤ i) (h1 : i < clen l) : part l i (i + 1) = [frK l i] := by
  obtain ⟨x, hx, hs⟩ := part_one h h0 h1
  have hc := clen_part h i (i + 1)
  rw [hx] at hc ⊢
  simp only [clen] at hc
  have e1 : x.1 = (seen l i).1 := by rw [← hs]
  have e2 : x.2.1 = (seen l i).2 := by rw [← hs]
  have e3 : x.2.2 = 1 := by omega
  unfold frK
  rw [← e1, ← e2, ← e3]
theorem frK_ok {l : List Kl} {i : Int} (h : AOk l) (h0 : 0 ≤ i) (h1 : i < clen l) : COk (frK l i) := by
  have := part_ok h i (i + 1)
  rw [part_fr h h0 h1] at this
  exact this.head
theorem frK_sv {l : List Kl} {i : Int} (h : AOk l) (h0 : 0 ≤ i) (h1 : i < clen l) : sv (frK l i) 0 = seen l i := by
  have := (frK_ok h h0 h1).2.2.2.2
  unfold sv frK at *
  simp only at *
  split
  · rename_i e
    have h2 : (seen l i).2 = 0 := by omega
    exact Prod.ext e.symm h2.symm
  · simp
def revP (l : List Kl) (n : Nat) : List Kl := (List.range n).map (fun k => frK l (clen l - 1 - (k : Nat)))
theorem revP_succ (l : List Kl) (n : Nat) : revP l (n + 1) = revP l n ++ [frK l (clen l - 1 - n)] := by simp [revP, List.range_succ]
theorem revP_len (l : List Kl) (n : Nat) : (revP l n).length = n := by simp [revP]
theorem revP_ok {l : List Kl} (h : AOk l) {n : Nat} (hn : (n : Int) ≤ clen l) : AOk (revP l n) := by
  intro c hc
  obtain ⟨k, hk, rfl⟩ := List.mem_map.1 hc
  have := List.mem_range.1 hk
  exact frK_ok h (by omega) (by omega)
/-- a clip, frame by frame from its last one on; the first j of them -/
def rev1 (c : Kl) (j : Nat) : List Kl := (List.range j).map (fun f => (c.1, c.2.1 + (c.2.2 - 1 - (f : Nat)), 1))
theorem rev1_succ (c : Kl) (j : Nat) : rev1 c (j + 1) = rev1 c j ++ [(c.1, c.2.1 + (c.2.2 - 1 - j), 1)] := by simp [rev1, List.range_succ]
theorem rev1_len (c : Kl) (j : Nat) : (rev1 c j).length = j := by simp [rev1]
def revK (c : Kl) : List Kl := if c.1 = 0 then [c] else rev1 c c.2.2.toNat
def revM : List Kl → List Kl
  | [] => []
  | c :: l => revM l ++ revK c
theorem revM_at {l : List Kl} {i : Nat} {c : Kl} (h : l[i]? = some c) : revM (l.drop i) = revM (l.drop (i + 1)) ++ revK c := by
  obtain ⟨hi, rfl⟩ := List.getElem?_eq_some_iff.1 h
  rw [List.drop_eq_getElem_cons hi]; rfl
theorem revK_facts {c : Kl} (h : COk c) : AOk (revK c) ∧ clen (revK c) = c.2.2 ∧ ∀ i, 0 ≤ i → i < c.2.2 → seen (revK c) i = sv c (c.2.2 - 1 - i) := by
  unfold revK
  split
  · rename_i e
    refine ⟨AOk.cons h AOk.nil, by simp [clen], fun i h0 h1 => ?_⟩
    rw [seen_lt h1]
    simp [sv, e]
  · rename_i e
    have ho : ∀ x ∈ rev1 c c.2.2.toNat, x.2.2 = 1 := fun x hx => by obtain ⟨t, _, rfl⟩ := List.mem_map.1 hx; rfl
    obtain ⟨h1, h2, h3, h4, h5⟩ := h
    refine ⟨?_, ?_, ?_⟩
    · intro x hx
      obtain ⟨f, hf, rfl⟩ := List.mem_map.1 hx
      have := List.mem_range.1 hf
      refine ⟨?_, ?_, ?_, ?_, ?_⟩ <;> simp only <;> omega
    · rw [clen_ones ho, rev1_len]; omega
    · intro i h0 h1
      obtain ⟨k, rfl⟩ := Int.eq_ofNat_of_zero_le h0
      have hk : (rev1 c c.2.2.toNat)[k]? = some (c.1, c.2.1 + (c.2.2 - 1 - (k : Nat)), 1) := by
        simp only [rev1, List.getElem?_map]
        rw [List.getElem?_range (by omega)]
        rfl
      rw [seen_ones ho hk]
      simp only [sv, if_neg e]
      simp
theorem revM_facts {l : List Kl} (h : AOk l) : AOk (revM l) ∧ clen (revM l) = clen l ∧ ∀ i, 0 ≤ i → i < clen l → seen (revM l) i = seen l (clen l - 1 - i) := by
  induction l with
  | nil => exact ⟨AOk.nil, rfl, fun i h0 h1 => by simp [clen] at h1; omega⟩
  | cons c l ih =>
    obtain ⟨i1, i2, i3⟩ := ih h.tail
    obtain ⟨k1, k2, k3⟩ := revK_facts h.head
    have hn := clen_nonneg h.tail
    have hc := h.head.1
    refine ⟨i1.append k1, by simp only [revM, clen_append, i2, k2, clen]; omega, fun i h0 h1 => ?_⟩
    simp only [clen] at h1 ⊢
    simp only [revM]
    rw [seen_append i1.nn h0, i2]
    split
    · rename_i hi
      rw [i3 i h0 hi, seen_ge (by omega)]
      congr 1; omega
    · rename_i hi
      rw [k3 _ (by omega) (by omega), seen_lt (by omega)]
      congr 1; omega
theorem rev_join {l : List Kl} (h : AOk l) (hc : clen l ≤ 10000000) : join (revP l (clen l).toNat) = join (revM l) := by
  obtain ⟨m1, m2, m3⟩ := revM_facts h
  have hn := clen_nonneg h
  have p1 := revP_ok h (n := (clen l).toNat) (by omega)
  have ho : ∀ x ∈ revP l (clen l).toNat, x.2.2 = 1 := fun x hx => by obtain ⟨t, _, rfl⟩ := List.mem_map.1 hx; rfl
  have p2 : clen (revP l (clen l).toNat) = clen l := by rw [clen_ones ho, revP_len]; omega
  refine sees_join p1 m1 (join_aok p1 (by omega)) (join_aok m1 (by omega)) (by omega) (fun i h0 h1 => ?_)
  rw [m3 i h0 (by omega)]
  obtain ⟨k, rfl⟩ := Int.eq_ofNat_of_zero_le h0
  have hk : (revP l (clen l).toNat)[k]? = some (frK l (clen l - 1 - (k : Nat))) := by
    simp only [revP, List.getElem?_map]
    rw [List.getElem?_range (by omega)]
    rfl
  rw [seen_ones ho hk, frK_sv h (by omega) (by omega)]
noncomputable def revOf (l : List Kl) : Option (List Kl) := if TOk l ∧ clen l ≤ 2000 then edit (revM l) else none
theorem rev_no {l : List Kl} (h : ¬ (TOk l ∧ clen l ≤ 2000)) : revOf l = none := if_neg h
theorem rev_yes {l : List Kl} (h : TOk l) (k : clen l ≤ 2000) : revOf l = edit (revM l) := if_pos ⟨h, k⟩
theorem rev_prog {l : List Kl} (h : TOk l) (k : clen l ≤ 2000) : revOf l = if TOk (join (revP l (clen l).toNat)) then some (join (revP l (clen l).toNat)) else none := by
  rw [rev_yes h k, edit_ok (revM_facts h.2.1).1, rev_join h.2.1 (by omega)]
theorem rev_len (l : List Kl) : (outL (revOf l)).length ≤ 300 := by
  unfold revOf
  split
  · exact edit_len _
  · exact Nat.zero_le _
theorem revM_len {l : List Kl} (h : AOk l) : ((revM l).length : Int) ≤ clen l := by
  obtain ⟨m1, m2, _⟩ := revM_facts h
  have := clen_ge m1
  omega
end Go.Proofs.Ytkpojifblcdgcaa
