/-
  Plain facts of tracks: clips, lengths, joining, parts, what is seen at a frame; no program is named.
-/
import Derived.RowKit
namespace Go.Proofs.YtioaehjppiodfaaGreatDoor
set_option linter.unusedVariables false
set_option linter.unusedSimpArgs false

/-- a clip: its source, its first frame, its frames -/
abbrev Kl := Int × Int × Int
def COk (c : Kl) : Prop := 1 ≤ c.2.2 ∧ c.2.2 ≤ 10000000 ∧ 0 ≤ c.2.1 ∧ c.2.1 + c.2.2 ≤ 10000000 ∧ ((1 ≤ c.1 ∧ c.1 ≤ 500) ∨ (c.1 = 0 ∧ c.2.1 = 0))
instance (c : Kl) : Decidable (COk c) := by unfold COk; infer_instance
def clen : List Kl → Int
  | [] => 0
  | c :: l => c.2.2 + clen l
def AOk (l : List Kl) : Prop := ∀ c ∈ l, COk c
instance (l : List Kl) : Decidable (AOk l) := by unfold AOk; infer_instance
def TOk (l : List Kl) : Prop := l.length ≤ 300 ∧ AOk l ∧ clen l ≤ 10000000
instance (l : List Kl) : Decidable (TOk l) := by unfold TOk; infer_instance

theorem clen_append (l m : List Kl) : clen (l ++ m) = clen l + clen m := by
  induction l with
  | nil => simp [clen]
  | cons c l ih => simp [clen, ih]; omega
theorem AOk.tail {c : Kl} {l : List Kl} (h : AOk (c :: l)) : AOk l := fun x hx => h x (List.mem_cons_of_mem _ hx)
theorem AOk.head {c : Kl} {l : List Kl} (h : AOk (c :: l)) : COk c := h c List.mem_cons_self
theorem AOk.append {l m : List Kl} (h : AOk l) (k : AOk m) : AOk (l ++ m) := by
  intro x hx
  rcases List.mem_append.1 hx with hx | hx
  · exact h x hx
  · exact k x hx
theorem AOk.nil : AOk [] := fun x hx => by simp at hx
theorem AOk.cons {c : Kl} {l : List Kl} (h : COk c) (k : AOk l) : AOk (c :: l) := by
  intro x hx
  rcases List.mem_cons.1 hx with rfl | hx
  · exact h
  · exact k x hx
theorem AOk.take {l : List Kl} (h : AOk l) (k : Nat) : AOk (l.take k) := fun x hx => h x (List.mem_of_mem_take hx)
theorem AOk.drop {l : List Kl} (h : AOk l) (k : Nat) : AOk (l.drop k) := fun x hx => h x (List.mem_of_mem_drop hx)
theorem clen_nonneg {l : List Kl} (h : AOk l) : 0 ≤ clen l := by
  induction l with
  | nil => simp [clen]
  | cons c l ih => have := ih h.tail; have := h.head.1; simp only [clen]; omega
theorem clen_le {l : List Kl} (h : AOk l) : clen l ≤ l.length * 10000000 := by
  induction l with
  | nil => simp [clen]
  | cons c l ih => have := ih h.tail; have := h.head.2.1; simp only [clen, List.length_cons]; omega
theorem clen_ge {l : List Kl} (h : AOk l) : (l.length : Int) ≤ clen l := by
  induction l with
  | nil => simp [clen]
  | cons c l ih => have := ih h.tail; have := h.head.1; simp only [clen, List.length_cons]; omega
theorem take_snocK {l : List Kl} {k : Nat} {c : Kl} (h : l[k]? = some c) : l.take (k + 1) = l.take k ++ [c] := by
  rw [List.take_add_one, h]; rfl
theorem clen_take {l : List Kl} {k : Nat} {c : Kl} (h : l[k]? = some c) : clen (l.take (k + 1)) = clen (l.take k) + c.2.2 := by
  rw [take_snocK h, clen_append]; simp [clen]
theorem clen_take_le {l : List Kl} (h : AOk l) (k : Nat) : clen (l.take k) ≤ clen l := by
  have e : clen l = clen (l.take k) + clen (l.drop k) := by rw [← clen_append, List.take_append_drop]
  have := clen_nonneg (h.drop k)
  omega

/-- one clip's part -/
def ptOne (c : Kl) (a b : Int) : List Kl := if max a 0 < min b c.2.2 then [(c.1, (if c.1 = 0 then 0 else c.2.1 + max a 0), min b c.2.2 - max a 0)] else []
def part : List Kl → Int → Int → List Kl
  | [], _, _ => []
  | c :: l, a, b => ptOne c a b ++ part l (a - c.2.2) (b - c.2.2)
theorem part_append (l m : List Kl) (a b : Int) : part (l ++ m) a b = part l a b ++ part m (a - clen l) (b - clen l) := by
  induction l generalizing a b with
  | nil => simp [part, clen]
  | cons c l ih =>
    simp only [List.cons_append, part, ih, clen, List.append_assoc]
    have e1 : a - c.2.2 - clen l = a - (c.2.2 + clen l) := by omega
    have e2 : b - c.2.2 - clen l = b - (c.2.2 + clen l) := by omega
    rw [e1, e2]
theorem part_snoc {l : List Kl} {k : Nat} {c : Kl} (h : l[k]? = some c) (a b : Int) : part (l.take (k + 1)) a b = part (l.take k) a b ++ ptOne c (a - clen (l.take k)) (b - clen (l.take k)) := by
  rw [take_snocK h, part_append]; simp [part]
theorem ptOne_len (c : Kl) (a b : Int) : (ptOne c a b).length ≤ 1 := by unfold ptOne; split <;> simp
theorem part_len (l : List Kl) (a b : Int) : (part l a b).length ≤ l.length := by
  induction l generalizing a b with
  | nil => simp [part]
  | cons c l ih => simp only [part, List.length_append, List.length_cons]; have := ih (a - c.2.2) (b - c.2.2); have := ptOne_len c a b; omega
theorem ptOne_ok {c : Kl} {a b : Int} (h : COk c) : AOk (ptOne c a b) := by
  obtain ⟨s, i, n⟩ := c
  obtain ⟨h1, h2, h3, h4, h5⟩ := h
  unfold ptOne
  split
  · rename_i hlt
    refine AOk.cons ?_ AOk.nil
    simp only at *
    unfold COk
    simp only
    by_cases hs : s = 0
    · simp only [hs, if_true]
      refine ⟨by omega, by omega, by omega, by omega, Or.inr ⟨trivial, trivial⟩⟩
    · simp only [hs, if_false]
      refine ⟨by omega, by omega, by omega, by omega, Or.inl (by omega)⟩
  · exact AOk.nil
theorem part_ok {l : List Kl} (h : AOk l) (a b : Int) : AOk (part l a b) := by
  induction l generalizing a b with
  | nil => exact AOk.nil
  | cons c l ih => exact (ptOne_ok h.head).append (ih h.tail _ _)
theorem part_far {l : List Kl} (h : AOk l) {a b b' : Int} (h1 : clen l ≤ b) (h2 : clen l ≤ b') : part l a b = part l a b' := by
  induction l generalizing a b b' with
  | nil => rfl
  | cons c l ih =>
    have := clen_nonneg h.tail
    simp only [clen] at h1 h2
    simp only [part]
    rw [ih h.tail (b := b - c.2.2) (b' := b' - c.2.2) (by omega) (by omega)]
    have e : min b c.2.2 = min b' c.2.2 := by omega
    unfold ptOne
    rw [e]
theorem part_behind {l : List Kl} (h : AOk l) {a b : Int} (h1 : clen l ≤ a) : part l a b = [] := by
  induction l generalizing a b with
  | nil => rfl
  | cons c l ih =>
    have := clen_nonneg h.tail
    simp only [clen] at h1
    simp only [part]
    rw [ih h.tail (by omega)]
    unfold ptOne
    rw [if_neg (by omega)]; rfl
theorem part_ahead {l : List Kl} (h : AOk l) {a b : Int} (h1 : b ≤ 0) : part l a b = [] := by
  induction l generalizing a b with
  | nil => rfl
  | cons c l ih =>
    have := h.head.1
    simp only [part]
    rw [ih h.tail (by omega)]
    unfold ptOne
    rw [if_neg (by omega)]; rfl

/-- what is seen at a frame -/
def seen : List Kl → Int → Int × Int
  | [], _ => (-1, -1)
  | c :: l, i => if i < c.2.2 then (if c.1 = 0 then (0, 0) else (c.1, c.2.1 + i)) else seen l (i - c.2.2)
def frameAt (l : List Kl) (i : Int) : Int × Int := if TOk l ∧ 0 ≤ i then seen l i else (-1, -1)
theorem seen_past {l : List Kl} {i : Int} (h : AOk l) (hi : clen l ≤ i) : seen l i = (-1, -1) := by
  induction l generalizing i with
  | nil => rfl
  | cons c l ih =>
    have := clen_nonneg h.tail
    simp only [clen] at hi
    simp only [seen]
    rw [if_neg (by omega)]
    exact ih h.tail (by omega)
theorem part_one {l : List Kl} {i : Int} (h : AOk l) (h0 : 0 ≤ i) (h1 : i < clen l) : ∃ x : Kl, part l i (i + 1) = [x] ∧ (x.1, x.2.1) = seen l i := by
  induction l generalizing i with
  | nil => simp [clen] at h1; omega
  | cons c l ih =>
    have hn := h.head.1
    simp only [clen] at h1
    simp only [part, seen]
    by_cases hlt : i < c.2.2
    · rw [part_ahead h.tail (by omega), if_pos hlt]
      unfold ptOne
      rw [if_pos (by omega)]
      have e : max i 0 = i := by omega
      rw [e]
      refine ⟨_, rfl, ?_⟩
      by_cases hs : c.1 = 0
      · simp [hs]
      · simp [hs]
    · rw [if_neg hlt]
      obtain ⟨x, hx, hs⟩ := ih (i := i - c.2.2) h.tail (by omega) (by omega)
      have e : i + 1 - c.2.2 = i - c.2.2 + 1 := by omega
      rw [e, hx]
      refine ⟨x, ?_, hs⟩
      unfold ptOne
      rw [if_neg (by omega)]; rfl

/-- joining -/
def goes (p c : Kl) : Prop := p.1 = c.1 ∧ (c.1 = 0 ∨ p.2.1 + p.2.2 = c.2.1)
instance (p c : Kl) : Decidable (goes p c) := by unfold goes; infer_instance
def jstep (out : List Kl) (c : Kl) : List Kl :=
  match out.getLast? with
  | none => [c]
  | some p => if goes p c then out.dropLast ++ [(p.1, p.2.1, p.2.2 + c.2.2)] else out ++ [c]
def join (l : List Kl) : List Kl := l.foldl jstep []
theorem jstep_nil (c : Kl) : jstep [] c = [c] := rfl
theorem jstep_snoc (o : List Kl) (p c : Kl) : jstep (o ++ [p]) c = if goes p c then o ++ [(p.1, p.2.1, p.2.2 + c.2.2)] else (o ++ [p]) ++ [c] := by
  simp [jstep]
theorem join_take {l : List Kl} {k : Nat} {c : Kl} (h : l[k]? = some c) : join (l.take (k + 1)) = jstep (join (l.take k)) c := by
  unfold join; rw [take_snocK h, List.foldl_append]; rfl
theorem clen_jstep (o : List Kl) (c : Kl) : clen (jstep o c) = clen o + c.2.2 := by
  rcases List.eq_nil_or_concat o with rfl | ⟨o, p, rfl⟩
  · simp [jstep_nil, clen]
  · rw [List.concat_eq_append, jstep_snoc]
    split <;> simp [clen_append, clen] <;> omega
theorem clen_foldl (l o : List Kl) : clen (l.foldl jstep o) = clen o + clen l := by
  induction l generalizing o with
  | nil => simp [clen]
  | cons c l ih => simp only [List.foldl_cons, ih, clen_jstep, clen]; omega
theorem clen_join (l : List Kl) : clen (join l) = clen l := by unfold join; rw [clen_foldl]; simp [clen]
theorem len_jstep (o : List Kl) (c : Kl) : (jstep o c).length ≤ o.length + 1 := by
  rcases List.eq_nil_or_concat o with rfl | ⟨o, p, rfl⟩
  · simp [jstep_nil]
  · rw [List.concat_eq_append, jstep_snoc]
    split <;> simp
theorem len_foldl (l o : List Kl) : (l.foldl jstep o).length ≤ o.length + l.length := by
  induction l generalizing o with
  | nil => simp
  | cons c l ih => simp only [List.foldl_cons, List.length_cons]; have := ih (jstep o c); have := len_jstep o c; omega
theorem len_join (l : List Kl) : (join l).length ≤ l.length := by have := len_foldl l []; simpa [join] using this
/-- what holds of each clip while clips are being joined: numbers in bounds -/
def Bd (B : Int) (c : Kl) : Prop := 0 ≤ c.1 ∧ c.1 ≤ 500 ∧ 0 ≤ c.2.1 ∧ c.2.1 ≤ 10000000 ∧ 1 ≤ c.2.2 ∧ c.2.2 ≤ B
theorem COk.bd {c : Kl} (h : COk c) : Bd 10000000 c := by obtain ⟨h1, h2, h3, h4, h5⟩ := h; refine ⟨?_, ?_, ?_, ?_, ?_, ?_⟩ <;> omega
theorem Bd.mono {B B' : Int} {c : Kl} (h : Bd B c) (hB : B ≤ B') : Bd B' c := ⟨h.1, h.2.1, h.2.2.1, h.2.2.2.1, h.2.2.2.2.1, by have := h.2.2.2.2.2; omega⟩
theorem bd_jstep {o : List Kl} {c : Kl} {B : Int} (h : ∀ x ∈ o, Bd B x) (hc : COk c) (hB : 0 ≤ B) : ∀ x ∈ jstep o c, Bd (B + 10000000) x := by
  have hcb := hc.bd
  rcases List.eq_nil_or_concat o with rfl | ⟨o, p, rfl⟩
  · intro x hx
    rw [jstep_nil] at hx
    obtain rfl := List.mem_singleton.1 hx
    exact hcb.mono (by omega)
  · rw [List.concat_eq_append] at *
    rw [jstep_snoc]
    have hp := h p (by simp)
    split
    · intro x hx
      rcases List.mem_append.1 hx with hx | hx
      · exact (h x (by simp [hx])).mono (by omega)
      · obtain rfl := List.mem_singleton.1 hx
        obtain ⟨a1, a2, a3, a4, a5, a6⟩ := hp
        obtain ⟨b1, b2, b3, b4, b5, b6⟩ := hcb
        refine ⟨?_, ?_, ?_, ?_, ?_, ?_⟩ <;> simp only <;> omega
    · intro x hx
      rcases List.mem_append.1 hx with hx | hx
      · exact (h x hx).mono (by omega)
      · obtain rfl := List.mem_singleton.1 hx
        exact hcb.mono (by omega)
theorem bd_join {l : List Kl} (h : AOk l) : ∀ k, k ≤ l.length → ∀ x ∈ join (l.take k), Bd (k * 10000000) x := by
  intro k
  induction k with
  | zero => intro _ x hx; simp [join] at hx
  | succ k ih =>
    intro hk
    have hlt : k < l.length := hk
    rw [join_take (List.getElem?_eq_getElem hlt)]
    have := bd_jstep (ih (by omega)) (h _ (List.getElem_mem hlt)) (by omega)
    intro x hx
    have e : ((k + 1 : Nat) : Int) * 10000000 = k * 10000000 + 10000000 := by omega
    rw [e]
    exact this x hx

/-- an edit's answer -/
def edit (x : List Kl) : Option (List Kl) := if AOk x ∧ TOk (join x) then some (join x) else none
def outL (r : Option (List Kl)) : List Kl := r.getD []
theorem edit_ok {x : List Kl} (h : AOk x) : edit x = if TOk (join x) then some (join x) else none := by
  unfold edit; simp [h]
theorem edit_no {x : List Kl} (h : ¬ AOk x) : edit x = none := by unfold edit; simp [h]
theorem edit_no2 {x : List Kl} (h : ¬ TOk (join x)) : edit x = none := by unfold edit; simp [h]
theorem edit_yes {x : List Kl} (h : AOk x) (k : TOk (join x)) : edit x = some (join x) := by unfold edit; simp [h, k]
theorem edit_len (x : List Kl) : (outL (edit x)).length ≤ 300 := by
  unfold edit outL
  split
  · rename_i h; exact h.2.1
  · simp

end Go.Proofs.YtioaehjppiodfaaGreatDoor
