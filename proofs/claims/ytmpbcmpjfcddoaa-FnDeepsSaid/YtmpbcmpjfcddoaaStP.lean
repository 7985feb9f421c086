/-
  Plain: a stable sort of samples by depth: what keeps it, and when a list is its own; no program is named.
-/
import Derived.Test.YtmpbcmpjfcddoaaDb
namespace Go.Proofs.Ytmpbcmpjfcddoaa
set_option linter.unusedVariables false
set_option linter.unusedSimpArgs false
namespace D
/-- put in behind all that are not deeper -/
def insR : List Kl → Kl → List Kl
  | [], x => [x]
  | y :: l, x => if x.1 < y.1 then x :: y :: l else y :: insR l x
def srt (l : List Kl) : List Kl := l.foldl insR []
/-- the samples are in order -/
def Srtd (l : List Kl) : Prop := l.Pairwise (fun x y => x.1 ≤ y.1)
theorem ins_swap {s : List Kl} {x y : Kl} (h : y.1 < x.1) : insR (insR s x) y = insR (insR s y) x := by
  induction s with
  | nil => simp [insR, h]; omega
  | cons z s ih =>
    by_cases h1 : x.1 < z.1
    · have h2 : y.1 < z.1 := by omega
      have h3 : ¬ x.1 < y.1 := by omega
      simp [insR, h1, h2, h, h3]
    · by_cases h2 : y.1 < z.1
      · have h3 : ¬ x.1 < y.1 := by omega
        simp [insR, h1, h2, h3]
      · simp [insR, h1, h2, ih]
theorem srt_swap {p q : List Kl} {x y : Kl} (h : y.1 < x.1) : srt (p ++ x :: y :: q) = srt (p ++ y :: x :: q) := by
  unfold srt
  rw [List.foldl_append, List.foldl_append]
  simp only [List.foldl_cons]
  rw [ins_swap h]
theorem srt_one {p q X : List Kl} {y : Kl} (h : ∀ x ∈ X, y.1 < x.1) : srt (p ++ X ++ y :: q) = srt (p ++ y :: X ++ q) := by
  induction X generalizing p with
  | nil => simp
  | cons x X ih =>
    have h1 := ih (p := p ++ [x]) (fun z hz => h z (by simp [hz]))
    have e1 : p ++ x :: X ++ y :: q = p ++ [x] ++ X ++ y :: q := by simp
    rw [e1, h1]
    have e2 : p ++ [x] ++ y :: X ++ q = p ++ x :: y :: (X ++ q) := by simp
    have e3 : p ++ y :: x :: X ++ q = p ++ y :: x :: (X ++ q) := by simp
    rw [e2, e3]
    exact srt_swap (h x (by simp))
/-- two blocks may change places where all of the one lie ahead of all of the other -/
theorem srt_blocks {p q X Y : List Kl} (h : ∀ x ∈ X, ∀ y ∈ Y, y.1 < x.1) : srt (p ++ X ++ Y ++ q) = srt (p ++ Y ++ X ++ q) := by
  induction Y generalizing p with
  | nil => simp
  | cons y Y ih =>
    have e1 : p ++ X ++ y :: Y ++ q = p ++ X ++ y :: (Y ++ q) := by simp
    rw [e1, srt_one (fun x hx => h x hx y (by simp))]
    have e2 : p ++ y :: X ++ (Y ++ q) = p ++ [y] ++ X ++ Y ++ q := by simp
    rw [e2, ih (fun x hx z hz => h x hx z (by simp [hz]))]
    simp
theorem ins_last {s : List Kl} {x : Kl} (h : ∀ y ∈ s, y.1 ≤ x.1) : insR s x = s ++ [x] := by
  induction s with
  | nil => rfl
  | cons y s ih =>
    have h1 : ¬ x.1 < y.1 := by have := h y (by simp); omega
    simp [insR, h1, ih (fun z hz => h z (by simp [hz]))]
theorem fold_sorted {s l : List Kl} (h : Srtd (s ++ l)) : l.foldl insR s = s ++ l := by
  induction l generalizing s with
  | nil => simp
  | cons x l ih =>
    rw [List.foldl_cons, ins_last ?_]
    · rw [ih (by simpa using h)]; simp
    · intro y hy
      have := (List.pairwise_append.1 h).2.2 y hy x (by simp)
      exact this
/-- what is in order is its own -/
theorem srt_sorted {l : List Kl} (h : Srtd l) : srt l = l := by
  have := fold_sorted (s := []) (l := l) (by simpa using h)
  simpa [srt] using this
theorem ins_mem {s : List Kl} {x z : Kl} (h : z ∈ insR s x) : z = x ∨ z ∈ s := by
  induction s with
  | nil => simp [insR] at h; exact Or.inl h
  | cons y s ih =>
    unfold insR at h
    split at h
    · simp at h; rcases h with h | h | h <;> simp [h]
    · simp at h
      rcases h with h | h
      · simp [h]
      · rcases ih h with h | h <;> simp [h]
theorem ins_sorted {s : List Kl} {x : Kl} (h : Srtd s) : Srtd (insR s x) := by
  induction s with
  | nil => simp [insR, Srtd]
  | cons y s ih =>
    unfold Srtd at h
    rw [List.pairwise_cons] at h
    unfold insR
    split
    · rename_i hlt
      unfold Srtd
      rw [List.pairwise_cons, List.pairwise_cons]
      refine ⟨?_, h.1, h.2⟩
      intro z hz
      simp at hz
      rcases hz with rfl | hz
      · omega
      · have := h.1 z hz; omega
    · rename_i hlt
      unfold Srtd
      rw [List.pairwise_cons]
      refine ⟨?_, ih h.2⟩
      intro z hz
      rcases ins_mem hz with rfl | hz
      · omega
      · exact h.1 z hz
theorem srt_snoc (l : List Kl) (x : Kl) : srt (l ++ [x]) = insR (srt l) x := by unfold srt; rw [List.foldl_append]; rfl
theorem ins_len (s : List Kl) (x : Kl) : (insR s x).length = s.length + 1 := by
  induction s with
  | nil => rfl
  | cons y s ih => unfold insR; split <;> simp [ih]
theorem srt_len (l : List Kl) : (srt l).length = l.length := by
  have : ∀ s : List Kl, (l.foldl insR s).length = s.length + l.length := by
    induction l with
    | nil => simp
    | cons x l ih => intro s; rw [List.foldl_cons, ih, ins_len]; simp; omega
  simpa [srt] using this []
theorem srt_is_sorted (l : List Kl) : Srtd (srt l) := by
  have : ∀ s : List Kl, Srtd s → Srtd (l.foldl insR s) := by
    induction l with
    | nil => exact fun s h => h
    | cons x l ih => intro s h; rw [List.foldl_cons]; exact ih _ (ins_sorted h)
  exact this [] (by simp [Srtd])
/-- the same by a stable sort -/
def Alk (l l' : List Kl) : Prop := srt l = srt l' ∧ l.length = l'.length
theorem Alk.rfl {l : List Kl} : Alk l l := ⟨_root_.rfl, _root_.rfl⟩
theorem Alk.trans {l m n : List Kl} (h : Alk l m) (k : Alk m n) : Alk l n := ⟨h.1.trans k.1, h.2.trans k.2⟩
theorem Alk.done {l l' : List Kl} (h : Alk l l') (hs : Srtd l') : l' = srt l := by rw [h.1, srt_sorted hs]
/-- the part from a up to b -/
def seg (l : List Kl) (a b : Nat) : List Kl := (l.drop a).take (b - a)
theorem seg_len {l : List Kl} {a b : Nat} (hb : b ≤ l.length) : (seg l a b).length = b - a := by simp [seg]; omega
theorem seg_at {l : List Kl} {a b j : Nat} (hj : j < b - a) : (seg l a b)[j]? = l[a + j]? := by
  unfold seg
  rw [List.getElem?_take]
  simp [hj]
theorem split3 {l : List Kl} {a b : Nat} (hab : a ≤ b) (hb : b ≤ l.length) : l = l.take a ++ seg l a b ++ l.drop b := by
  unfold seg
  rw [List.append_assoc]
  have h1 : (l.drop a).take (b - a) ++ l.drop b = l.drop a := by
    have : l.drop b = (l.drop a).drop (b - a) := by rw [List.drop_drop]; congr 1; omega
    rw [this, List.take_append_drop]
  rw [h1, List.take_append_drop]
theorem split4 {l : List Kl} {a m b : Nat} (h1 : a ≤ m) (h2 : m ≤ b) (hb : b ≤ l.length) : l = l.take a ++ seg l a m ++ seg l m b ++ l.drop b := by
  have e1 := split3 (l := l) h1 (by omega)
  have e2 : l.drop m = seg l m b ++ l.drop b := by
    unfold seg
    have : l.drop b = (l.drop m).drop (b - m) := by rw [List.drop_drop]; congr 1; omega
    rw [this, List.take_append_drop]
  rw [e2] at e1
  rw [List.append_assoc]
  exact e1
/-- sorted from a up to b -/
def SrtdIn (l : List Kl) (a b : Nat) : Prop := ∀ i j x y, a ≤ i → i < j → j < b → l[i]? = some x → l[j]? = some y → x.1 ≤ y.1
theorem srtd_of_in {l : List Kl} (h : SrtdIn l 0 l.length) : Srtd l := by
  unfold Srtd
  rw [List.pairwise_iff_getElem]
  intro i j hi hj hij
  exact h i j _ _ (by omega) hij hj (List.getElem?_eq_getElem hi) (List.getElem?_eq_getElem hj)
/-- all but the part from a up to b stand -/
def Out (l l' : List Kl) (a b : Nat) : Prop := ∀ i, (i < a ∨ b ≤ i) → l'[i]? = l[i]?
theorem Out.rfl {l : List Kl} {a b : Nat} : Out l l a b := fun _ _ => _root_.rfl
theorem Out.trans {l m n : List Kl} {a b : Nat} (h : Out l m a b) (k : Out m n a b) : Out l n a b := fun i hi => (k i hi).trans (h i hi)
theorem Out.mono {l m : List Kl} {a b a' b' : Nat} (h : Out l m a b) (ha : a' ≤ a) (hb : b ≤ b') : Out l m a' b' := fun i hi => h i (by omega)
theorem SrtdIn.out {l l' : List Kl} {a b c d : Nat} (h : SrtdIn l c d) (ho : Out l l' a b) (hd : d ≤ a ∨ b ≤ c) : SrtdIn l' c d := by
  intro i j x y h1 h2 h3 hx hy
  rw [ho i (by omega)] at hx
  rw [ho j (by omega)] at hy
  exact h i j x y h1 h2 h3 hx hy
theorem SrtdIn.mono {l : List Kl} {a b a' b' : Nat} (h : SrtdIn l a b) (ha : a ≤ a') (hb : b' ≤ b) : SrtdIn l a' b' := fun i j x y h1 h2 h3 => h i j x y (by omega) h2 (by omega)
/-- two neighbours change places -/
def swp (l : List Kl) (i j : Nat) (x y : Kl) : List Kl := (l.set i y).set j x
theorem swp_at {l : List Kl} {i j : Nat} {x y : Kl} (hi : l[i]? = some x) (hj : l[j]? = some y) (k : Nat) : (swp l i j x y)[k]? = if k = j then some x else if k = i then some y else l[k]? := by
  have hil := (List.getElem?_eq_some_iff.1 hi).1
  have hjl := (List.getElem?_eq_some_iff.1 hj).1
  unfold swp
  by_cases h1 : k = j
  · subst h1; simp [hjl]
  · rw [List.getElem?_set_ne (by omega), if_neg h1]
    by_cases h2 : k = i
    · subst h2; simp [hil]
    · rw [List.getElem?_set_ne (by omega), if_neg h2]
theorem swp_alk {l : List Kl} {j : Nat} {x y : Kl} (hx : l[j]? = some x) (hy : l[j + 1]? = some y) (h : y.1 < x.1) : Alk l (swp l j (j + 1) x y) := by
  refine ⟨?_, by simp [swp]⟩
  have hjl := (List.getElem?_eq_some_iff.1 hy).1
  have e1 : l = l.take j ++ x :: y :: l.drop (j + 2) := by
    have h1 : l.drop j = x :: l.drop (j + 1) := by rw [List.drop_eq_getElem_cons (by omega)]; congr 1; rw [List.getElem?_eq_getElem (by omega)] at hx; exact Option.some.inj hx
    have h2 : l.drop (j + 1) = y :: l.drop (j + 2) := by rw [List.drop_eq_getElem_cons hjl]; congr 1; rw [List.getElem?_eq_getElem hjl] at hy; exact Option.some.inj hy
    rw [← h2, ← h1, List.take_append_drop]
  have e2 : swp l j (j + 1) x y = l.take j ++ y :: x :: l.drop (j + 2) := by
    apply List.ext_getElem?
    intro k
    rw [swp_at hx hy]
    by_cases k1 : k < j
    · rw [if_neg (by omega), if_neg (by omega), List.getElem?_append_left (by simp; omega), List.getElem?_take]; simp [k1]
    · rw [List.getElem?_append_right (by simp; omega)]
      have hlt : (l.take j).length = j := by simp; omega
      rw [hlt]
      by_cases k2 : k = j
      · subst k2; rw [if_neg (by omega), if_pos _root_.rfl]; simp
      · by_cases k3 : k = j + 1
        · subst k3; rw [if_pos _root_.rfl]; simp
        · rw [if_neg k3, if_neg k2]
          obtain ⟨c, rfl⟩ : ∃ c, k = j + 2 + c := ⟨k - (j + 2), by omega⟩
          have : j + 2 + c - j = c + 1 + 1 := by omega
          rw [this]
          simp [List.getElem?_drop]
  rw [e2]
  conv => lhs; rw [e1]
  exact srt_swap h
end D
end Go.Proofs.Ytmpbcmpjfcddoaa
