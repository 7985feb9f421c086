/-
  Plain facts of reels: told reels, what is missing; lists that are sorted by source and beginning tell alike, whatever the order of equals; no program is named.
-/
import Derived.Test.YtfbifffmieimoaaCutP
namespace Go.Proofs.Ytfbifffmieimoaa
set_option linter.unusedVariables false
set_option linter.unusedSimpArgs false

/-- a reel: its source, its first frame, the frame behind its last -/
def ROk (r : Kl) : Prop := (1 ≤ r.1 ∧ r.1 ≤ 500) ∧ 0 ≤ r.2.1 ∧ r.2.1 < r.2.2 ∧ r.2.2 ≤ 10000000
instance (r : Kl) : Decidable (ROk r) := by unfold ROk; infer_instance
def RsOk (l : List Kl) : Prop := l.length ≤ 300 ∧ ∀ r ∈ l, ROk r
instance (l : List Kl) : Decidable (RsOk l) := by unfold RsOk; infer_instance
/-- the one begins no later than the other -/
def kle (a b : Kl) : Prop := a.1 < b.1 ∨ (a.1 = b.1 ∧ a.2.1 ≤ b.2.1)
instance (a b : Kl) : Decidable (kle a b) := by unfold kle; infer_instance
theorem kle.trans {a b c : Kl} (h : kle a b) (k : kle b c) : kle a c := by unfold kle at *; omega
theorem kle.total (a b : Kl) : kle a b ∨ kle b a := by unfold kle; omega

/-- x is under way, the rest behind it -/
def tellG (x : Kl) : List Kl → List Kl
  | [] => [x]
  | r :: l => if r.1 = x.1 ∧ r.2.1 ≤ x.2.2 then tellG (x.1, x.2.1, max x.2.2 r.2.2) l else x :: tellG r l
def tell : List Kl → List Kl
  | [] => []
  | r :: l => tellG r l

/-- what comes into being as lists are read one by one: o and x stand -/
def tells (o : List Kl) (x : Option Kl) (l : List Kl) : List Kl :=
  match x with
  | none => o ++ tell l
  | some x => o ++ tellG x l
theorem tellG_hit {x r : Kl} {l : List Kl} (h : r.1 = x.1 ∧ r.2.1 ≤ x.2.2) : tellG x (r :: l) = tellG (x.1, x.2.1, max x.2.2 r.2.2) l := by
  show (if _ then _ else _) = _
  rw [if_pos h]
theorem tellG_new {x r : Kl} {l : List Kl} (h : ¬ (r.1 = x.1 ∧ r.2.1 ≤ x.2.2)) : tellG x (r :: l) = x :: tellG r l := by
  show (if _ then _ else _) = _
  rw [if_neg h]
theorem tellG_swap {x a b : Kl} (l : List Kl) (h1 : a.1 = b.1) (h2 : a.2.1 = b.2.1) (ha : a.2.1 ≤ a.2.2) (hb : b.2.1 ≤ b.2.2) : tellG x (a :: b :: l) = tellG x (b :: a :: l) := by
  by_cases h : a.1 = x.1 ∧ a.2.1 ≤ x.2.2
  · have e : max (max x.2.2 a.2.2) b.2.2 = max (max x.2.2 b.2.2) a.2.2 := by omega
    rw [tellG_hit h, tellG_hit (x := (x.1, x.2.1, max x.2.2 a.2.2)) (r := b) (by show b.1 = x.1 ∧ b.2.1 ≤ max x.2.2 a.2.2; omega), tellG_hit (x := x) (r := b) (by omega), tellG_hit (x := (x.1, x.2.1, max x.2.2 b.2.2)) (r := a) (by show a.1 = x.1 ∧ a.2.1 ≤ max x.2.2 b.2.2; omega)]
    show tellG (x.1, x.2.1, max (max x.2.2 a.2.2) b.2.2) l = tellG (x.1, x.2.1, max (max x.2.2 b.2.2) a.2.2) l
    rw [e]
  · have e : max a.2.2 b.2.2 = max b.2.2 a.2.2 := by omega
    rw [tellG_new h, tellG_hit (x := a) (r := b) (by omega), tellG_new (x := x) (r := b) (by omega), tellG_hit (x := b) (r := a) (by omega)]
    simp only [e, h1, h2]
theorem tellG_front {x a : Kl} (p s : List Kl) (ha : a.2.1 ≤ a.2.2) (hp : ∀ b ∈ p, b.1 = a.1 ∧ b.2.1 = a.2.1 ∧ b.2.1 ≤ b.2.2) : tellG x (p ++ a :: s) = tellG x (a :: (p ++ s)) := by
  induction p generalizing x with
  | nil => rfl
  | cons b p ih =>
    obtain ⟨h1, h2, h3⟩ := hp b List.mem_cons_self
    have ih' := fun y => ih (x := y) (fun c hc => hp c (List.mem_cons_of_mem _ hc))
    rw [List.cons_append, List.cons_append, tellG_swap (a := a) (b := b) _ (by omega) (by omega) ha h3]
    by_cases h : b.1 = x.1 ∧ b.2.1 ≤ x.2.2
    · rw [tellG_hit h, tellG_hit h, ih']
    · rw [tellG_new h, tellG_new h, ih']
theorem tell_front {a : Kl} (p s : List Kl) (ha : a.2.1 ≤ a.2.2) (hp : ∀ b ∈ p, b.1 = a.1 ∧ b.2.1 = a.2.1 ∧ b.2.1 ≤ b.2.2) : tell (p ++ a :: s) = tell (a :: (p ++ s)) := by
  cases p with
  | nil => rfl
  | cons b p =>
    obtain ⟨h1, h2, h3⟩ := hp b List.mem_cons_self
    show tellG b (p ++ a :: s) = tellG a (b :: (p ++ s))
    rw [tellG_front p s ha (fun c hc => hp c (List.mem_cons_of_mem _ hc)), tellG_hit (by omega), tellG_hit (by omega)]
    have e : max b.2.2 a.2.2 = max a.2.2 b.2.2 := by omega
    rw [e, h1, h2]
theorem perm_part {a : Kl} {l m : List Kl} (hp : (a :: l).Perm m) (hs : (a :: l).Pairwise kle) (hm : m.Pairwise kle) : ∃ p s, m = p ++ a :: s ∧ l.Perm (p ++ s) ∧ (p ++ s).Pairwise kle ∧ ∀ b ∈ p, b.1 = a.1 ∧ b.2.1 = a.2.1 := by
  have hin : a ∈ m := hp.subset List.mem_cons_self
  obtain ⟨p, s, rfl⟩ := List.append_of_mem hin
  have hq : (p ++ a :: s).Perm (a :: (p ++ s)) := List.perm_middle
  refine ⟨p, s, rfl, (List.perm_cons a).1 (hp.trans hq), ?_, ?_⟩
  · rw [List.pairwise_append] at hm ⊢
    obtain ⟨h1, h2, h3⟩ := hm
    exact ⟨h1, (List.pairwise_cons.1 h2).2, fun x hx y hy => h3 x hx y (List.mem_cons_of_mem _ hy)⟩
  · intro b hb
    have k1 : kle b a := (List.pairwise_append.1 hm).2.2 b hb a List.mem_cons_self
    have hb' : b ∈ a :: l := hp.symm.subset (List.mem_append_left _ hb)
    rcases List.mem_cons.1 hb' with e | hb'
    · subst e; exact ⟨rfl, rfl⟩
    · have k2 : kle a b := (List.pairwise_cons.1 hs).1 b hb'
      unfold kle at *; omega
theorem tellG_perm {l m : List Kl} (hp : l.Perm m) (hs : l.Pairwise kle) (hm : m.Pairwise kle) (hr : ∀ r ∈ l, r.2.1 ≤ r.2.2) (x : Kl) : tellG x l = tellG x m := by
  induction l generalizing m x with
  | nil => rw [List.nil_perm.1 hp]
  | cons a l ih =>
    obtain ⟨p, s, rfl, hq, hw, hk⟩ := perm_part hp hs hm
    have hr' : ∀ r ∈ l, r.2.1 ≤ r.2.2 := fun r h => hr r (List.mem_cons_of_mem _ h)
    rw [tellG_front p s (hr a List.mem_cons_self) (fun b hb => ⟨(hk b hb).1, (hk b hb).2, hr b (hp.symm.subset (List.mem_append_left _ hb))⟩)]
    have ih' := fun y => ih hq (List.pairwise_cons.1 hs).2 hw hr' y
    by_cases h : a.1 = x.1 ∧ a.2.1 ≤ x.2.2
    · rw [tellG_hit h, tellG_hit h, ih']
    · rw [tellG_new h, tellG_new h, ih']
theorem tell_perm {l m : List Kl} (hp : l.Perm m) (hs : l.Pairwise kle) (hm : m.Pairwise kle) (hr : ∀ r ∈ l, r.2.1 ≤ r.2.2) : tell l = tell m := by
  cases l with
  | nil => rw [List.nil_perm.1 hp]
  | cons a l =>
    obtain ⟨p, s, rfl, hq, hw, hk⟩ := perm_part hp hs hm
    rw [tell_front p s (hr a List.mem_cons_self) (fun b hb => ⟨(hk b hb).1, (hk b hb).2, hr b (hp.symm.subset (List.mem_append_left _ hb))⟩)]
    exact tellG_perm hq (List.pairwise_cons.1 hs).2 hw (fun r h => hr r (List.mem_cons_of_mem _ h)) a

/-- sorting by putting in, as a function: where a new one comes -/
def insK (x : Kl) : List Kl → List Kl
  | [] => [x]
  | y :: l => if kle y x then y :: insK x l else x :: y :: l
def sortK : List Kl → List Kl := fun l => l.foldl (fun s x => insK x s) []
theorem insK_perm (x : Kl) (l : List Kl) : (insK x l).Perm (x :: l) := by
  induction l with
  | nil => exact List.Perm.refl _
  | cons y l ih =>
    unfold insK
    split
    · exact (List.Perm.cons y ih).trans (List.Perm.swap _ _ _)
    · exact List.Perm.refl _
theorem insK_sorted (x : Kl) {l : List Kl} (h : l.Pairwise kle) : (insK x l).Pairwise kle := by
  induction l with
  | nil => simp [insK]
  | cons y l ih =>
    obtain ⟨h1, h2⟩ := List.pairwise_cons.1 h
    unfold insK
    split
    · rename_i hk
      refine List.pairwise_cons.2 ⟨fun z hz => ?_, ih h2⟩
      rcases List.mem_cons.1 ((insK_perm x l).subset hz) with e | hz
      · rw [e]; exact hk
      · exact h1 z hz
    · rename_i hk
      have hxy : kle x y := (kle.total y x).resolve_left hk
      refine List.pairwise_cons.2 ⟨fun z hz => ?_, h⟩
      rcases List.mem_cons.1 hz with e | hz
      · rw [e]; exact hxy
      · exact hxy.trans (h1 z hz)
/-- the place at which x comes into a sorted list: all behind it begin later, what is ahead of it does not -/
theorem insK_at {x : Kl} {l : List Kl} {k : Nat} (hs : l.Pairwise kle) (hk : k ≤ l.length) (h1 : ∀ y ∈ l.drop k, ¬ kle y x) (h2 : ∀ y, l[k - 1]? = some y → 0 < k → kle y x) : insK x l = l.take k ++ x :: l.drop k := by
  induction l generalizing k with
  | nil => simp [insK]
  | cons y l ih =>
    obtain ⟨p1, p2⟩ := List.pairwise_cons.1 hs
    cases k with
    | zero =>
      have : ¬ kle y x := h1 y (by simp)
      simp [insK, this]
    | succ k =>
      have hyx : kle y x := by
        cases k with
        | zero => exact h2 y (by simp) (by omega)
        | succ k =>
          simp at hk
          obtain ⟨z, hz⟩ : ∃ z, l[k]? = some z := ⟨l[k], List.getElem?_eq_getElem (by omega)⟩
          exact (p1 z (List.mem_of_getElem? hz)).trans (h2 z (by simpa using hz) (by omega))
      have hi := ih (k := k) p2 (by simpa using hk) (by simpa using h1) (by
        intro z hz h0
        refine h2 z ?_ (by omega)
        cases k with
        | zero => omega
        | succ k => simpa using hz)
      simp [insK, hyx, hi]
theorem sortK_snoc (l : List Kl) (x : Kl) : sortK (l ++ [x]) = insK x (sortK l) := by simp [sortK]
theorem sortK_spec (l : List Kl) : (sortK l).Perm l ∧ (sortK l).Pairwise kle := by
  have : ∀ n (l : List Kl), l.length = n → (sortK l).Perm l ∧ (sortK l).Pairwise kle := by
    intro n
    induction n with
    | zero => intro l h; rw [List.length_eq_zero_iff.1 h]; exact ⟨List.Perm.refl _, List.Pairwise.nil⟩
    | succ n ih =>
      intro l h
      have hne : l ≠ [] := by intro e; subst e; simp at h
      have e : l = l.dropLast ++ [l.getLast hne] := (List.dropLast_concat_getLast hne).symm
      obtain ⟨i1, i2⟩ := ih l.dropLast (by simp [h])
      rw [e, sortK_snoc]
      refine ⟨?_, insK_sorted _ i2⟩
      exact (insK_perm _ _).trans ((List.Perm.cons _ i1).trans (List.perm_append_singleton _ _).symm)
  exact this l.length l rfl
/-- a list's told reels -/
def told (l : List Kl) : List Kl := tell (sortK l)
theorem told_of {l m : List Kl} (hp : m.Perm l) (hm : m.Pairwise kle) (hr : ∀ r ∈ l, r.2.1 ≤ r.2.2) : tell m = told l := by
  obtain ⟨h1, h2⟩ := sortK_spec l
  exact tell_perm (hp.trans h1.symm) hm h2 (fun r h => hr r (hp.subset h))
theorem tellG_len (x : Kl) (l : List Kl) : (tellG x l).length ≤ l.length + 1 := by
  induction l generalizing x with
  | nil => simp [tellG]
  | cons r l ih =>
    unfold tellG
    split
    · have := ih (x.1, x.2.1, max x.2.2 r.2.2); simp; omega
    · have := ih r; simp; omega
theorem told_len (l : List Kl) : (told l).length ≤ l.length := by
  have e : (sortK l).length = l.length := (sortK_spec l).1.length_eq
  unfold told
  cases h : sortK l with
  | nil => simp [tell]
  | cons a s => have := tellG_len a s; rw [h] at e; simp at e; simp only [tell]; omega

/-- what is left of a reel of the source s up to t, from f on -/
def wo (s t : Int) (f : Int) : List Kl → List Kl
  | [] => if f < t then [(s, f, t)] else []
  | b :: l => if b.1 ≠ s ∨ b.2.2 ≤ f ∨ t ≤ b.2.1 then wo s t f l else (if f < b.2.1 then [(s, f, b.2.1)] else []) ++ wo s t b.2.2 l
def missG (a b : List Kl) : List Kl := a.flatMap fun x => wo x.1 x.2.2 x.2.1 b
def missing (a b : List Kl) : List Kl := missG (told a) (told b)
def missOf (a b : List Kl) : List Kl := if RsOk a ∧ RsOk b then missing a b else []
theorem wo_skip {s t f : Int} {b : Kl} {l : List Kl} (h : b.1 ≠ s ∨ b.2.2 ≤ f ∨ t ≤ b.2.1) : wo s t f (b :: l) = wo s t f l := by
  show (if _ then _ else _) = _
  rw [if_pos h]
theorem wo_take {s t f : Int} {b : Kl} {l : List Kl} (h : ¬ (b.1 ≠ s ∨ b.2.2 ≤ f ∨ t ≤ b.2.1)) : wo s t f (b :: l) = (if f < b.2.1 then [(s, f, b.2.1)] else []) ++ wo s t b.2.2 l := by
  show (if _ then _ else _) = _
  rw [if_neg h]
theorem wo_len (s t f : Int) (l : List Kl) : (wo s t f l).length ≤ l.length + 1 := by
  induction l generalizing f with
  | nil => unfold wo; split <;> simp
  | cons b l ih =>
    by_cases h : b.1 ≠ s ∨ b.2.2 ≤ f ∨ t ≤ b.2.1
    · rw [wo_skip h]; have := ih f; simp; omega
    · rw [wo_take h]; have := ih b.2.2; simp only [List.length_append, List.length_cons]; split <;> simp <;> omega
theorem missG_len (a b : List Kl) : (missG a b).length ≤ a.length * (b.length + 1) := by
  induction a with
  | nil => simp [missG]
  | cons x a ih =>
    have h1 : missG (x :: a) b = wo x.1 x.2.2 x.2.1 b ++ missG a b := by simp [missG]
    have := wo_len x.1 x.2.2 x.2.1 b
    rw [h1, List.length_append, List.length_cons, Nat.succ_mul]; omega
/-- the frames of a clip, a gap none, with the handle on both sides -/
def reelOf (h : Int) (c : Kl) : List Kl := if c.1 = 0 then [] else [(c.1, max (c.2.1 - h) 0, min (c.2.1 + c.2.2 + h) 10000000)]
def reelsOf (h : Int) (l : List Kl) : List Kl := l.flatMap (reelOf h)
def shownOf (h : Int) (ts : List (List Kl)) : List Kl := ts.flatMap (reelsOf h)
def needsOf (ts : List (List Kl)) (h : Int) : List Kl := if ts.length ≤ 50 ∧ (0 ≤ h ∧ h ≤ 1000) ∧ ∀ t ∈ ts, TOk t then told (shownOf h ts) else []
theorem reelOf_ok {h : Int} {c : Kl} (hc : COk c) (h0 : 0 ≤ h) : ∀ r ∈ reelOf h c, r.2.1 ≤ r.2.2 := by
  intro r hr
  unfold reelOf at hr
  split at hr
  · simp at hr
  · simp at hr; subst hr; unfold COk at hc; simp only []; omega
theorem shown_ok {h : Int} {ts : List (List Kl)} (hc : ∀ t ∈ ts, AOk t) (h0 : 0 ≤ h) : ∀ r ∈ shownOf h ts, r.2.1 ≤ r.2.2 := by
  intro r hr
  obtain ⟨t, ht, hr⟩ := List.mem_flatMap.1 hr
  obtain ⟨c, hcm, hr⟩ := List.mem_flatMap.1 hr
  exact reelOf_ok (hc t ht c hcm) h0 r hr

end Go.Proofs.Ytfbifffmieimoaa
