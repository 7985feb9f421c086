/-
  Who works when, plain: it names no program; no conditions.
  Who works when, in memory: ends, free workers and runs, and how they are written; no conditions.
-/
import Derived.Test.YtpmmimcafkillaaZJbP
namespace Go.Proofs.Ytpmmimcafkillaa
open Go.RowKit
set_option linter.unusedVariables false
set_option linter.unusedSimpArgs false

/-- all that is needed has ended -/
def hvE (ends : List Int) (now : Int) (zs : List Int) : Bool := zs.all fun x => !(ends.getD x.toNat 0 == 0) && decide (ends.getD x.toNat 0 ≤ now)
def rdy (ends : List Int) (now : Int) (i : Nat) (t : Tv) : Bool := (ends.getD i 0 == 0) && hvE ends now t.2.2.1
def frF (ends : List Int) (now : Int) : Nat → List Tv → Option Nat
  | _, [] => none
  | i, t :: l => if rdy ends now i t = true then some i else frF ends now (i + 1) l
def frst (ts : List Tv) (ends : List Int) (now : Int) : Option Nat := frF ends now 0 ts
structure St where
  ends : List Int
  free : List Int
  now : Int
  runs : List Kl
def cst (ts : List Tv) (i : Nat) : Int := (ts.getD i (0, 0, [], 0)).2.2.2
def taken (ts : List Tv) (s : St) (k i : Nat) : St :=
  { ends := s.ends.set i (s.now + cst ts i), free := s.free.set k (s.now + cst ts i), now := s.now, runs := s.runs ++ [((i : Int), (k : Int), s.now, s.now + cst ts i)] }
def wstep (ts : List Tv) (s : St) (k : Nat) : St :=
  if s.now < s.free.getD k 0 then s else match frst ts s.ends s.now with
    | none => s
    | some i => taken ts s k i
def swF (ts : List Tv) : Nat → Nat → St → St
  | 0, _, s => s
  | m + 1, k, s => swF ts m (k + 1) (wstep ts s k)
/-- the least above now; u: nothing yet -/
def lG (now : Int) (u : Int → Bool) (nx : Int) (l : List Int) : Int := l.foldl (fun nx e => if now < e ∧ (u nx = true ∨ e < nx) then e else nx) nx
structure IsNext (now : Int) (l : List Int) (r : Int) : Prop where
  mem : r ∈ l
  gt : now < r
  le : ∀ x ∈ l, now < x → r ≤ x
theorem lG_gen (now : Int) (u : Int → Bool) (hu : ∀ e, now < e → u e = false) (l : List Int) : ∀ nx, (u nx = true ∨ now < nx) →
    (lG now u nx l = nx ∧ (∀ x ∈ l, now < x → u nx = false ∧ nx ≤ x)) ∨ (IsNext now l (lG now u nx l) ∧ (u nx = true ∨ lG now u nx l ≤ nx)) := by
  induction l with
  | nil => intro nx _; exact .inl ⟨rfl, fun x hx => by cases hx⟩
  | cons e l ih =>
    intro nx hnx
    by_cases hc : now < e ∧ (u nx = true ∨ e < nx)
    · have e1 : lG now u nx (e :: l) = lG now u e l := by simp [lG, hc]
      rw [e1]
      right
      rcases ih e (.inr hc.1) with ⟨h1, h2⟩ | ⟨h1, h2⟩
      · rw [h1]
        refine ⟨⟨by simp, hc.1, fun x hx hn => ?_⟩, ?_⟩
        · rcases List.mem_cons.1 hx with rfl | hx
          · omega
          · exact (h2 x hx hn).2
        · rcases hc.2 with h | h
          · exact .inl h
          · exact .inr (by omega)
      · have h3 : lG now u e l ≤ e := by
          rcases h2 with h2 | h2
          · rw [hu e hc.1] at h2; cases h2
          · exact h2
        refine ⟨⟨by simp [h1.mem], h1.gt, fun x hx hn => ?_⟩, ?_⟩
        · rcases List.mem_cons.1 hx with rfl | hx
          · exact h3
          · exact h1.le x hx hn
        · rcases hc.2 with h | h
          · exact .inl h
          · exact .inr (by omega)
    · have e1 : lG now u nx (e :: l) = lG now u nx l := by simp [lG, hc]
      rw [e1]
      have hne : now < e → u nx = false ∧ nx ≤ e := fun h => by
        constructor
        · cases h5 : u nx with
          | false => rfl
          | true => exact absurd ⟨h, .inl h5⟩ hc
        · have : ¬ e < nx := fun h6 => hc ⟨h, .inr h6⟩
          omega
      rcases ih nx hnx with ⟨h1, h2⟩ | ⟨h1, h2⟩
      · left
        refine ⟨h1, fun x hx hn => ?_⟩
        rcases List.mem_cons.1 hx with rfl | hx
        · exact hne hn
        · exact h2 x hx hn
      · right
        refine ⟨⟨by simp [h1.mem], h1.gt, fun x hx hn => ?_⟩, h2⟩
        rcases List.mem_cons.1 hx with rfl | hx
        · have h5 := hne hn
          rcases h2 with h2 | h2
          · rw [h5.1] at h2; cases h2
          · omega
        · exact h1.le x hx hn
theorem lG_next {now : Int} {u : Int → Bool} (hu : ∀ e, now < e → u e = false) {l : List Int} {nx : Int} (hn : u nx = true) (hx : ∃ x ∈ l, now < x) : IsNext now l (lG now u nx l) := by
  rcases lG_gen now u hu l nx (.inl hn) with ⟨_, h2⟩ | ⟨h1, _⟩
  · obtain ⟨x, h3, h4⟩ := hx
    have := (h2 x h3 h4).1
    rw [hn] at this; cases this
  · exact h1
def isS : Int → Bool := fun nx => decide (nx < 0)
/-- the next time, as the model reckons it -/
def nxS (now : Int) (ends : List Int) : Int := lG now isS (-1) ends
def adv (s : St) : St := { s with now := nxS s.now s.ends }
def fin (ts : List Tv) : Nat → St → List Kl
  | 0, s => s.runs
  | f + 1, s => if s.runs.length < ts.length then fin ts f (adv (swF ts s.free.length 0 s)) else s.runs
def st0 (n W : Nat) : St := { ends := List.replicate n 0, free := List.replicate W 0, now := 0, runs := [] }
structure FInv (ts : List Tv) (W : Nat) (s : St) : Prop where
  ne : s.ends.length = ts.length
  nf : s.free.length = W
  now0 : 0 ≤ s.now
  now1 : s.now ≤ 1000 * s.runs.length
  e0 : ∀ (i : Nat) (x : Int), s.ends[i]? = some x → 0 ≤ x ∧ x ≤ 1000 * s.runs.length
  cnt : s.runs.length = s.ends.countP (fun x => !(x == 0))
  fe : ∀ (i : Nat) (x : Int), s.free[i]? = some x → s.now < x → x ∈ s.ends
  ef : ∀ (i : Nat) (x : Int), s.ends[i]? = some x → s.now < x → x ∈ s.free
theorem frF_some {ends : List Int} {now : Int} {i0 : Nat} {ts : List Tv} {i : Nat} (h : frF ends now i0 ts = some i) : ∃ j t, i = i0 + j ∧ ts[j]? = some t ∧ rdy ends now i t = true := by
  induction ts generalizing i0 with
  | nil => cases h
  | cons t l ih =>
    simp only [frF] at h
    by_cases hc : rdy ends now i0 t = true
    · rw [if_pos hc] at h
      injection h with h
      subst h
      exact ⟨0, t, rfl, rfl, hc⟩
    · rw [if_neg hc] at h
      obtain ⟨j, u, h1, h2, h3⟩ := ih h
      exact ⟨j + 1, u, by omega, by simpa using h2, h3⟩
theorem frst_some {ts : List Tv} {ends : List Int} {now : Int} {i : Nat} (h : frst ts ends now = some i) (hn : ends.length = ts.length) : ∃ t, ts[i]? = some t ∧ ends[i]? = some 0 ∧ hvE ends now t.2.2.1 = true ∧ cst ts i = t.2.2.2 := by
  obtain ⟨j, t, h1, h2, h3⟩ := frF_some h
  rw [Nat.zero_add] at h1
  subst h1
  have hi : i < ends.length := by have := (List.getElem?_eq_some_iff.1 h2).1; omega
  simp [rdy, List.getD_eq_getElem?_getD, List.getElem?_eq_getElem hi] at h3
  exact ⟨t, h2, by rw [List.getElem?_eq_getElem hi, h3.1], h3.2, by simp [cst, List.getD_eq_getElem?_getD, h2]⟩
theorem cnt_set {l : List Int} {i : Nat} {e : Int} (h : l[i]? = some 0) (he : e ≠ 0) : (l.set i e).countP (fun x => !(x == 0)) = l.countP (fun x => !(x == 0)) + 1 := by
  induction l generalizing i with
  | nil => simp at h
  | cons y l ih =>
    cases i with
    | zero => simp at h; subst h; simp [he]
    | succ i =>
      have := ih (i := i) (by simpa using h)
      simp only [List.set_cons_succ, List.countP_cons]
      omega
theorem cnt_lt {l : List Int} {i : Nat} (h : l[i]? = some 0) : l.countP (fun x => !(x == 0)) < l.length := by
  induction l generalizing i with
  | nil => simp at h
  | cons y l ih =>
    cases i with
    | zero => simp at h; subst h; have := List.countP_le_length (p := fun x : Int => !(x == 0)) (l := l); simp; omega
    | succ i =>
      have := ih (i := i) (by simpa using h)
      simp only [List.countP_cons, List.length_cons]
      split <;> omega
theorem mem_set_self {l : List Int} {i : Nat} {e : Int} (h : i < l.length) : e ∈ l.set i e := List.mem_iff_getElem?.2 ⟨i, by simp [h]⟩
theorem mem_set_of {l : List Int} {i : Nat} {e x y : Int} (hx : x ∈ l) (hi : l[i]? = some y) (hne : x ≠ y) : x ∈ l.set i e := by
  obtain ⟨j, hj⟩ := List.mem_iff_getElem?.1 hx
  refine List.mem_iff_getElem?.2 ⟨j, ?_⟩
  have : i ≠ j := fun e1 => by subst e1; rw [hi] at hj; injection hj with hj; exact hne hj.symm
  rw [List.getElem?_set_ne this]; exact hj
theorem FInv.take {ts : List Tv} {W k i : Nat} {s : St} (h : FInv ts W s) (hJ : jobOk ts = true) (hk : k < W) (hf : ¬ s.now < s.free.getD k 0) (hi : frst ts s.ends s.now = some i) : FInv ts W (taken ts s k i) ∧ s.runs.length < ts.length ∧ s.now < s.now + cst ts i ∧ s.now + cst ts i ≤ 1000 * (s.runs.length + 1) ∧ i < ts.length := by
  obtain ⟨t, ht, hz, hv, hc⟩ := frst_some hi h.ne
  have tk := job_tok hJ ht
  have c0 := tk.cost0
  have c1 := tk.cost1
  rw [← hc] at c0 c1
  have hkl : k < s.free.length := by have := h.nf; omega
  have hfk : s.free[k]? = some (s.free.getD k 0) := by simp [List.getD_eq_getElem?_getD, List.getElem?_eq_getElem hkl]
  have hil : i < s.ends.length := (List.getElem?_eq_some_iff.1 hz).1
  have n1 := h.now1
  have n0 := h.now0
  have hlen : (taken ts s k i).runs.length = s.runs.length + 1 := by simp [taken]
  have hrl : s.runs.length < ts.length := by rw [h.cnt, ← h.ne]; exact cnt_lt hz
  refine ⟨⟨by simp [taken, h.ne], by simp [taken, h.nf], n0, by rw [hlen]; show s.now ≤ _; omega, ?_, ?_, ?_, ?_⟩, hrl, by omega, by omega, by rw [← h.ne]; exact hil⟩
  · intro j x hx
    rw [hlen]
    by_cases e : i = j
    · subst e
      simp [taken, hil] at hx
      subst hx
      omega
    · have hx' : s.ends[j]? = some x := by rw [← hx]; exact (List.getElem?_set_ne e).symm
      have := h.e0 j x hx'
      omega
  · rw [hlen, h.cnt]
    exact (cnt_set hz (by omega)).symm
  · intro j x hx hn
    have hn' : s.now < x := hn
    by_cases e : k = j
    · subst e
      simp [taken, hkl] at hx
      subst hx
      exact mem_set_self hil
    · have hx' : s.free[j]? = some x := by rw [← hx]; exact (List.getElem?_set_ne e).symm
      exact mem_set_of (h.fe j x hx' hn') hz (by omega)
  · intro j x hx hn
    have hn' : s.now < x := hn
    by_cases e : i = j
    · subst e
      simp [taken, hil] at hx
      subst hx
      exact mem_set_self hkl
    · have hx' : s.ends[j]? = some x := by rw [← hx]; exact (List.getElem?_set_ne e).symm
      exact mem_set_of (h.ef j x hx' hn') hfk (by omega)
theorem FInv.wstep {ts : List Tv} {W k : Nat} {s : St} (h : FInv ts W s) (hJ : jobOk ts = true) (hk : k < W) : FInv ts W (wstep ts s k) := by
  unfold Proofs.Ytpmmimcafkillaa.wstep
  split
  · exact h
  · rename_i hf
    split
    · exact h
    · rename_i i hi
      exact (h.take hJ hk hf hi).1
/-- somebody is at work -/
def Wk (s : St) : Prop := ∃ x ∈ s.ends, s.now < x
theorem Wk.wstep {ts : List Tv} {W k : Nat} {s : St} (h : FInv ts W s) (hJ : jobOk ts = true) (hk : k < W) (hw : Wk s) : Wk (wstep ts s k) := by
  unfold Proofs.Ytpmmimcafkillaa.wstep
  split
  · exact hw
  · rename_i hf
    split
    · exact hw
    · rename_i i hi
      have h2 := h.take hJ hk hf hi
      exact ⟨s.now + cst ts i, mem_set_self (by have := h.ne; omega), h2.2.2.1⟩
theorem Wk.swF {ts : List Tv} {W : Nat} (hJ : jobOk ts = true) (m : Nat) : ∀ k s, FInv ts W s → k + m ≤ W → Wk s → Wk (swF ts m k s) := by
  induction m with
  | zero => intro k s _ _ hw; exact hw
  | succ m ih =>
    intro k s h hk hw
    exact ih (k + 1) _ (h.wstep hJ (by omega)) (by omega) (hw.wstep h hJ (by omega))
theorem FInv.swF {ts : List Tv} {W : Nat} (hJ : jobOk ts = true) (m : Nat) : ∀ k s, FInv ts W s → k + m ≤ W → FInv ts W (swF ts m k s) := by
  induction m with
  | zero => intro k s h _; exact h
  | succ m ih =>
    intro k s h hk
    exact ih (k + 1) _ (h.wstep hJ (by omega)) (by omega)
theorem isS_ok {now : Int} (h0 : 0 ≤ now) : ∀ e, now < e → isS e = false := fun e h => by simp [isS]; omega
theorem FInv.adv {ts : List Tv} {W : Nat} {s : St} (h : FInv ts W s) (hw : Wk s) : FInv ts W (adv s) ∧ s.now < (adv s).now := by
  have h1 : IsNext s.now s.ends (nxS s.now s.ends) := lG_next (isS_ok h.now0) rfl hw
  have n0 := h.now0
  have hg := h1.gt
  refine ⟨⟨h.ne, h.nf, by show 0 ≤ nxS s.now s.ends; omega, ?_, h.e0, h.cnt, ?_, ?_⟩, hg⟩
  · obtain ⟨i, hi⟩ := List.mem_iff_getElem?.1 h1.mem
    exact (h.e0 i _ hi).2
  · intro i x hx hn
    exact h.fe i x hx (by have : nxS s.now s.ends < x := hn; omega)
  · intro i x hx hn
    exact h.ef i x hx (by have : nxS s.now s.ends < x := hn; omega)
theorem FInv.zero (ts : List Tv) (W : Nat) : FInv ts W (st0 ts.length W) := by
  refine ⟨by simp [st0], by simp [st0], by simp [st0], by simp [st0], ?_, by simp [st0, List.countP_replicate], ?_, ?_⟩
  · intro i x hx
    simp [st0, List.getElem?_replicate] at hx
    simp [st0]; omega
  · intro i x hx hn
    simp [st0, List.getElem?_replicate] at hx hn; omega
  · intro i x hx hn
    simp [st0, List.getElem?_replicate] at hx hn; omega
theorem FInv.runs {ts : List Tv} {W : Nat} {s : St} (h : FInv ts W s) : s.runs.length ≤ ts.length := by
  rw [h.cnt, ← h.ne]; exact List.countP_le_length

end Go.Proofs.Ytpmmimcafkillaa

namespace Go.Proofs.Ytpmmimcafkillaa
open Go.RowKit
set_option linter.unusedVariables false
set_option linter.unusedSimpArgs false

/-- two owned rows of unlike elements lie in unlike blocks -/
theorem own_tags {w : World} {B B' g g' n n' m m' cap cap' : Nat} {e e' : TypeId} {xs xs' : List Value} (h : w.ownsRow B e m (.slice (some ⟨g, 0, none⟩) n cap) n xs) (h' : w.ownsRow B' e' m' (.slice (some ⟨g', 0, none⟩) n' cap') n' xs') (hne : e ≠ e') : g ≠ g' := by
  rcases h.2 with ⟨hv, _⟩ | ⟨g1, cap1, cur1, hv, _, hh, _⟩
  · cases hv
  rcases h'.2 with ⟨hv', _⟩ | ⟨g2, cap2, cur2, hv', _, hh', _⟩
  · cases hv'
  injection hv with e1
  injection e1 with e1
  injection e1 with e1
  injection hv' with e2
  injection e2 with e2
  injection e2 with e2
  subst e1 e2
  intro e3
  subst e3
  rw [hh] at hh'
  injection hh' with hh'
  injection hh' with _ hh'
  exact hne hh'
structure FM (W0 wr : World) (gE gF gR cR n V m : Nat) (ends free : List Int) (runs : List Kl) : Prop where
  E : OwnI wr W0.heap.size gE n n ends
  F : OwnI wr W0.heap.size gF V V free
  R : Own wr W0.heap.size gR m cR runs
  ne : gE ≠ gF
  bel : Below W0.heap.size W0 wr
theorem FM.later {W0 wr w1 : World} {gE gF gR cR n V m : Nat} {ends free : List Int} {runs : List Kl} (h : FM W0 wr gE gF gR cR n V m ends free runs) (hb : Below wr.heap.size wr w1) : FM W0 w1 gE gF gR cR n V m ends free runs :=
  ⟨ownsRow_below h.E hb, ownsRow_below h.F hb, ownsRow_below h.R hb, h.ne, laterB h.bel hb⟩
theorem FM.app {W0 wr w1 : World} {gE gF gR cR n V m g' c' : Nat} {ends free : List Int} {runs : List Kl} {r : Kl} (h : FM W0 wr gE gF gR cR n V m ends free runs) (ho : Own w1 W0.heap.size g' (m + 1) c' (runs ++ [r])) (hg : wr.grownBy w1 (some gR)) : FM W0 w1 gE gF g' c' n V (m + 1) ends free (runs ++ [r]) :=
  ⟨own_kept h.E hg (own_tags h.E h.R (by decide)), own_kept h.F hg (own_tags h.F h.R (by decide)), ho, h.ne, below_grown h.bel hg (own_ge h.R)⟩
theorem grown_none {w w1 : World} (h : w.grownBy w1 none) : Below w.heap.size w w1 := (Below.refl _ _).grown h (Nat.le_refl _) (fun k hk => by cases hk)

end Go.Proofs.Ytpmmimcafkillaa
