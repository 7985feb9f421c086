/-
  What holds of who works when, plain: each task runs once, behind what it needs; nobody does two at once; how long it takes. It names no program; no conditions.
  Contracts of Span, the program's and the model's: the greatest To of at most 200 runs; nothing that was there is written.
  What the law of the farm asks, plain. It names no program; no conditions.
-/
import Derived.Test.YtpmmimcafkillaaZFmM
import Derived.Test.YtpmmimcafkillaaZXp
import Derived.Test.YtpmmimcafkillaaZCopyL
namespace Go.Proofs.Ytpmmimcafkillaa
open Go.RowKit
open Go.Proofs.Ytpmmimcafkillaa.Rs (outOf out_at out_len crR gmx)
set_option linter.unusedVariables false
set_option linter.unusedSimpArgs false
/-- the costs of those that were taken -/
def zs : List Tv → List Int → Int
  | t :: ts, e :: es => (if e = 0 then 0 else t.2.2.2) + zs ts es
  | _, _ => 0
theorem zs_set {ts : List Tv} {es : List Int} {i : Nat} {e : Int} (h : es[i]? = some 0) (he : e ≠ 0) (hl : es.length = ts.length) : zs ts (es.set i e) = zs ts es + cst ts i := by
  induction es generalizing ts i with
  | nil => simp at h
  | cons y es ih =>
    cases ts with
    | nil => simp at hl
    | cons t ts =>
      cases i with
      | zero => simp at h; subst h; simp [zs, he, cst]; omega
      | succ i =>
        have := ih (ts := ts) (i := i) (by simpa using h) (by simpa using hl)
        simp only [List.set_cons_succ, zs, this]
        have e2 : cst (t :: ts) (i + 1) = cst ts i := by simp [cst]
        rw [e2]; omega
def zall (ts : List Tv) : Int := (ts.map fun t => t.2.2.2).sum
theorem zs_all {ts : List Tv} {es : List Int} (hl : es.length = ts.length) (h : ∀ x ∈ es, x ≠ 0) : zs ts es = zall ts := by
  induction es generalizing ts with
  | nil => cases ts with
    | nil => rfl
    | cons t ts => simp at hl
  | cons y es ih =>
    cases ts with
    | nil => simp at hl
    | cons t ts =>
      have h1 := h y (by simp)
      have := ih (ts := ts) (by simpa using hl) (fun x hx => h x (by simp [hx]))
      simp [zs, zall, h1] at this ⊢
      exact this
theorem zs_zero (ts : List Tv) : zs ts (List.replicate ts.length 0) = 0 := by
  induction ts with
  | nil => rfl
  | cons t ts ih => simp [zs, List.replicate_succ, ih]
theorem zs_nonneg {ts : List Tv} {es : List Int} (hc : ∀ t ∈ ts, 0 ≤ t.2.2.2) : 0 ≤ zs ts es := by
  induction es generalizing ts with
  | nil => cases ts <;> simp [zs]
  | cons y es ih =>
    cases ts with
    | nil => simp [zs]
    | cons t ts =>
      have h1 := hc t (by simp)
      have := ih (ts := ts) fun t ht => hc t (by simp [ht])
      simp only [zs]
      split <;> omega
/-- the longest chain up to a task -/
def crt (ts : List Tv) (i : Nat) : Int := (outOf (crR ts) ts).getD i 0
theorem gmx_ge (l : List Int) : ∀ a : Int, a ≤ gmx a l ∧ ∀ x ∈ l, x ≤ gmx a l := by
  induction l with
  | nil => intro a; simp [gmx]
  | cons y l ih =>
    intro a
    have h := ih (if a < y then y else a)
    have e : gmx a (y :: l) = gmx (if a < y then y else a) l := rfl
    rw [e]
    refine ⟨?_, fun x hx => ?_⟩
    · have := h.1
      split at this <;> omega
    · rcases List.mem_cons.1 hx with rfl | hx
      · have := h.1
        split at this <;> omega
      · exact h.2 x hx
theorem gmx_le (l : List Int) : ∀ a b : Int, a ≤ b → (∀ x ∈ l, x ≤ b) → gmx a l ≤ b := by
  induction l with
  | nil => intro a b h _; exact h
  | cons y l ih =>
    intro a b h hx
    have e : gmx a (y :: l) = gmx (if a < y then y else a) l := rfl
    rw [e]
    refine ih _ _ ?_ fun x hx' => hx x (by simp [hx'])
    have := hx y (by simp)
    split <;> omega
theorem crt_at {ts : List Tv} {i : Nat} {t : Tv} (hJ : jobOk ts = true) (ht : ts[i]? = some t) : crt ts i = t.2.2.2 + gmx 0 (t.2.2.1.map fun n => crt ts n.toNat) := by
  have h := out_at (f := crR ts) hJ ht
  unfold crt
  have e : crR ts i (Rs.ask (outOf (crR ts) ts) t) = t.2.2.2 + gmx 0 (Rs.ask (outOf (crR ts) ts) t) := by simp [crR, ht]
  rw [List.getD_eq_getElem?_getD, h, Option.getD_some, e]
  rfl
/-- what holds at each time -/
structure GInv (ts : List Tv) (W : Nat) (s : St) : Prop where
  run : ∀ r ∈ s.runs, ∃ (i k : Nat) (t : Tv) (f : Int), r = ((i : Int), (k : Int), f, f + cst ts i) ∧ ts[i]? = some t ∧ k < W ∧ 0 ≤ f ∧ s.ends[i]? = some (f + cst ts i) ∧ f + cst ts i ≤ s.free.getD k 0 ∧ ∀ x ∈ t.2.2.1, s.ends.getD x.toNat 0 ≠ 0 ∧ s.ends.getD x.toNat 0 ≤ f
  nod : s.runs.Pairwise fun p q => p.1 ≠ q.1
  all : ∀ (i : Nat) (x : Int), s.ends[i]? = some x → x ≠ 0 → ∃ r ∈ s.runs, r.1 = (i : Int) ∧ r.2.2.2 = x
  ord : s.runs.Pairwise fun p q => p.2.1 = q.2.1 → p.2.2.2 ≤ q.2.2.1
  now : s.now ≤ zs ts s.ends
  le : ∀ x ∈ s.ends, x ≤ zs ts s.ends
  sum : (s.runs.map fun r : Kl => cst ts r.1.toNat).sum = zs ts s.ends
  crt : ∀ (i : Nat) (x : Int), s.ends[i]? = some x → x ≠ 0 → crt ts i ≤ x
theorem pw_snoc {α : Type} {R : α → α → Prop} {l : List α} {a : α} (h : l.Pairwise R) (ha : ∀ x ∈ l, R x a) : (l ++ [a]).Pairwise R := by
  rw [List.pairwise_append]
  exact ⟨h, by simp, fun x hx y hy => by simp at hy; subst hy; exact ha x hx⟩
theorem getD_set_ne {l : List Int} {i j : Nat} {e : Int} (h : i ≠ j) : (l.set i e).getD j 0 = l.getD j 0 := by
  rw [List.getD_eq_getElem?_getD, List.getD_eq_getElem?_getD, List.getElem?_set_ne h]
theorem hvE_at {ends : List Int} {now : Int} {l : List Int} (h : hvE ends now l = true) : ∀ x ∈ l, ends.getD x.toNat 0 ≠ 0 ∧ ends.getD x.toNat 0 ≤ now := by
  intro x hx
  have := List.all_eq_true.1 h x hx
  simp only [Bool.and_eq_true, Bool.not_eq_true', beq_eq_false_iff_ne, decide_eq_true_eq] at this
  exact this
theorem getD_of {l : List Int} {i : Nat} (h : i < l.length) : l[i]? = some (l.getD i 0) := by
  rw [List.getD_eq_getElem?_getD, List.getElem?_eq_getElem h]; rfl
theorem getD_some {l : List Int} {i : Nat} {x : Int} (h : l[i]? = some x) : l.getD i 0 = x := by
  rw [List.getD_eq_getElem?_getD, h]; rfl
theorem GInv.take {ts : List Tv} {W k i : Nat} {s : St} (g : GInv ts W s) (h : FInv ts W s) (hJ : jobOk ts = true) (hk : k < W) (hf : ¬ s.now < s.free.getD k 0) (hi : frst ts s.ends s.now = some i) : GInv ts W (taken ts s k i) := by
  obtain ⟨t, ht, hz, hv, hc⟩ := frst_some hi h.ne
  have tk := job_tok hJ ht
  have c0 := tk.cost0
  rw [← hc] at c0
  have n0 := h.now0
  have hil : i < s.ends.length := (List.getElem?_eq_some_iff.1 hz).1
  have hkl : k < s.free.length := by have := h.nf; omega
  have he : s.now + cst ts i ≠ 0 := by omega
  have hzs := zs_set hz he h.ne
  have hneed := hvE_at hv
  have hset : ∀ x ∈ t.2.2.1, (s.ends.set i (s.now + cst ts i)).getD x.toNat 0 = s.ends.getD x.toNat 0 := fun x hx => by
    have := (tk.need x hx)
    exact getD_set_ne (by omega)
  refine ⟨?_, ?_, ?_, ?_, ?_, ?_, ?_, ?_⟩
  · intro r hr
    rcases List.mem_append.1 hr with hr | hr
    · obtain ⟨j, m, u, f, e, hu, hm, f0, hj, hfr, hn⟩ := g.run r hr
      have hji : i ≠ j := fun e2 => by
        subst e2
        rw [hz] at hj
        injection hj with hj
        have := (job_tok hJ hu).cost0
        have e3 : cst ts i = u.2.2.2 := by simp [cst, List.getD_eq_getElem?_getD, hu]
        omega
      refine ⟨j, m, u, f, e, hu, hm, f0, ?_, ?_, fun x hx => ?_⟩
      · show (s.ends.set i _)[j]? = _
        rw [List.getElem?_set_ne hji]; exact hj
      · show _ ≤ (s.free.set k _).getD m 0
        by_cases e2 : k = m
        · subst e2
          have e4 : (s.free.set k (s.now + cst ts i)).getD k 0 = s.now + cst ts i := by simp [List.getD_eq_getElem?_getD, hkl]
          rw [e4]
          omega
        · rw [getD_set_ne e2]; exact hfr
      · have := hn x hx
        have hxi : i ≠ x.toNat := fun e2 => by
          rw [← e2, getD_some hz] at this
          exact this.1 rfl
        show (s.ends.set i _).getD _ 0 ≠ 0 ∧ (s.ends.set i _).getD _ 0 ≤ f
        rw [getD_set_ne hxi]; exact this
    · simp at hr
      subst hr
      refine ⟨i, k, t, s.now, rfl, ht, hk, n0, ?_, ?_, fun x hx => ?_⟩
      · show (s.ends.set i _)[i]? = _
        simp [hil]
      · show _ ≤ (s.free.set k _).getD k 0
        simp [List.getD_eq_getElem?_getD, hkl]
      · show (s.ends.set i _).getD _ 0 ≠ 0 ∧ (s.ends.set i _).getD _ 0 ≤ s.now
        rw [hset x hx]; exact hneed x hx
  · refine pw_snoc g.nod fun r hr e => ?_
    obtain ⟨j, m, u, f, e1, hu, hm, f0, hj, hfr, hn⟩ := g.run r hr
    rw [e1] at e
    have e9 : (j : Int) = i := by simpa using e
    have : j = i := by omega
    subst this
    rw [hz] at hj
    injection hj with hj
    have := (job_tok hJ hu).cost0
    have e3 : cst ts j = u.2.2.2 := by simp [cst, List.getD_eq_getElem?_getD, hu]
    omega
  · intro j x hx hne
    by_cases e : i = j
    · subst e
      have hx' : (s.ends.set i (s.now + cst ts i))[i]? = some x := hx
      simp [hil] at hx'
      exact ⟨_, List.mem_append.2 (.inr (List.mem_singleton.2 rfl)), rfl, hx'⟩
    · have hx' : s.ends[j]? = some x := by rw [← hx]; exact (List.getElem?_set_ne e).symm
      obtain ⟨r, h1, h2⟩ := g.all j x hx' hne
      exact ⟨r, List.mem_append.2 (.inl h1), h2⟩
  · refine pw_snoc g.ord fun r hr e => ?_
    obtain ⟨j, m, u, f, e1, hu, hm, f0, hj, hfr, hn⟩ := g.run r hr
    rw [e1] at e ⊢
    have e9 : (m : Int) = k := by simpa using e
    have : m = k := by omega
    subst this
    show f + cst ts j ≤ s.now
    omega
  · show s.now ≤ zs ts (s.ends.set i _)
    rw [hzs]
    have := g.now
    omega
  · intro x hx
    show x ≤ zs ts (s.ends.set i _)
    rw [hzs]
    obtain ⟨j, hj⟩ := List.mem_iff_getElem?.1 hx
    by_cases e : i = j
    · subst e
      have hj' : (s.ends.set i (s.now + cst ts i))[i]? = some x := hj
      simp [hil] at hj'
      have := g.now
      omega
    · have hj' : s.ends[j]? = some x := by rw [← hj]; exact (List.getElem?_set_ne e).symm
      have := g.le x (List.mem_of_getElem? hj')
      omega
  · show ((s.runs ++ [_]).map fun r : Kl => cst ts r.1.toNat).sum = zs ts (s.ends.set i _)
    rw [hzs, List.map_append, List.sum_append, g.sum]
    simp
  · intro j x hx hne
    by_cases e : i = j
    · subst e
      have hx' : (s.ends.set i (s.now + cst ts i))[i]? = some x := hx
      simp [hil] at hx'
      subst hx'
      rw [crt_at hJ ht, ← hc]
      have := gmx_le (t.2.2.1.map fun n => Proofs.Ytpmmimcafkillaa.crt ts n.toNat) 0 s.now n0 fun y hy => by
        obtain ⟨n, hn, rfl⟩ := List.mem_map.1 hy
        have h1 := hneed n hn
        have hnl : n.toNat < s.ends.length := by have := tk.need n hn; omega
        have := g.crt n.toNat _ (getD_of hnl) h1.1
        omega
      omega
    · have hx' : s.ends[j]? = some x := by rw [← hx]; exact (List.getElem?_set_ne e).symm
      exact g.crt j x hx' hne
theorem GInv.adv {ts : List Tv} {W : Nat} {s : St} (g : GInv ts W s) (h : FInv ts W s) (hw : Wk s) : GInv ts W (adv s) := by
  have h1 : IsNext s.now s.ends (nxS s.now s.ends) := lG_next (isS_ok h.now0) rfl hw
  exact ⟨g.run, g.nod, g.all, g.ord, g.le _ h1.mem, g.le, g.sum, g.crt⟩
theorem GInv.zero {ts : List Tv} {W : Nat} (hJ : jobOk ts = true) : GInv ts W (st0 ts.length W) := by
  have h0 : ∀ (i : Nat) (x : Int), (List.replicate ts.length (0 : Int))[i]? = some x → x = 0 := fun i x hx => by
    simp [List.getElem?_replicate] at hx; exact hx.2.symm
  refine ⟨?_, List.Pairwise.nil, ?_, List.Pairwise.nil, ?_, ?_, ?_, ?_⟩
  · intro r hr; cases hr
  · intro i x hx hne; exact absurd (h0 i x hx) hne
  · show (0 : Int) ≤ zs ts (List.replicate ts.length 0)
    rw [zs_zero]; exact Int.le_refl _
  · intro x hx
    obtain ⟨i, hi⟩ := List.mem_iff_getElem?.1 hx
    show x ≤ zs ts (List.replicate ts.length 0)
    rw [zs_zero, h0 i x hi]; exact Int.le_refl _
  · show (0 : Int) = zs ts (List.replicate ts.length 0)
    rw [zs_zero]
  · intro i x hx hne; exact absurd (h0 i x hx) hne
/-- whatever one who takes keeps, the loop over all who work keeps -/
theorem sw_ind {ts : List Tv} {W : Nat} {P : St → Prop} (hP : ∀ s k, P s → k < W → P (wstep ts s k)) (m : Nat) : ∀ k s, P s → k + m ≤ W → P (swF ts m k s) := by
  induction m with
  | zero => intro k s h _; exact h
  | succ m ih => intro k s h hk; exact ih (k + 1) _ (hP s k h (by omega)) (by omega)
theorem GInv.wstep {ts : List Tv} {W k : Nat} {s : St} (g : GInv ts W s ∧ FInv ts W s) (hJ : jobOk ts = true) (hk : k < W) : GInv ts W (wstep ts s k) ∧ FInv ts W (wstep ts s k) := by
  refine ⟨?_, g.2.wstep hJ hk⟩
  unfold Proofs.Ytpmmimcafkillaa.wstep
  split
  · exact g.1
  · rename_i hf
    split
    · exact g.1
    · rename_i i hi
      exact g.1.take g.2 hJ hk hf hi
/-- the last state: what each round keeps holds of it, and all tasks have run -/
theorem fin_ind {ts : List Tv} {W : Nat} {P : St → Prop} (hJ : jobOk ts = true) (hW : 0 < W) (hr : ∀ s, P s → FInv ts W s → s.runs.length < ts.length → P (adv (swF ts W 0 s))) (f : Nat) : ∀ s, P s → FInv ts W s → 1000 * ts.length < s.now + f → ∃ s', fin ts f s = s'.runs ∧ P s' ∧ FInv ts W s' ∧ s'.runs.length = ts.length := by
  induction f with
  | zero =>
    intro s p h hf
    have := h.now1
    have := h.runs
    exfalso
    omega
  | succ f ih =>
    intro s p h hf
    by_cases hl : s.runs.length < ts.length
    · rw [fin_on hl, h.nf]
      have h2 := FInv.swF hJ W 0 s h (by omega)
      have hw := works h hJ hW hl
      have h3 := h2.adv hw
      rw [swF_now] at h3
      exact ih _ (hr s p h hl) h3.1 (by omega)
    · exact ⟨s, fin_end hl, p, h, by have := h.runs; omega⟩
theorem all_taken {ts : List Tv} {W : Nat} {s : St} (h : FInv ts W s) (hl : s.runs.length = ts.length) : ∀ x ∈ s.ends, x ≠ 0 := by
  have h1 : s.ends.countP (fun x => !(x == 0)) = s.ends.length := by rw [← h.cnt, hl, h.ne]
  intro x hx
  have := List.countP_eq_length.1 h1 x hx
  simpa using this
/-- one worker: what was worked is how long it took -/
def One (ts : List Tv) (s : St) : Prop := s.free = [zs ts s.ends] ∧ s.now ≤ zs ts s.ends ∧ (zs ts s.ends = 0 ∨ zs ts s.ends ∈ s.ends) ∧ s.now ≤ zs ts s.ends
theorem One.wstep {ts : List Tv} {s : St} (o : One ts s) (g : GInv ts 1 s ∧ FInv ts 1 s) (hJ : jobOk ts = true) : One ts (wstep ts s 0) := by
  unfold Proofs.Ytpmmimcafkillaa.wstep
  split
  · exact o
  · rename_i hf
    split
    · exact o
    · rename_i i hi
      obtain ⟨t, ht, hz, hv, hc⟩ := frst_some hi g.2.ne
      have c0 := (job_tok hJ ht).cost0
      rw [← hc] at c0
      have n0 := g.2.now0
      have hil : i < s.ends.length := (List.getElem?_eq_some_iff.1 hz).1
      have hzs := zs_set (e := s.now + cst ts i) hz (by omega) g.2.ne
      obtain ⟨o1, o2, _, _⟩ := o
      rw [o1] at hf
      simp at hf
      have en : s.now = zs ts s.ends := by omega
      have e1 : (taken ts s 0 i).ends = s.ends.set i (s.now + cst ts i) := rfl
      refine ⟨?_, ?_, .inr ?_, ?_⟩
      · rw [e1, hzs]
        show s.free.set 0 (s.now + cst ts i) = _
        rw [o1, en]; rfl
      · rw [e1, hzs]; show s.now ≤ _; omega
      · rw [e1, hzs, ← en]
        exact mem_set_self hil
      · rw [e1, hzs]; show s.now ≤ _; omega
theorem one_fin {ts : List Tv} (hJ : jobOk ts = true) : ∃ s, fin ts 200001 (st0 ts.length 1) = s.runs ∧ (GInv ts 1 s ∧ One ts s) ∧ FInv ts 1 s ∧ s.runs.length = ts.length := by
  have hl := job_short hJ
  refine fin_ind (P := fun s => GInv ts 1 s ∧ One ts s) hJ (by omega) (fun s p h hr => ?_) 200001 _ ⟨GInv.zero hJ, ?_⟩ (FInv.zero ts 1) (by show (1000 : Int) * ts.length < 0 + _; omega)
  · have g1 := GInv.wstep ⟨p.1, h⟩ hJ (k := 0) (by omega)
    have o1 := p.2.wstep ⟨p.1, h⟩ hJ
    have hw := works h hJ (by omega) hr
    have e : swF ts 1 0 s = wstep ts s 0 := rfl
    rw [e] at hw ⊢
    have g2 := g1.1.adv g1.2 hw
    exact ⟨g2, o1.1, g2.now, o1.2.2.1, g2.now⟩
  · have hz : zs ts (List.replicate ts.length 0) = 0 := zs_zero ts
    refine ⟨?_, ?_, .inl hz, ?_⟩
    · show List.replicate 1 (0 : Int) = [zs ts (List.replicate ts.length 0)]
      rw [hz]; rfl
    · show (0 : Int) ≤ zs ts (List.replicate ts.length 0)
      rw [hz]; exact Int.le_refl _
    · show (0 : Int) ≤ zs ts (List.replicate ts.length 0)
      rw [hz]; exact Int.le_refl _
/-- as many workers as tasks: whoever can, works -/
def nzc (l : List Int) : Nat := l.countP fun x => !(x == 0)
theorem nzc_set {l : List Int} {k : Nat} {e : Int} : nzc (l.set k e) ≤ nzc l + 1 := by
  induction l generalizing k with
  | nil => simp [nzc]
  | cons y l ih =>
    cases k with
    | zero =>
      simp only [nzc, List.set_cons_zero, List.countP_cons]
      split <;> split <;> omega
    | succ k =>
      have := ih (k := k)
      simp only [nzc, List.set_cons_succ, List.countP_cons] at this ⊢
      split <;> omega
/-- all that could run at a time before this one runs -/
structure Many (ts : List Tv) (s : St) : Prop where
  up : ∀ (i : Nat) (t : Tv), ts[i]? = some t → s.ends[i]? = some 0 → hvE s.ends s.now t.2.2.1 = true → s.now = 0 ∨ ∃ x ∈ t.2.2.1, s.ends.getD x.toNat 0 = s.now
  cr : ∀ (i : Nat) (x : Int), s.ends[i]? = some x → x ≠ 0 → x = crt ts i
  cnt : nzc s.free ≤ s.runs.length
theorem Many.take {ts : List Tv} {W k i : Nat} {s : St} (m : Many ts s) (h : FInv ts W s) (hJ : jobOk ts = true) (hf : ¬ s.now < s.free.getD k 0) (hi : frst ts s.ends s.now = some i) : Many ts (taken ts s k i) := by
  obtain ⟨t, ht, hz, hv, hc⟩ := frst_some hi h.ne
  have tk := job_tok hJ ht
  have c0 := tk.cost0
  rw [← hc] at c0
  have n0 := h.now0
  have hil : i < s.ends.length := (List.getElem?_eq_some_iff.1 hz).1
  have hneed := hvE_at hv
  refine ⟨?_, ?_, ?_⟩
  · intro j u hu hj hv2
    have hji : i ≠ j := fun e => by
      subst e
      have hj' : (s.ends.set i (s.now + cst ts i))[i]? = some 0 := hj
      simp [hil] at hj'
      omega
    have hj' : s.ends[j]? = some 0 := by rw [← hj]; exact (List.getElem?_set_ne hji).symm
    have hxi : ∀ x ∈ u.2.2.1, i ≠ x.toNat := fun x hx e => by
      have h1 := hvE_at hv2 x hx
      have h2 : (taken ts s k i).ends.getD x.toNat 0 = s.now + cst ts i := by
        show (s.ends.set i _).getD _ 0 = _
        rw [← e]; simp [List.getD_eq_getElem?_getD, hil]
      have h3 : (taken ts s k i).now = s.now := rfl
      rw [h2, h3] at h1
      omega
    have hv3 : hvE s.ends s.now u.2.2.1 = true := by
      rw [hvE, List.all_eq_true] at hv2 ⊢
      intro x hx
      have h1 := hv2 x hx
      have h2 : (taken ts s k i).ends.getD x.toNat 0 = s.ends.getD x.toNat 0 := getD_set_ne (hxi x hx)
      rw [h2] at h1
      exact h1
    rcases m.up j u hu hj' hv3 with h1 | ⟨x, hx, h1⟩
    · exact .inl h1
    · exact .inr ⟨x, hx, by
        show (s.ends.set i _).getD _ 0 = s.now
        rw [getD_set_ne (hxi x hx)]; exact h1⟩
  · intro j x hx hne
    by_cases e : i = j
    · subst e
      have hx' : (s.ends.set i (s.now + cst ts i))[i]? = some x := hx
      simp [hil] at hx'
      subst hx'
      have hcr : ∀ n ∈ t.2.2.1, crt ts n.toNat = s.ends.getD n.toNat 0 := fun n hn => by
        have hnl : n.toNat < s.ends.length := by have := tk.need n hn; omega
        exact (m.cr n.toNat _ (getD_of hnl) (hneed n hn).1).symm
      have hg : gmx 0 (t.2.2.1.map fun n => crt ts n.toNat) = s.now := by
        have h1 := gmx_le (t.2.2.1.map fun n => crt ts n.toNat) 0 s.now n0 fun y hy => by
          obtain ⟨n, hn, rfl⟩ := List.mem_map.1 hy
          rw [hcr n hn]; exact (hneed n hn).2
        have h2 := gmx_ge (t.2.2.1.map fun n => crt ts n.toNat) 0
        rcases m.up i t ht hz hv with h3 | ⟨y, hy, h3⟩
        · have := h2.1
          omega
        · have := h2.2 _ (List.mem_map.2 ⟨y, hy, rfl⟩)
          simp only [hcr y hy, h3] at this
          omega
      rw [crt_at hJ ht, hg, hc]
      omega
    · have hx' : s.ends[j]? = some x := by rw [← hx]; exact (List.getElem?_set_ne e).symm
      exact m.cr j x hx' hne
  · show nzc (s.free.set k _) ≤ (s.runs ++ [_]).length
    have := nzc_set (l := s.free) (k := k) (e := s.now + cst ts i)
    have := m.cnt
    simp
    omega
theorem Many.wstep {ts : List Tv} {W k : Nat} {s : St} (m : Many ts s) (h : FInv ts W s) (hJ : jobOk ts = true) : Many ts (wstep ts s k) := by
  unfold Proofs.Ytpmmimcafkillaa.wstep
  split
  · exact m
  · rename_i hf
    split
    · exact m
    · rename_i i hi
      exact m.take h hJ hf hi
/-- behind the loop none can begin, or all are at work -/
theorem sw_busy {ts : List Tv} {W : Nat} (hJ : jobOk ts = true) (m : Nat) : ∀ k s, FInv ts W s → k + m = W → (∀ j, j < k → s.now < s.free.getD j 0) → frst ts (swF ts m k s).ends s.now = none ∨ ∀ j, j < W → s.now < (swF ts m k s).free.getD j 0 := by
  induction m with
  | zero => intro k s h hk hb; exact .inr fun j hj => hb j (by omega)
  | succ m ih =>
    intro k s h hk hb
    have h1 := h.wstep hJ (k := k) (by omega)
    have en := wstep_now ts s k
    by_cases hf : s.now < s.free.getD k 0
    · have e : wstep ts s k = s := by unfold Proofs.Ytpmmimcafkillaa.wstep; rw [if_pos hf]
      have := ih (k + 1) s h (by omega) fun j hj => by
        by_cases e2 : j = k
        · subst e2; exact hf
        · exact hb j (by omega)
      show frst ts (swF ts m (k + 1) (wstep ts s k)).ends s.now = none ∨ ∀ j, j < W → s.now < (swF ts m (k + 1) (wstep ts s k)).free.getD j 0
      rw [e]; exact this
    · cases hi : frst ts s.ends s.now with
      | none =>
        left
        show frst ts (swF ts m (k + 1) (wstep ts s k)).ends s.now = none
        rw [wstep_none hi, swF_none hi]; exact hi
      | some i =>
        have e : wstep ts s k = taken ts s k i := by unfold Proofs.Ytpmmimcafkillaa.wstep; rw [if_neg hf, hi]
        obtain ⟨t, ht, hz, hv, hc⟩ := frst_some hi h.ne
        have c0 := (job_tok hJ ht).cost0
        rw [← hc] at c0
        have hkl : k < s.free.length := by have := h.nf; omega
        have := ih (k + 1) (wstep ts s k) h1 (by omega) fun j hj => by
          rw [en, e]
          show s.now < (s.free.set k _).getD j 0
          by_cases e2 : k = j
          · subst e2; simp [List.getD_eq_getElem?_getD, hkl]; omega
          · rw [getD_set_ne e2]; exact hb j (by omega)
        rw [en] at this
        exact this
theorem nzc_full {l : List Int} {now : Int} (n0 : 0 ≤ now) (h : ∀ j, j < l.length → now < l.getD j 0) : nzc l = l.length := by
  refine List.countP_eq_length.2 fun x hx => ?_
  obtain ⟨j, hj⟩ := List.mem_iff_getElem?.1 hx
  have := h j (List.getElem?_eq_some_iff.1 hj).1
  rw [getD_some hj] at this
  simp; omega
theorem many_fin {ts : List Tv} (hJ : jobOk ts = true) (h50 : ts.length ≤ 50) : ∃ s, fin ts 200001 (st0 ts.length 50) = s.runs ∧ (GInv ts 50 s ∧ Many ts s) ∧ FInv ts 50 s ∧ s.runs.length = ts.length := by
  have h0 : ∀ (n : Nat) (i : Nat) (x : Int), (List.replicate n (0 : Int))[i]? = some x → x = 0 := fun n i x hx => by
    simp [List.getElem?_replicate] at hx; exact hx.2.symm
  refine fin_ind (P := fun s => GInv ts 50 s ∧ Many ts s) hJ (by omega) (fun s p h hr => ?_) 200001 _ ⟨GInv.zero hJ, ?_⟩ (FInv.zero ts 50) (by show (1000 : Int) * ts.length < 0 + _; omega)
  · obtain ⟨g1, f1, m1⟩ : GInv ts 50 (swF ts 50 0 s) ∧ FInv ts 50 (swF ts 50 0 s) ∧ Many ts (swF ts 50 0 s) :=
      sw_ind (P := fun s => GInv ts 50 s ∧ FInv ts 50 s ∧ Many ts s) (fun s k q hk => ⟨(GInv.wstep ⟨q.1, q.2.1⟩ hJ hk).1, q.2.1.wstep hJ hk, q.2.2.wstep q.2.1 hJ⟩) 50 0 s ⟨p.1, h, p.2⟩ (by omega)
    have hw := works h hJ (by omega) hr
    have en := swF_now ts 50 0 s
    have hb := sw_busy hJ 50 0 s h (by omega) (fun j hj => by omega)
    generalize swF ts 50 0 s = S at *
    refine ⟨g1.adv f1 hw, ?_, m1.cr, m1.cnt⟩
    have hx1 : IsNext S.now S.ends (nxS S.now S.ends) := lG_next (isS_ok f1.now0) rfl hw
    intro i t ht hz hv
    right
    have hn : frst ts S.ends s.now = none := by
      rcases hb with h1 | h1
      · exact h1
      · exfalso
        have h2 := nzc_full h.now0 (l := S.free) fun j hj => h1 j (by have := f1.nf; omega)
        have h3 := m1.cnt
        have h4 := f1.nf
        have h5 : S.runs.length < ts.length := by
          rw [f1.cnt, ← f1.ne]
          exact cnt_lt hz
        omega
    have hr2 := frF_none hn i t ht
    rw [Nat.zero_add] at hr2
    have hz' : S.ends.getD i 0 = 0 := getD_some hz
    simp only [rdy, hz', BEq.rfl, Bool.true_and] at hr2
    obtain ⟨x, hx, hx2⟩ : ∃ x ∈ t.2.2.1, ¬ (S.ends.getD x.toNat 0 ≠ 0 ∧ S.ends.getD x.toNat 0 ≤ s.now) := by
      refine Classical.byContradiction fun hno => ?_
      have : hvE S.ends s.now t.2.2.1 = true := by
        rw [hvE, List.all_eq_true]
        intro x hx
        have h1 : S.ends.getD x.toNat 0 ≠ 0 ∧ S.ends.getD x.toNat 0 ≤ s.now := Classical.byContradiction fun h2 => hno ⟨x, hx, h2⟩
        simp only [Bool.and_eq_true, Bool.not_eq_true', beq_eq_false_iff_ne, decide_eq_true_eq]
        exact h1
      rw [this] at hr2
      cases hr2
    have h1 := hvE_at hv x hx
    have hxl : x.toNat < S.ends.length := by have := (job_tok hJ ht).need x hx; have := (List.getElem?_eq_some_iff.1 ht).1; have := f1.ne; omega
    have h2 : s.now < S.ends.getD x.toNat 0 := by
      have : (adv S).ends = S.ends := rfl
      rw [this] at h1
      rcases Int.lt_or_le s.now (S.ends.getD x.toNat 0) with h3 | h3
      · exact h3
      · exact absurd ⟨h1.1, h3⟩ hx2
    have h3 := hx1.le _ (List.mem_of_getElem? (getD_of hxl)) (by rw [en]; exact h2)
    exact ⟨x, hx, by
      have h4 : S.ends.getD x.toNat 0 ≤ nxS S.now S.ends := h1.2
      show S.ends.getD x.toNat 0 = nxS S.now S.ends
      omega⟩
  · refine ⟨fun i t ht hz hv => .inl rfl, fun i x hx hne => absurd (h0 _ i x hx) hne, ?_⟩
    show nzc (List.replicate 50 (0 : Int)) ≤ 0
    decide
end Go.Proofs.Ytpmmimcafkillaa

namespace Go.Proofs.Ytpmmimcafkillaa
open Go.RowKit
set_option linter.unusedVariables false
set_option linter.unusedSimpArgs false

/-- the greatest To -/
def top : List Kl → Int
  | [] => 0
  | x :: l => l.foldl (fun m y => max m y.2.2.2) x.2.2.2
theorem top_one (x : Kl) : top [x] = x.2.2.2 := rfl
theorem top_snoc {l : List Kl} (x : Kl) (h : l ≠ []) : top (l ++ [x]) = max (top l) x.2.2.2 := by
  cases l with
  | nil => exact absurd rfl h
  | cons y l => simp [top, List.foldl_append]
theorem top_take {l : List Kl} {k : Nat} {x : Kl} (h : l[k]? = some x) (hk : 0 < k) : top (l.take (k + 1)) = max (top (l.take k)) x.2.2.2 := by
  rw [take_snocK h]
  refine top_snoc x ?_
  have hj : k < l.length := (List.getElem?_eq_some_iff.1 h).1
  intro e
  have := congrArg List.length e
  rw [List.length_take] at this
  simp only [List.length_nil] at this
  omega
theorem top_take0 {l : List Kl} {x : Kl} (h : l[0]? = some x) : top (l.take 1) = x.2.2.2 := by
  rw [take_snocK h]; rfl
def spanOf (l : List Kl) : Int := if l.length ≤ 200 then top l else 0

theorem kls_at {w wr : World} {a : Option Addr} {l : List Kl} {k : Nat} (h : Kls w a l) (hw : Below w.heap.size w wr) (hk : k < l.length) : ∃ b o x, a = some ⟨b, o, none⟩ ∧ l[k]? = some x ∧ b < w.heap.size ∧ wr.cell? ⟨b, o + k * 4, none⟩ = some (.int .i64 x.1) ∧ wr.cell? ⟨b, o + k * 4 + 1, none⟩ = some (.int .i64 x.2.1) ∧ wr.cell? ⟨b, o + k * 4 + 2, none⟩ = some (.int .i64 x.2.2.1) ∧ wr.cell? ⟨b, o + k * 4 + 3, none⟩ = some (.int .i64 x.2.2.2) := by
  obtain ⟨b, o, e, h1, c0, c1, c2, c3⟩ := h k l[k] (List.getElem?_eq_getElem hk)
  have C := fun i => (bcell hw).1 b i h1
  exact ⟨b, o, _, e, List.getElem?_eq_getElem hk, h1, (C _).trans c0, (C _).trans c1, (C _).trans c2, (C _).trans c3⟩

set_option maxHeartbeats 1600000 in
theorem ispan_any (a : Option Addr) (cap : Nat) (l : List Kl) (w : World) (hl : l.length ≤ 1048576) (hr : Kls w a l) :
    Calls Try.prog 13 #[.slice a l.length cap] w fun e w' => e = .returned (.int .i64 (spanOf l)) ∧ Below w.heap.size w w' := by
  have hr' := hide hr
  clear hr
  by_cases h0 : l.length = 0
  · have e0 : l = [] := List.eq_nil_of_length_eq_zero h0
    subst e0
    go_enter Try.func13, Try.ntmps13
    go_wp2
    go_ret
    exact ⟨rfl, Below.refl _ _⟩
  by_cases h2 : 200 < l.length
  · have g0 : ((l.length : Int) == 0) = false := by rw [beq_eq_false_iff_ne]; omega
    have g1 : decide ((200 : Int) < l.length) = true := by simp; omega
    have hf := hide (show spanOf l = 0 from if_neg (by omega))
    have h2' := hide h2
    have h0' := hide h0
    clear h0 h2
    go_enter Try.func13, Try.ntmps13
    go_wp2
    go_ret
    exact ⟨ret_int (unhide hf).symm, Below.refl _ _⟩
  have g0 : ((l.length : Int) == 0) = false := by rw [beq_eq_false_iff_ne]; omega
  have g1 : decide ((200 : Int) < l.length) = false := by simp; omega
  have g2 : 0 < l.length := by omega
  obtain ⟨b, o, x0, rfl, hx0, hb, _, _, _, c3⟩ := kls_at (unhide hr') (Below.refl _ _) g2
  simp only [Nat.zero_mul, Nat.add_zero] at c3
  have hx0' := hide hx0
  clear hx0
  have hf := hide (show spanOf l = top l from if_pos (by omega))
  go_enter Try.func13, Try.ntmps13
  go_wp2
  go_loopw [3, 20] (fun s t wr => ∃ (k : Nat) (q : Int), k ≤ l.length ∧ t = .int .i64 k ∧ s = .int .i64 q ∧ Hid (q = if k = 0 then x0.2.2.2 else top (l.take k)) ∧ Hid (Below w.heap.size w wr)) (fun _ t _ => l.length - (intOf t).toNat)
  case atStart => exact ⟨0, _, by omega, rfl, rfl, hide (if_pos rfl).symm, hide (Below.refl _ _)⟩
  case round =>
    obtain ⟨k, q, hk, rfl, rfl, hq, hw⟩ := hrel
    by_cases hlt : k < l.length
    · obtain ⟨b1, o1, x, e1, hx, i1, c0, c1, c2, c3⟩ := kls_at (unhide hr') (unhide hw) hlt
      injection e1 with e1
      injection e1 with e1 e2
      subst e1 e2
      have hn : Hid (max q x.2.2.2 = if k + 1 = 0 then x0.2.2.2 else top (l.take (k + 1))) := hide (by
        rw [if_neg (by omega)]
        by_cases e : k = 0
        · subst e
          have h1 := unhide hx0'
          rw [hx] at h1
          injection h1 with h1
          have h2 := unhide hq
          rw [if_pos rfl] at h2
          have h3 : top (l.take (0 + 1)) = x.2.2.2 := top_take0 hx
          rw [h3, h2, h1]
          omega
        · have h2 := unhide hq
          rw [if_neg e] at h2
          rw [top_take hx (by omega), h2])
      clear hx hq i1
      go_wp2
      go_roundw
      case rel => exact ⟨k + 1, _, by omega, by go_num, rfl, hn, hide ((unhide hw).alloc (unhide hw).size _)⟩
      case measure => simp [intOf]; omega
    · have hke : k = l.length := by omega
      have hfin : Hid (q = spanOf l) := hide (by
        have h2 := unhide hq
        rw [if_neg (by omega), hke, List.take_length] at h2
        rw [h2, unhide hf])
      clear hq hke
      go_wp2
      go_ret
      exact ⟨ret_int (unhide hfin), unhide hw⟩

end Go.Proofs.Ytpmmimcafkillaa

namespace Go.Proofs.Ytpmmimcafkillaa
open Go.RowKit
open Go.Proofs.Ytpmmimcafkillaa.Rs (outOf out_at out_len crR gmx)
set_option linter.unusedVariables false
set_option linter.unusedSimpArgs false
theorem fmx (l : List Kl) : ∀ m : Int, m ≤ l.foldl (fun m y => max m y.2.2.2) m ∧ (∀ x ∈ l, x.2.2.2 ≤ l.foldl (fun m y => max m y.2.2.2) m) ∧ (l.foldl (fun m y => max m y.2.2.2) m = m ∨ ∃ x ∈ l, l.foldl (fun m y => max m y.2.2.2) m = x.2.2.2) := by
  induction l with
  | nil => intro m; exact ⟨Int.le_refl _, (fun x hx => by cases hx), .inl rfl⟩
  | cons y l ih =>
    intro m
    obtain ⟨h1, h2, h3⟩ := ih (max m y.2.2.2)
    rw [List.foldl_cons]
    refine ⟨by omega, fun x hx => ?_, ?_⟩
    · rcases List.mem_cons.1 hx with rfl | hx
      · omega
      · exact h2 x hx
    · rcases h3 with h3 | ⟨x, hx, h3⟩
      · by_cases e : m ≤ y.2.2.2
        · exact .inr ⟨y, by simp, by rw [h3]; omega⟩
        · exact .inl (by rw [h3]; omega)
      · exact .inr ⟨x, by simp [hx], h3⟩
theorem top_ge {l : List Kl} {x : Kl} (h : x ∈ l) : x.2.2.2 ≤ top l := by
  cases l with
  | nil => cases h
  | cons y l =>
    have := fmx l y.2.2.2
    rcases List.mem_cons.1 h with rfl | h
    · exact this.1
    · exact this.2.1 x h
theorem top_mem {l : List Kl} (h : l ≠ []) : ∃ x ∈ l, top l = x.2.2.2 := by
  cases l with
  | nil => exact absurd rfl h
  | cons y l =>
    rcases (fmx l y.2.2.2).2.2 with h1 | ⟨x, hx, h1⟩
    · exact ⟨y, by simp, h1⟩
    · exact ⟨x, by simp [hx], h1⟩
theorem crt_mem {ts : List Tv} {x : Int} (h : x ∈ outOf (crR ts) ts) : ∃ i, i < ts.length ∧ x = crt ts i := by
  obtain ⟨i, hi⟩ := List.mem_iff_getElem?.1 h
  have hl := (List.getElem?_eq_some_iff.1 hi).1
  rw [out_len] at hl
  exact ⟨i, hl, by rw [crt, getD_some hi]⟩
theorem mem_crt {ts : List Tv} {i : Nat} (h : i < ts.length) : crt ts i ∈ outOf (crR ts) ts := by
  have hl : i < (outOf (crR ts) ts).length := by rw [out_len]; exact h
  exact List.mem_iff_getElem?.2 ⟨i, getD_of hl⟩
/-- what holds at the end: the ends of all, how long it took -/
theorem end_facts {ts : List Tv} {W : Nat} {s : St} (g : GInv ts W s) (h : FInv ts W s) (hl : s.runs.length = ts.length) (hJ : jobOk ts = true) : zs ts s.ends = zall ts ∧ (∀ i, i < ts.length → ∃ r ∈ s.runs, r.1 = (i : Int) ∧ r.2.2.2 = s.ends.getD i 0 ∧ crt ts i ≤ s.ends.getD i 0) ∧ (∀ r ∈ s.runs, r.2.2.2 ∈ s.ends) ∧ gmx 0 (outOf (crR ts) ts) ≤ top s.runs ∧ top s.runs ≤ zall ts := by
  have hz := all_taken h hl
  have e1 := zs_all h.ne hz
  have h2 : ∀ i, i < ts.length → ∃ r ∈ s.runs, r.1 = (i : Int) ∧ r.2.2.2 = s.ends.getD i 0 ∧ crt ts i ≤ s.ends.getD i 0 := fun i hi => by
    have hi' : i < s.ends.length := by rw [h.ne]; exact hi
    have hx := getD_of hi'
    have hne := hz _ (List.mem_of_getElem? hx)
    obtain ⟨r, r1, r2, r3⟩ := g.all i _ hx hne
    exact ⟨r, r1, r2, r3, g.crt i _ hx hne⟩
  have h3 : ∀ r ∈ s.runs, r.2.2.2 ∈ s.ends := fun r hr => by
    obtain ⟨i, k, t, f, e, _, _, _, h4, _⟩ := g.run r hr
    rw [e]; exact List.mem_of_getElem? h4
  have hc : ∀ t ∈ ts, 0 ≤ t.2.2.2 := fun t ht => by
    obtain ⟨j, hj⟩ := List.mem_iff_getElem?.1 ht
    have := (job_tok hJ hj).cost0
    omega
  have hzn : 0 ≤ zall ts := by rw [← e1]; exact zs_nonneg hc
  refine ⟨e1, h2, h3, ?_, ?_⟩
  · refine gmx_le _ _ _ ?_ fun x hx => ?_
    · by_cases e : s.runs = []
      · rw [e]; exact Int.le_refl _
      · obtain ⟨r, r1, r2⟩ := top_mem e
        rw [r2]
        have := h3 r r1
        obtain ⟨i, hi⟩ := List.mem_iff_getElem?.1 this
        exact (h.e0 i _ hi).1
    · obtain ⟨i, hi, rfl⟩ := crt_mem hx
      obtain ⟨r, r1, _, r3, r4⟩ := h2 i hi
      have := top_ge r1
      omega
  · by_cases e : s.runs = []
    · rw [e]; exact hzn
    · obtain ⟨r, r1, r2⟩ := top_mem e
      rw [r2, ← e1]
      exact g.le _ (h3 r r1)
theorem farm_one {ts : List Tv} (hJ : jobOk ts = true) : spanOf (farmOf ts 1) = zall ts := by
  obtain ⟨s, h1, ⟨g, o⟩, h, hl⟩ := one_fin hJ
  have e : farmOf ts 1 = s.runs := by rw [farmOf, if_pos ⟨hJ, by omega, by omega⟩]; exact h1
  obtain ⟨e1, h2, h3, h4, h5⟩ := end_facts g h hl hJ
  have h200 := job_short hJ
  rw [e, spanOf, if_pos (by omega)]
  rcases o.2.2.1 with hz | hz
  · have hr : s.runs = [] := by
      refine Classical.byContradiction fun hne => ?_
      obtain ⟨r, r1, r2⟩ := top_mem hne
      obtain ⟨i, k, t, f, e2, ht, _, f0, h6, _⟩ := g.run r r1
      have := (job_tok hJ ht).cost0
      have e3 : cst ts i = t.2.2.2 := by simp [cst, List.getD_eq_getElem?_getD, ht]
      have := g.le _ (List.mem_of_getElem? h6)
      omega
    rw [hr, ← e1, hz]; rfl
  · obtain ⟨i, hi⟩ := List.mem_iff_getElem?.1 hz
    have hil : i < ts.length := by rw [← h.ne]; exact (List.getElem?_eq_some_iff.1 hi).1
    obtain ⟨r, r1, _, r3, _⟩ := h2 i hil
    rw [getD_some hi] at r3
    have := top_ge r1
    omega
theorem farm_many {ts : List Tv} (hJ : jobOk ts = true) (h50 : ts.length ≤ 50) : spanOf (farmOf ts 50) = gmx 0 (outOf (crR ts) ts) := by
  obtain ⟨s, h1, ⟨g, o⟩, h, hl⟩ := many_fin hJ h50
  have e : farmOf ts 50 = s.runs := by rw [farmOf, if_pos ⟨hJ, by omega, by omega⟩]; exact h1
  obtain ⟨e1, h2, h3, h4, h5⟩ := end_facts g h hl hJ
  rw [e, spanOf, if_pos (by omega)]
  refine Int.le_antisymm ?_ h4
  have hg := gmx_ge (outOf (crR ts) ts) 0
  by_cases hr : s.runs = []
  · rw [hr]; exact hg.1
  · obtain ⟨r, r1, r2⟩ := top_mem hr
    obtain ⟨i, hi⟩ := List.mem_iff_getElem?.1 (h3 r r1)
    have hil : i < ts.length := by rw [← h.ne]; exact (List.getElem?_eq_some_iff.1 hi).1
    rw [r2, o.cr i _ hi (all_taken h hl _ (h3 r r1))]
    exact hg.2 _ (mem_crt hil)
/-- one run of the farm -/
structure RunOk (ts : List Tv) (W : Int) (ends : List Int) (r : Kl) (i : Nat) (t : Tv) : Prop where
  i0 : r.1 = (i : Int)
  it : ts[i]? = some t
  w0 : 0 ≤ r.2.1
  w1 : r.2.1 < W
  f0 : 0 ≤ r.2.2.1
  f1 : r.2.2.1 ≤ 200000
  to : r.2.2.2 = r.2.2.1 + t.2.2.2
  c0 : 1 ≤ t.2.2.2
  c1 : t.2.2.2 ≤ 1000
  en : ends.getD i 0 = r.2.2.2
  nd : ∀ x ∈ t.2.2.1, 0 ≤ x ∧ x < ts.length ∧ ends.getD x.toNat 0 ≤ r.2.2.1
/-- what the law asks of a farm -/
structure FarmOk (ts : List Tv) (W : Int) (ends : List Int) (L : List Kl) : Prop where
  job : jobOk ts = true
  len : L.length = ts.length
  run : ∀ (p : Nat) (r : Kl), L[p]? = some r → ∃ i t, RunOk ts W ends r i t
  nod : ∀ (p q : Nat) (r s : Kl), p < q → L[p]? = some r → L[q]? = some s → r.1 ≠ s.1
  ord : ∀ (p q : Nat) (r s : Kl), p < q → L[p]? = some r → L[q]? = some s → r.2.1 = s.2.1 → r.2.2.2 ≤ s.2.2.1
  sum : (L.map fun r : Kl => cst ts r.1.toNat).sum = zall ts
  ge : gmx 0 (outOf (crR ts) ts) ≤ spanOf L
  le : spanOf L ≤ zall ts
theorem pw_at {R : Kl → Kl → Prop} {l : List Kl} (h : l.Pairwise R) {p q : Nat} {r s : Kl} (hpq : p < q) (hr : l[p]? = some r) (hs : l[q]? = some s) : R r s := by
  obtain ⟨h1, e1⟩ := List.getElem?_eq_some_iff.1 hr
  obtain ⟨h2, e2⟩ := List.getElem?_eq_some_iff.1 hs
  have := List.pairwise_iff_getElem.1 h p q h1 h2 hpq
  rw [e1, e2] at this
  exact this
theorem farm_ok {ts : List Tv} {W : Int} {L : List Kl} (hL : farmOf ts W = L) (hne : L ≠ []) : ∃ ends, FarmOk ts W ends L := by
  unfold farmOf at hL
  split at hL
  · rename_i hc
    obtain ⟨hJ, h1, h50⟩ := hc
    have h200 := job_short hJ
    obtain ⟨s, e1, g, h, hl⟩ := fin_ind (W := W.toNat) (P := fun s => GInv ts W.toNat s) hJ (by omega) (fun s p h hr => by
      have h2 := sw_ind (W := W.toNat) (P := fun s => GInv ts W.toNat s ∧ FInv ts W.toNat s) (fun s k q hk => GInv.wstep q hJ hk) W.toNat 0 s ⟨p, h⟩ (by omega)
      exact h2.1.adv h2.2 (works h hJ (by omega) hr)) 200001 _ (GInv.zero hJ) (FInv.zero ts W.toNat) (by show (1000 : Int) * ts.length < 0 + _; omega)
    rw [e1] at hL
    subst hL
    obtain ⟨e2, h2, h3, h4, h5⟩ := end_facts g h hl hJ
    refine ⟨s.ends, hJ, hl, fun p r hr => ?_, fun p q r u hpq hr hu => pw_at g.nod hpq hr hu, fun p q r u hpq hr hu => pw_at g.ord hpq hr hu, by rw [g.sum, e2], ?_, ?_⟩
    · obtain ⟨i, k, t, f, e, ht, hk, f0, h6, _, hn⟩ := g.run r (List.mem_of_getElem? hr)
      have tk := job_tok hJ ht
      have e3 : cst ts i = t.2.2.2 := by simp [cst, List.getD_eq_getElem?_getD, ht]
      have hb := (h.e0 i _ h6).2
      have hil := (List.getElem?_eq_some_iff.1 ht).1
      rw [e3] at h6 e hb
      have c0 := tk.cost0
      have c1 := tk.cost1
      refine ⟨i, t, ?_⟩
      rw [e]
      exact ⟨rfl, ht, by show (0 : Int) ≤ k; omega, by show (k : Int) < W; omega, f0, by show f ≤ _; omega, rfl, c0, c1, getD_some h6, fun x hx => by
        have := tk.need x hx
        exact ⟨this.1, by omega, (hn x hx).2⟩⟩
    · rw [spanOf, if_pos (by omega)]; exact h4
    · rw [spanOf, if_pos (by omega)]; exact h5
  · exact absurd hL.symm hne
/-- the law's own ends, up to run k -/
structure LE (ts : List Tv) (L : List Kl) (ends : List Int) (k : Nat) (E : List Int) : Prop where
  len : E.length = ts.length
  val : ∀ i, i < ts.length → E.getD i 0 = 0 ∨ E.getD i 0 = ends.getD i 0
  new : ∀ (p : Nat) (r : Kl), k ≤ p → L[p]? = some r → E.getD r.1.toNat 0 = 0
theorem LE.zero (ts : List Tv) (L : List Kl) (ends : List Int) : LE ts L ends 0 (List.replicate ts.length 0) := by
  have h : ∀ i, (List.replicate ts.length (0 : Int)).getD i 0 = 0 := fun i => by
    rw [List.getD_eq_getElem?_getD, List.getElem?_replicate]; split <;> rfl
  exact ⟨by simp, fun i _ => .inl (h i), fun p r _ _ => h _⟩
theorem LE.step {ts : List Tv} {W : Int} {L : List Kl} {ends : List Int} {k i : Nat} {E : List Int} {r : Kl} {t : Tv} (h : LE ts L ends k E) (f : FarmOk ts W ends L) (hr : L[k]? = some r) (ho : RunOk ts W ends r i t) : LE ts L ends (k + 1) (E.set i r.2.2.2) := by
  have hil := (List.getElem?_eq_some_iff.1 ho.it).1
  refine ⟨by simp [h.len], fun j hj => ?_, fun p u hp hu => ?_⟩
  · by_cases e : i = j
    · subst e
      right
      rw [ho.en]
      have : i < E.length := by rw [h.len]; exact hil
      simp [List.getD_eq_getElem?_getD, this]
    · rw [getD_set_ne e]; exact h.val j hj
  · have hne := f.nod k p r u (by omega) hr hu
    obtain ⟨j, t', hu'⟩ := f.run p u hu
    have : i ≠ u.1.toNat := by rw [hu'.i0]; have := ho.i0; have := hu'.i0; intro e; apply hne; omega
    rw [getD_set_ne this]
    exact h.new p u (by omega) hu
end Go.Proofs.Ytpmmimcafkillaa
