/-
  Plain facts of colours by whole numbers: what a rounded quotient is, where a value lies among stretches, matrices, curves, masks; no program is named.
-/
namespace Go.Proofs.Ytdmcbdogpeidjaa
set_option linter.unusedVariables false
set_option linter.unusedSimpArgs false

/-- three numbers -/
abbrev Kl := Int × Int × Int
theorem take_snocK {l : List Kl} {k : Nat} {c : Kl} (h : l[k]? = some c) : l.take (k + 1) = l.take k ++ [c] := by
  rw [List.take_add_one, h]; rfl
theorem tdiv_down {x d : Int} (hd : 0 < d) : (if x.tmod d < 0 then x.tdiv d - 1 else x.tdiv d) = x / d := by
  have h1 := Int.mul_tdiv_add_tmod x d
  have h2 : -d < x.tmod d ∧ x.tmod d < d := ⟨by have h3 := Int.tmod_lt_of_pos (-x) hd; rw [Int.neg_tmod] at h3; omega, Int.tmod_lt_of_pos x hd⟩
  split
  · rename_i h
    symm
    rw [Int.ediv_eq_iff_of_pos hd]
    rw [Int.sub_mul, Int.mul_comm (x.tdiv d) d]
    omega
  · rename_i h
    symm
    rw [Int.ediv_eq_iff_of_pos hd]
    rw [Int.mul_comm (x.tdiv d) d]
    omega
theorem tmod_up {x d : Int} (hd : 0 < d) : (if x.tmod d < 0 then x.tmod d + d else x.tmod d) = x % d := by
  have h1 := Int.mul_tdiv_add_tmod x d
  have h2 := tdiv_down (x := x) hd
  have h3 := Int.mul_ediv_add_emod x d
  split at h2
  · rename_i h
    rw [if_pos h]
    rw [← h2, Int.mul_sub] at h3
    omega
  · rename_i h
    rw [if_neg h]
    rw [← h2] at h3
    omega
theorem rest_div {x d : Int} (hd : 0 < d) : (x - x % d).tdiv d = x / d := by
  have h3 := Int.mul_ediv_add_emod x d
  have : x - x % d = d * (x / d) := by omega
  rw [this, Int.mul_tdiv_cancel_left _ (by omega)]
theorem div_bd {x d : Int} (hd : 1 ≤ d) (hx : -100000000000000 ≤ x ∧ x ≤ 100000000000000) : -100000000000000 ≤ x / d ∧ x / d ≤ 100000000000000 := by
  constructor
  · exact Int.le_ediv_of_mul_le (by omega) (by omega)
  · have := Int.ediv_lt_of_lt_mul (a := x) (b := 100000000000001) (c := d) (by omega) (by omega)
    omega
theorem tmod_bd {x d : Int} (hd : 1 ≤ d) : -d < x.tmod d ∧ x.tmod d < d :=
  ⟨by have h3 := Int.tmod_lt_of_pos (-x) (show 0 < d by omega); rw [Int.neg_tmod] at h3; omega, Int.tmod_lt_of_pos x (by omega)⟩
theorem mul_bd {u v a b : Int} (hu : -a ≤ u ∧ u ≤ a) (hv : -b ≤ v ∧ v ≤ b) : -(a * b) ≤ u * v ∧ u * v ≤ a * b := by
  have ha : 0 ≤ a := by omega
  have hb : 0 ≤ b := by omega
  have h : (u * v).natAbs ≤ (a * b).natAbs := by
    rw [Int.natAbs_mul, Int.natAbs_mul]
    exact Nat.mul_le_mul (by omega) (by omega)
  have := Int.mul_nonneg ha hb
  omega
theorem mul_nn {u v a b : Int} (hu : 0 ≤ u ∧ u ≤ a) (hv : 0 ≤ v ∧ v ≤ b) : 0 ≤ u * v ∧ u * v ≤ a * b :=
  ⟨Int.mul_nonneg hu.1 hv.1, (mul_bd (a := a) (b := b) (by omega) (by omega)).2⟩

def LvOk (v : Int) : Prop := 0 ≤ v ∧ v ≤ 65535
instance (v : Int) : Decidable (LvOk v) := by unfold LvOk; infer_instance
def CoOk (c : Kl) : Prop := LvOk c.1 ∧ LvOk c.2.1 ∧ LvOk c.2.2
instance (c : Kl) : Decidable (CoOk c) := by unfold CoOk; infer_instance
/-- all are colours -/
def CsOk (l : List Kl) : Prop := ∀ c ∈ l, CoOk c
instance (l : List Kl) : Decidable (CsOk l) := by unfold CsOk; infer_instance
theorem CsOk.at {l : List Kl} (h : CsOk l) {j : Nat} {c : Kl} (hj : l[j]? = some c) : CoOk c := h c (List.mem_of_getElem? hj)
theorem csno {l : List Kl} {j : Nat} {c : Kl} (hj : l[j]? = some c) (h : ¬ CoOk c) : ¬ CsOk l := fun H => h (H.at hj)
/-- the first k are colours -/
def CsPre (l : List Kl) (k : Nat) : Prop := ∀ j c, j < k → l[j]? = some c → CoOk c
theorem CsPre.zero (l : List Kl) : CsPre l 0 := fun j c h => by omega
theorem CsPre.step {l : List Kl} {k : Nat} {c : Kl} (h : CsPre l k) (hk : l[k]? = some c) (hc : CoOk c) : CsPre l (k + 1) := by
  intro j d hj hd
  by_cases e : j = k
  · subst e; rw [hk] at hd; cases hd; exact hc
  · exact h j d (by omega) hd
theorem CsPre.all {l : List Kl} (h : CsPre l l.length) : CsOk l := by
  intro c hc
  obtain ⟨j, hj, he⟩ := List.mem_iff_getElem.1 hc
  exact h j c hj (by rw [List.getElem?_eq_getElem hj, he])
/-- the same of a list of numbers and any property -/
def NsPre (p : Int → Prop) (l : List Int) (k : Nat) : Prop := ∀ j c, j < k → l[j]? = some c → p c
theorem NsPre.zero (p : Int → Prop) (l : List Int) : NsPre p l 0 := fun j c h => by omega
theorem NsPre.step {p : Int → Prop} {l : List Int} {k : Nat} {c : Int} (h : NsPre p l k) (hk : l[k]? = some c) (hc : p c) : NsPre p l (k + 1) := by
  intro j d hj hd
  by_cases e : j = k
  · subst e; rw [hk] at hd; cases hd; exact hc
  · exact h j d (by omega) hd
theorem NsPre.all {p : Int → Prop} {l : List Int} (h : NsPre p l l.length) : ∀ c ∈ l, p c := by
  intro c hc
  obtain ⟨j, hj, he⟩ := List.mem_iff_getElem.1 hc
  exact h j c hj (by rw [List.getElem?_eq_getElem hj, he])

/-- a quotient rounded, of two the greater -/
def rnd (a b : Int) : Int := (2 * a + b) / (2 * b)
theorem rnd_bd {a b lo hi : Int} (hb : 0 < b) (h1 : lo * b ≤ a) (h2 : a ≤ hi * b) : lo ≤ rnd a b ∧ rnd a b ≤ hi := by
  unfold rnd
  have e1 : lo * (2 * b) = 2 * (lo * b) := by rw [← Int.mul_assoc, Int.mul_comm lo 2, Int.mul_assoc]
  have e2 : (hi + 1) * (2 * b) = 2 * (hi * b) + 2 * b := by rw [Int.add_mul, ← Int.mul_assoc, Int.mul_comm hi 2, Int.mul_assoc]; omega
  constructor
  · exact Int.le_ediv_of_mul_le (by omega) (by omega)
  · have := Int.ediv_lt_of_lt_mul (a := 2 * a + b) (b := hi + 1) (c := 2 * b) (by omega) (by omega)
    omega
theorem rnd_exact {a b : Int} (hb : 0 < b) : rnd (a * b) b = a := by
  have := rnd_bd (a := a * b) (b := b) (lo := a) (hi := a) hb (Int.le_refl _) (Int.le_refl _)
  omega

/-- where a value lies among n stretches: which one -/
def plI (v n : Int) : Int := min (n - 1) (v * n / 65535)
/-- and the rest -/
def plR (v n : Int) : Int := v * n - plI v n * 65535
theorem pl_facts {v n : Int} (hv : LvOk v) (hn : 1 ≤ n) : 0 ≤ plI v n ∧ plI v n ≤ n - 1 ∧ 0 ≤ plR v n ∧ plR v n ≤ 65535 := by
  obtain ⟨v0, v1⟩ := hv
  have h0 : 0 ≤ v * n := Int.mul_nonneg v0 (by omega)
  have h1 : v * n ≤ 65535 * n := Int.mul_le_mul_of_nonneg_right v1 (by omega)
  unfold plR plI
  omega

/-! matrices -/
def MatOk (m : List Int) : Prop := m.length = 9 ∧ ∀ x ∈ m, -65536 ≤ x ∧ x ≤ 65536
instance (m : List Int) : Decidable (MatOk m) := by unfold MatOk; infer_instance
def clF (x : Int) : Int := min 65535 (max 0 x)
theorem clF_lv (x : Int) : LvOk (clF x) := by unfold clF LvOk; omega
def mrow (m : List Int) (c : Kl) (r : Nat) : Int := m.getD (3 * r) 0 * c.1 + m.getD (3 * r + 1) 0 * c.2.1 + m.getD (3 * r + 2) 0 * c.2.2
def mnum (m : List Int) (c : Kl) (r : Nat) : Int := clF (rnd (mrow m c r) 4096)
def matOf (m : List Int) (c : Kl) : Kl := if MatOk m ∧ CoOk c then (mnum m c 0, mnum m c 1, mnum m c 2) else (0, 0, 0)
theorem mat_no {m : List Int} {c : Kl} (h : ¬ (MatOk m ∧ CoOk c)) : matOf m c = (0, 0, 0) := by unfold matOf; rw [if_neg h]
theorem mat_yes {m : List Int} {c : Kl} (h1 : MatOk m) (h2 : CoOk c) : matOf m c = (mnum m c 0, mnum m c 1, mnum m c 2) := by unfold matOf; rw [if_pos ⟨h1, h2⟩]

/-! curves -/
def CrvOk (t : List Int) : Prop := 2 ≤ t.length ∧ t.length ≤ 257 ∧ ∀ x ∈ t, LvOk x
instance (t : List Int) : Decidable (CrvOk t) := by unfold CrvOk; infer_instance
def crvAt (t : List Int) (v : Int) : Int :=
  t.getD (plI v (t.length - 1)).toNat 0 + rnd ((t.getD ((plI v (t.length - 1)).toNat + 1) 0 - t.getD (plI v (t.length - 1)).toNat 0) * plR v (t.length - 1)) 65535
def crvOf (t : List Int) (v : Int) : Int := if CrvOk t ∧ LvOk v then crvAt t v else -1
theorem crv_no {t : List Int} {v : Int} (h : ¬ (CrvOk t ∧ LvOk v)) : crvOf t v = -1 := by unfold crvOf; rw [if_neg h]
theorem crv_yes {t : List Int} {v : Int} (h1 : CrvOk t) (h2 : LvOk v) : crvOf t v = crvAt t v := by unfold crvOf; rw [if_pos ⟨h1, h2⟩]

/-! masks -/
def apt (c d : Kl) : Int := max (c.1 - d.1).natAbs (max (c.2.1 - d.2.1).natAbs (c.2.2 - d.2.2).natAbs)
def KmOk (c d : Kl) (n f : Int) : Prop := CoOk c ∧ CoOk d ∧ 0 ≤ n ∧ n < f ∧ f ≤ 65535
instance (c d : Kl) (n f : Int) : Decidable (KmOk c d n f) := by unfold KmOk; infer_instance
def kmAt (d n f : Int) : Int := if d ≤ n then 65535 else if f ≤ d then 0 else rnd (65535 * (f - d)) (f - n)
def kmOf (c d : Kl) (n f : Int) : Int := if KmOk c d n f then kmAt (apt c d) n f else 0
theorem km_no {c d : Kl} {n f : Int} (h : ¬ KmOk c d n f) : kmOf c d n f = 0 := by unfold kmOf; rw [if_neg h]
theorem km_yes {c d : Kl} {n f : Int} (h : KmOk c d n f) : kmOf c d n f = kmAt (apt c d) n f := by unfold kmOf; rw [if_pos h]
theorem apt_bd {c d : Kl} (hc : CoOk c) (hd : CoOk d) : 0 ≤ apt c d ∧ apt c d ≤ 65535 := by
  obtain ⟨⟨a, b⟩, ⟨a1, b1⟩, a2, b2⟩ := hc
  obtain ⟨⟨e, f⟩, ⟨e1, f1⟩, e2, f2⟩ := hd
  unfold apt
  omega
/-- no greater farther away -/
theorem kmAt_mono {d e n f : Int} (h0 : 0 ≤ n) (h1 : n < f) (h2 : f ≤ 65535) (hd : 0 ≤ d) (hde : d ≤ e) : kmAt e n f ≤ kmAt d n f := by
  have hx : ∀ x : Int, n < x → x < f → 0 ≤ rnd (65535 * (f - x)) (f - n) ∧ rnd (65535 * (f - x)) (f - n) ≤ 65535 := fun x a b => by
    refine rnd_bd (by omega) ?_ ?_
    · rw [Int.zero_mul]; omega
    · exact Int.mul_le_mul_of_nonneg_left (by omega) (by omega)
  unfold kmAt
  by_cases a : e ≤ n
  · rw [if_pos a, if_pos (by omega)]; omega
  · rw [if_neg a]
    by_cases b : d ≤ n
    · rw [if_pos b]
      split
      · omega
      · exact (hx e (by omega) (by omega)).2
    · rw [if_neg b]
      by_cases c : f ≤ e
      · rw [if_pos c]
        split
        · omega
        · exact (hx d (by omega) (by omega)).1
      · rw [if_neg c, if_neg (by omega)]
        unfold rnd
        exact Int.ediv_le_ediv (by omega) (by omega)

/-! scopes -/
def scAt (c : Kl) : Nat := ((c.1 + 2 * c.2.1 + c.2.2) / 4 / 4096).toNat
theorem scAt_lt {c : Kl} (h : CoOk c) : scAt c < 16 ∧ ((scAt c : Nat) : Int) = (c.1 + 2 * c.2.1 + c.2.2) / 4 / 4096 := by
  obtain ⟨⟨a, b⟩, ⟨a1, b1⟩, a2, b2⟩ := h
  unfold scAt
  omega
def bump (l : List Int) (j : Nat) : List Int := l.set j (l.getD j 0 + 1)
def cntOf (l : List Kl) : List Int := l.foldl (fun a c => bump a (scAt c)) (List.replicate 16 0)
def ScOk (l : List Kl) : Prop := l.length ≤ 4096 ∧ CsOk l
instance (l : List Kl) : Decidable (ScOk l) := by unfold ScOk; infer_instance
def scOf (l : List Kl) : List Int := if ScOk l then cntOf l else []
theorem sc_no {l : List Kl} (h : ¬ ScOk l) : scOf l = [] := by unfold scOf; rw [if_neg h]
theorem sc_yes {l : List Kl} (h : ScOk l) : scOf l = cntOf l := by unfold scOf; rw [if_pos h]
theorem cnt_snoc (l : List Kl) (c : Kl) : cntOf (l ++ [c]) = bump (cntOf l) (scAt c) := by unfold cntOf; rw [List.foldl_append]; rfl
theorem bump_len (l : List Int) (j : Nat) : (bump l j).length = l.length := by simp [bump]
theorem cnt_len (l : List Kl) : (cntOf l).length = 16 := by
  have : ∀ (l : List Kl) (a : List Int), (l.foldl (fun a c => bump a (scAt c)) a).length = a.length := by
    intro l
    induction l with
    | nil => intro a; rfl
    | cons x l ih => intro a; rw [List.foldl_cons, ih, bump_len]
  unfold cntOf
  rw [this]; simp
theorem sum_set {l : List Int} {j : Nat} {v : Int} (h : j < l.length) : (l.set j v).sum = l.sum + v - l.getD j 0 := by
  induction l generalizing j with
  | nil => simp at h
  | cons x l ih =>
    cases j with
    | zero => simp; omega
    | succ j => 
      have := ih (j := j) (by simpa using h)
      simp only [List.set_cons_succ, List.sum_cons, List.getD_cons_succ]
      omega
theorem bump_sum {l : List Int} {j : Nat} (h : j < l.length) : (bump l j).sum = l.sum + 1 := by
  unfold bump
  rw [sum_set h]; omega
theorem cnt_sum {l : List Kl} (h : CsOk l) : (cntOf l).sum = l.length := by
  have : ∀ (l : List Kl) (a : List Int), a.length = 16 → CsOk l → (l.foldl (fun a c => bump a (scAt c)) a).sum = a.sum + l.length := by
    intro l
    induction l with
    | nil => intro a _ _; simp
    | cons x l ih =>
      intro a ha hl
      rw [List.foldl_cons, ih _ (by rw [bump_len]; exact ha) (fun c hc => hl c (List.mem_cons_of_mem _ hc)), bump_sum (by rw [ha]; exact (scAt_lt (hl x (by simp))).1)]
      simp; omega
  unfold cntOf
  rw [this l _ (by simp) h]; simp
theorem cnt_bd {l : List Kl} : ∀ x ∈ cntOf l, 0 ≤ x ∧ x ≤ l.length := by
  have : ∀ (l : List Kl) (a : List Int) (n : Int), 0 ≤ n → (∀ x ∈ a, 0 ≤ x ∧ x ≤ n) → ∀ x ∈ l.foldl (fun a c => bump a (scAt c)) a, 0 ≤ x ∧ x ≤ n + l.length := by
    intro l
    induction l with
    | nil => intro a n hn ha x hx; have := ha x hx; simp; omega
    | cons c l ih =>
      intro a n hn ha x hx
      rw [List.foldl_cons] at hx
      have := ih _ (n + 1) (by omega) (fun y hy => by
        unfold bump at hy
        rcases List.mem_or_eq_of_mem_set hy with h | h
        · have := ha y h; omega
        · subst h
          by_cases hj : scAt c < a.length
          · have h9 : a.getD (scAt c) 0 ∈ a := by simp [List.getD, List.getElem?_eq_getElem hj]
            have := ha _ h9; omega
          · have h0 : a.getD (scAt c) 0 = 0 := by simp [List.getD, List.getElem?_eq_none (show a.length ≤ scAt c by omega)]
            omega) x hx
      simp only [List.length_cons]
      omega
  intro x hx
  have := this l _ 0 (by omega) (fun y hy => by simp at hy; omega) x hx
  omega
theorem cnt_at (l : List Kl) (j : Nat) : 0 ≤ (cntOf l).getD j 0 ∧ (cntOf l).getD j 0 ≤ l.length := by
  by_cases hj : j < (cntOf l).length
  · exact cnt_bd _ (by simp [List.getD, List.getElem?_eq_getElem hj])
  · have h0 : (cntOf l).getD j 0 = 0 := by simp [List.getD, List.getElem?_eq_none (show (cntOf l).length ≤ j by omega)]
    omega
end Go.Proofs.Ytdmcbdogpeidjaa
