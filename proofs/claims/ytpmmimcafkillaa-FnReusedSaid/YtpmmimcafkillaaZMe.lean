/-
  Go's mutex, for any number of goroutines: every step keeps what holds; where all wait, nobody does; every step lowers a measure. It names no program; no conditions.
  The round as an abstract automaton: a starter, any number of workers that each lock twice and say Done, a mutex, a group. It names no program; no conditions.
  The round as an abstract automaton: one more is started; somebody can always go on; at the end all have quit; every step lowers a measure. It names no program; no conditions.
-/
import Derived.Test.YtpmmimcafkillaaZMb
set_option linter.unusedVariables false
set_option linter.unusedSimpArgs false
namespace Go.Proofs.Ytpmmimcafkillaa.Mx
theorem W_mono {x x' : Lk} {m m' : Mu} {s s' O Sl Aw Uf Ut Ax A1 Uw : Nat} (st : St x m s x' m' s') (k : Ok m s O Sl Aw Uf Ut Ax A1 Uw) (hl : lok x) (hx : a1p x = 0) (h1 : A1 ≠ 0) : m.W ≤ m'.W := by
  cases st <;> (try (exact Nat.le_refl _))
  case c2l => simp only [nw]; split <;> omega
  case c2t => simp only [nw]; split <;> omega
  case c2s => simp only [nw]; split <;> omega
  case a1 => simp [a1p] at hx
  case ucy =>
    simp only [lok] at hl
    exact absurd (k.k3 hl.2.1 (.inl hl.2.2.1)).2.2.2.1 h1
/-- ████ EVERY STEP KEEPS WHAT HOLDS. ████ -/
theorem Inv.step {l : List Lk} {m m' : Mu} {s s' i : Nat} {x x' : Lk} (h : Inv l m s) (hi : l[i]? = some x) (st : St x m s x' m' s') : Inv (l.set i x') m' s' := by
  have hl := h.loc x (List.mem_of_getElem? hi)
  have ha := h.a12 x (List.mem_of_getElem? hi)
  have hn := h.num
  have e0 := cnt_set owns l i x x' hi
  have g0 := cnt_ge owns l i x hi
  have e1 := cnt_set slp l i x x' hi
  have g1 := cnt_ge slp l i x hi
  have e2 := cnt_set awk l i x x' hi
  have g2 := cnt_ge awk l i x hi
  have e3 := cnt_set usf l i x x' hi
  have g3 := cnt_ge usf l i x hi
  have e4 := cnt_set ust l i x x' hi
  have g4 := cnt_ge ust l i x hi
  have e5 := cnt_set agx l i x x' hi
  have g5 := cnt_ge agx l i x hi
  have e6 := cnt_set a1p l i x x' hi
  have g6 := cnt_ge a1p l i x hi
  have e7 := cnt_set uwp l i x x' hi
  have g7 := cnt_ge uwp l i x hi
  have key : lok x' ∧ Ok m' s' (cnt owns (l.set i x')) (cnt slp (l.set i x')) (cnt awk (l.set i x')) (cnt usf (l.set i x')) (cnt ust (l.set i x')) (cnt agx (l.set i x')) (cnt a1p (l.set i x')) (cnt uwp (l.set i x')) := by
    cases st
    case ld => exact st_ld hn hl  e0 e1 e2 e3 e4 e5 e6 e7 g0 g1 g2 g3 g4 g5 g6 g7
    case l0y => exact st_l0y hn hl  e0 e1 e2 e3 e4 e5 e6 e7 g0 g1 g2 g3 g4 g5 g6 g7
    case l0n => (rename_i h; exact st_l0n hn hl  e0 e1 e2 e3 e4 e5 e6 e7 g0 g1 g2 g3 g4 g5 g6 g7)
    case r0 => exact st_r0 hn hl  e0 e1 e2 e3 e4 e5 e6 e7 g0 g1 g2 g3 g4 g5 g6 g7
    case sq0 => exact st_sq0 hn hl  e0 e1 e2 e3 e4 e5 e6 e7 g0 g1 g2 g3 g4 g5 g6 g7
    case sq1 => (rename_i hit h1; exact st_sq1 hn hl hit e0 e1 e2 e3 e4 e5 e6 e7 g0 g1 g2 g3 g4 g5 g6 g7)
    case sq2 => (rename_i hit h1 h2; exact st_sq2 hn hl hit h1 h2 e0 e1 e2 e3 e4 e5 e6 e7 g0 g1 g2 g3 g4 g5 g6 g7)
    case c1y => exact st_c1y hn hl  e0 e1 e2 e3 e4 e5 e6 e7 g0 g1 g2 g3 g4 g5 g6 g7
    case c1n => (rename_i h; exact st_c1n hn hl  e0 e1 e2 e3 e4 e5 e6 e7 g0 g1 g2 g3 g4 g5 g6 g7)
    case r1 => exact st_r1 hn hl  e0 e1 e2 e3 e4 e5 e6 e7 g0 g1 g2 g3 g4 g5 g6 g7
    case c2l => (rename_i h h1; exact st_c2l hn hl h h1 e0 e1 e2 e3 e4 e5 e6 e7 g0 g1 g2 g3 g4 g5 g6 g7)
    case c2t => (rename_i h; exact st_c2t hn hl h e0 e1 e2 e3 e4 e5 e6 e7 g0 g1 g2 g3 g4 g5 g6 g7)
    case c2s => (rename_i h; exact st_c2s hn hl h e0 e1 e2 e3 e4 e5 e6 e7 g0 g1 g2 g3 g4 g5 g6 g7)
    case c2n => (rename_i h; exact st_c2n hn hl  e0 e1 e2 e3 e4 e5 e6 e7 g0 g1 g2 g3 g4 g5 g6 g7)
    case r3 => exact st_r3 hn hl  e0 e1 e2 e3 e4 e5 e6 e7 g0 g1 g2 g3 g4 g5 g6 g7
    case t1 => exact st_t1 hn hl  e0 e1 e2 e3 e4 e5 e6 e7 g0 g1 g2 g3 g4 g5 g6 g7
    case s1 => exact st_s1 hn hl  e0 e1 e2 e3 e4 e5 e6 e7 g0 g1 g2 g3 g4 g5 g6 g7
    case t2 => (rename_i h; exact st_t2 hn hl  e0 e1 e2 e3 e4 e5 e6 e7 g0 g1 g2 g3 g4 g5 g6 g7)
    case r2s => (rename_i h; exact st_r2s hn hl h e0 e1 e2 e3 e4 e5 e6 e7 g0 g1 g2 g3 g4 g5 g6 g7)
    case r2n => (rename_i h; exact st_r2n hn hl h e0 e1 e2 e3 e4 e5 e6 e7 g0 g1 g2 g3 g4 g5 g6 g7)
    case a1 clr => exact st_a1 hn hl (fun e => ha (by rw [e])) e0 e1 e2 e3 e4 e5 e6 e7 g0 g1 g2 g3 g4 g5 g6 g7
    case le => exact st_le hn hl  e0 e1 e2 e3 e4 e5 e6 e7 g0 g1 g2 g3 g4 g5 g6 g7
    case la => exact st_la hn hl  e0 e1 e2 e3 e4 e5 e6 e7 g0 g1 g2 g3 g4 g5 g6 g7
    case cs => exact st_cs hn hl  e0 e1 e2 e3 e4 e5 e6 e7 g0 g1 g2 g3 g4 g5 g6 g7
    case ud => exact st_ud hn hl  e0 e1 e2 e3 e4 e5 e6 e7 g0 g1 g2 g3 g4 g5 g6 g7
    case u0f => (rename_i h h1; exact st_u0f hn hl h h1 e0 e1 e2 e3 e4 e5 e6 e7 g0 g1 g2 g3 g4 g5 g6 g7)
    case u0c => (rename_i h h1 h2; exact st_u0c hn hl h h1 h2 e0 e1 e2 e3 e4 e5 e6 e7 g0 g1 g2 g3 g4 g5 g6 g7)
    case u0s => (rename_i h; exact st_u0s hn hl h e0 e1 e2 e3 e4 e5 e6 e7 g0 g1 g2 g3 g4 g5 g6 g7)
    case ucy => exact st_ucy hn hl  e0 e1 e2 e3 e4 e5 e6 e7 g0 g1 g2 g3 g4 g5 g6 g7
    case ucn => (rename_i h; exact st_ucn hn hl  e0 e1 e2 e3 e4 e5 e6 e7 g0 g1 g2 g3 g4 g5 g6 g7)
    case uxe => (rename_i h; exact st_uxe hn hl h e0 e1 e2 e3 e4 e5 e6 e7 g0 g1 g2 g3 g4 g5 g6 g7)
    case uxc => (rename_i h h1 h2 h3; exact st_uxc hn hl h h1 h2 h3 e0 e1 e2 e3 e4 e5 e6 e7 g0 g1 g2 g3 g4 g5 g6 g7)
    case us h => cases h; exact st_us0 hn hl e0 e1 e2 e3 e4 e5 e6 e7 g0 g1 g2 g3 g4 g5 g6 g7; exact st_us1 hn hl e0 e1 e2 e3 e4 e5 e6 e7 g0 g1 g2 g3 g4 g5 g6 g7
    case ue => exact st_ue hn hl  e0 e1 e2 e3 e4 e5 e6 e7 g0 g1 g2 g3 g4 g5 g6 g7
  refine ⟨fun y hy => (List.mem_or_eq_of_mem_set hy).elim (h.loc y) (fun e => e ▸ key.1), fun y hy e => ?_, key.2⟩
  by_cases hax : a1p x = 0
  · rcases List.mem_or_eq_of_mem_set hy with hy | hy
    · have h2 := h.a12 y hy e
      obtain ⟨j, hj⟩ := List.getElem?_of_mem hy
      have h3 := cnt_ge a1p l j y hj
      rw [e] at h3
      have := W_mono st hn hl hax (by simp [a1p] at h3; omega)
      omega
    · rw [hy] at e
      cases st
      case r2s =>
        have hs : m.S = true := by assumption
        have := hn.sw hs
        injection e with e
        simp at e
        omega
      all_goals first | cases e | (unfold hd at e; split at e <;> cases e)
  · -- the one who stood there leaves it, and there is no other
    exfalso
    have hA : a1p x = 1 := by cases x <;> simp_all [a1p]
    have h6 : cnt a1p (l.set i x') ≠ 0 := by
      obtain ⟨j, hj⟩ := List.getElem?_of_mem hy
      have := cnt_ge a1p _ j y hj
      rw [e] at this
      simp [a1p] at this
      omega
    have hx' : a1p x' = 0 := by cases st <;> simp_all [a1p]
    have hK : cnt a1p l ≤ 1 := by
      cases hk : m.K with
      | true => have := hn.k1 hk; omega
      | false =>
        cases hs : m.S with
        | false => have := hn.k3 hk (.inl hs); omega
        | true =>
          cases hL : m.L with
          | true => have := hn.k3 hk (.inr hL); omega
          | false => have := hn.k2 hk hs hL; omega
    omega
/-- ████ WHERE ALL WAIT, NOBODY DOES. ████ -/
theorem Inv.nobody {l : List Lk} {m : Mu} (h : Inv l m 0) (hw : ∀ x ∈ l, x = .out ∨ ∃ sv, x = .s1 sv) : ∀ x ∈ l, x = .out := by
  have z : ∀ (f : Lk → Nat), f .out = 0 → (∀ sv, f (.s1 sv) = 0) → cnt f l = 0 := fun f h0 h1 => by
    have : ∀ k : List Lk, (∀ x ∈ k, x ∈ l) → cnt f k = 0 := by
      intro k
      induction k with
      | nil => intro _; rfl
      | cons x k ih =>
        intro hk
        rw [cnt_cons, ih fun y hy => hk y (List.mem_cons_of_mem _ hy)]
        rcases hw x (hk x (List.mem_cons_self ..)) with rfl | ⟨sv, rfl⟩
        · rw [h0]
        · rw [h1]
    exact this l fun _ h => h
  have hn := h.num
  have o := z owns rfl fun _ => rfl
  have a := z awk rfl fun _ => rfl
  have u := z usf rfl fun _ => rfl
  have v := z ust rfl fun _ => rfl
  have g := z agx rfl fun _ => rfl
  have b := z a1p rfl fun _ => rfl
  have c := z uwp rfl fun _ => rfl
  have hL : m.L = false := by
    cases e : m.L with
    | false => rfl
    | true => have := hn.own; rw [e, o] at this; simp at this
  have hs0 : cnt slp l = 0 := by
    cases hk : m.K with
    | true => have := hn.k1 hk; omega
    | false =>
      cases hs : m.S with
      | true => have := hn.k2 hk hs hL; omega
      | false =>
        rw [hn.s3 hk (.inl hs)]
        rcases Nat.eq_zero_or_pos m.W with hW | hW
        · exact hW
        · exact absurd c (hn.wk (by omega) hL hs hk)
  intro x hx
  rcases hw x hx with h1 | ⟨sv, rfl⟩
  · exact h1
  · obtain ⟨j, hj⟩ := List.getElem?_of_mem hx
    have := cnt_ge slp l j _ hj
    simp [slp] at this
    omega
/-! the measure -/
def q : Lk → Nat
  | .out => 0
  | .ld | .l0 => 6
  | .r0 | .sq .. | .c1 .. | .r1 .. | .c2 .. | .r3 .. => 5
  | .t1 _ | .s1 _ => 3
  | .t2 _ | .r2 _ | .a1 _ => 5
  | .le | .la | .cs | .ud | .u0 => 3
  | .uc _ | .ux => 2
  | .us _ => 2
  | .ue => 0
def kap (m : Mu) : Nat := if m.K = true then 0 else 1
def rk (m : Mu) : Lk → Nat
  | .out => 0
  | .ld => 60
  | .l0 => 59
  | .r0 => 50
  | .sq old _ _ it => (if old = m then 0 else 100) + (4 - it) * 4 + 3
  | .c1 old it => (if old = m then 0 else 100) + (4 - it) * 4 + 2
  | .r1 _ _ it => (4 - it) * 4 + 1
  | .c2 old _ _ _ => if old = m then 0 else 100
  | .r3 .. => 50
  | .t1 _ => 45
  | .s1 _ => 44
  | .t2 _ => 43
  | .r2 _ => 42
  | .a1 _ => 20
  | .le => 49
  | .la => 48
  | .cs => 7
  | .ud => 6
  | .u0 => 5
  | .uc old => if old = m then 1 else 12
  | .ux => 10
  | .us _ => 3
  | .ue => 2
theorem rk_le (m : Mu) (x : Lk) : rk m x ≤ 120 := by
  cases x <;> simp only [rk] <;> (try split) <;> omega
/-- ████ EVERY STEP LOWERS: the word turns and the potential falls, or all stands and the rank falls. ████ -/
theorem St.lower {x x' : Lk} {m m' : Mu} {s s' : Nat} (st : St x m s x' m' s') (hl : lok x) :
    q x' + 2 * s' + kap m' < q x + 2 * s + kap m ∨ (q x' + 2 * s' + kap m' = q x + 2 * s + kap m ∧ m' = m ∧ rk m x' < rk m x) := by
  cases st
  case r0 => right; unfold hd; split <;> simp [q, rk]
  case r1 aw sv it => right; simp only [lok] at hl; unfold hd; split <;> simp [q, rk] <;> omega
  case r3 => right; unfold hd; split <;> simp [q, rk] <;> omega
  case r2n => right; unfold hd; split <;> simp [q, rk]
  case sq0 => right; simp [q, rk]; (try split) <;> omega
  case c1y => left; simp only [lok] at hl; simp [q, kap, hl.2.2.1]
  case c2l => left; simp only [q, kap, nw]; (repeat' split) <;> omega
  case c2t => left; simp only [q, kap, nw]; (repeat' split) <;> omega
  case c2s => left; simp only [q, kap, nw]; (repeat' split) <;> omega
  case c1n h => right; simp only [lok] at hl; simp [q, rk, Ne.symm h]; omega
  case c2n h => right; simp [q, rk, Ne.symm h]
  case ucn h => right; simp [q, rk, Ne.symm h]
  case ucy => left; simp only [lok] at hl; simp [q, kap, hl.2.1]
  case l0y => left; simp [q, kap, Mu.free]
  case l0n => left; simp [q]
  case sq1 h h1 => right; simp [q, rk]; omega
  case sq2 h h1 h2 => right; simp [q, rk]
  case a1 => left; simp [q, kap]
  case u0f => left; simp [q, kap]
  case u0c => left; simp [q, kap]
  case u0s => left; simp [q, kap]
  case uxe => left; simp [q, kap]
  case uxc => right; simp [q, rk]
  case s1 => right; simp [q, rk]; omega
  case us => right; simp [q, rk]; omega
  all_goals (right; simp [q, rk])
end Go.Proofs.Ytpmmimcafkillaa.Mx

set_option linter.unusedVariables false
set_option linter.unusedSimpArgs false
namespace Go.Proofs.Ytpmmimcafkillaa.Mx
/-- where a worker stands in Done -/
inductive Dp where
  | wr | wk | d1 | d2 | d3 | d4
  deriving DecidableEq
/-- where a worker stands -/
inductive Th where
  | k1 (l : Lk)
  | mk (r : Nat)
  | af
  | k2 (l : Lk)
  | dn (d : Dp)
  | quit
  deriving DecidableEq
def lkOf : Th → Lk
  | .k1 l => l
  | .k2 l => l
  | .mk _ => .cs
  | _ => .out
/-- what is shared: the mutex, the group's count, its waiter, its semaphore, how often something was worked out -/
structure Shr where
  m : Mu
  s : Nat
  c : Nat
  wt : Nat
  ws : Nat
  often : Nat
/-- one step of a worker -/
inductive TSt : Th → Shr → Th → Shr → Prop where
  | lk1 {l l' sh m' s'} (h : St l sh.m sh.s l' m' s') (h1 : l ≠ .ue) (h2 : l ≠ .la) : TSt (.k1 l) sh (.k1 l') { sh with m := m', s := s' }
  | lka {r sh} (h : r ≤ 30) : TSt (.k1 .la) sh (.mk r) sh
  | mk {r sh} (h : r + 1 ≤ 30) : TSt (.mk (r + 1)) sh (.mk r) sh
  | mk0 {sh} : TSt (.mk 0) sh (.k1 .cs) sh
  | lk1o {sh} : TSt (.k1 .ue) sh .af sh
  | af {sh} : TSt .af sh (.k2 .ld) { sh with often := sh.often + 1 }
  | lk2 {l l' sh m' s'} (h : St l sh.m sh.s l' m' s') (h1 : l ≠ .ue) : TSt (.k2 l) sh (.k2 l') { sh with m := m', s := s' }
  | lk2o {sh} : TSt (.k2 .ue) sh (.dn .wr) sh
  | wr {sh} : TSt (.dn .wr) sh (.dn .wk) sh
  | wk {sh} : TSt (.dn .wk) sh (.dn .d1) sh
  | d1q {sh} (h : ¬ (sh.c = 1 ∧ sh.wt = 1)) : TSt (.dn .d1) sh .quit { sh with c := sh.c - 1 }
  | d1w {sh} (h : sh.c = 1) (h1 : sh.wt = 1) : TSt (.dn .d1) sh (.dn .d2) { sh with c := 0 }
  | d2 {sh} : TSt (.dn .d2) sh (.dn .d3) sh
  | d3 {sh} : TSt (.dn .d3) sh (.dn .d4) { sh with wt := 0 }
  | d4 {sh} : TSt (.dn .d4) sh .quit { sh with ws := sh.ws + 1 }
/-- where the starter stands; r: how many are still to be started -/
inductive Sp where
  | bx (r : Nat)
  | ad (r : Nat)
  | aa (r : Nat)
  | ae (r : Nat)
  | go (r : Nat)
  | kd
  | w1
  | w2 (old : Nat)
  | w3
  | w4
  | ke
  | aq
  | fin
  deriving DecidableEq
def nxt : Nat → Sp
  | 0 => .kd
  | r + 1 => .bx (r + 1)
/-- one step of the starter that starts none -/
inductive SSt : Sp → Shr → Sp → Shr → Prop where
  | bx {r sh} : SSt (.bx r) sh (.ad r) sh
  | ad {r sh} : SSt (.ad r) sh (.aa r) sh
  | aa {r sh} : SSt (.aa r) sh (.ae r) { sh with c := sh.c + 1 }
  | ae {r sh} : SSt (.ae r) sh (.go r) sh
  | kd {sh} : SSt .kd sh .w1 sh
  | w1z {sh} (h : sh.c = 0) : SSt .w1 sh .ke sh
  | w1n {sh} (h : sh.c ≠ 0) : SSt .w1 sh (.w2 sh.c) sh
  | w2y {sh} : SSt (.w2 sh.c) sh .w3 { sh with wt := 1 }
  | w2n {old sh} (h : sh.c ≠ old) : SSt (.w2 old) sh .w1 sh
  | w3 {sh} (h : sh.ws ≠ 0) : SSt .w3 sh .w4 { sh with ws := sh.ws - 1 }
  | w4 {sh} : SSt .w4 sh .ke sh
  | ke {sh} : SSt .ke sh .aq sh
  | aq {sh} : SSt .aq sh .fin sh
def sumf (f : Th → Nat) (l : List Th) : Nat := (l.map f).sum
theorem sumf_cons (f : Th → Nat) (x : Th) (l : List Th) : sumf f (x :: l) = f x + sumf f l := by simp [sumf]
theorem sumf_snoc (f : Th → Nat) (l : List Th) (x : Th) : sumf f (l ++ [x]) = sumf f l + f x := by simp [sumf]
theorem sumf_set (f : Th → Nat) (l : List Th) (i : Nat) (a b : Th) (h : l[i]? = some a) : sumf f (l.set i b) + f a = sumf f l + f b := by
  induction l generalizing i with
  | nil => simp at h
  | cons x l ih =>
    cases i with
    | zero =>
      have e : x = a := by simpa using h
      rw [List.set_cons_zero, sumf_cons, sumf_cons, e]
      omega
    | succ i =>
      have h' : l[i]? = some a := by simpa using h
      have := ih i h'
      rw [List.set_cons_succ, sumf_cons, sumf_cons]
      omega
theorem sumf_ge (f : Th → Nat) (l : List Th) (i : Nat) (a : Th) (h : l[i]? = some a) : f a ≤ sumf f l := by
  induction l generalizing i with
  | nil => simp at h
  | cons x l ih =>
    cases i with
    | zero =>
      have e : x = a := by simpa using h
      rw [sumf_cons, e]
      omega
    | succ i =>
      have h' : l[i]? = some a := by simpa using h
      have := ih i h'
      rw [sumf_cons]
      omega
/-- it has not yet been counted off -/
def live : Th → Nat
  | .k1 _ | .mk _ | .af | .k2 _ | .dn .wr | .dn .wk | .dn .d1 => 1
  | _ => 0
def n23 : Th → Nat
  | .dn .d2 | .dn .d3 => 1
  | _ => 0
def n4 : Th → Nat
  | .dn .d4 => 1
  | _ => 0
def pend : Sp → Nat
  | .ae _ | .go _ => 1
  | _ => 0
/-- ████ WHAT HOLDS. ████ -/
structure CI (sp : Sp) (ths : List Th) (sh : Shr) : Prop where
  inv : Inv (ths.map lkOf) sh.m sh.s
  cnt : sh.c = sumf live ths + pend sp
  none : sp ≠ .w3 → sh.wt = 0 ∧ sh.ws = 0 ∧ sumf n23 ths = 0 ∧ sumf n4 ths = 0
  wait : sp = .w3 → (sh.wt = 1 ∧ sh.ws = 0 ∧ sumf n4 ths = 0 ∧ ((1 ≤ sumf live ths ∧ sumf n23 ths = 0) ∨ (sumf live ths = 0 ∧ sumf n23 ths = 1))) ∨ (sh.wt = 0 ∧ sumf live ths = 0 ∧ sumf n23 ths = 0 ∧ sumf n4 ths + sh.ws = 1)
  done : (sp = .w4 ∨ sp = .ke ∨ sp = .aq ∨ sp = .fin) → sumf live ths = 0
  ue : ∀ x ∈ ths, x ≠ .k1 .out ∧ x ≠ .k2 .out
  w2p : ∀ old, sp = .w2 old → old ≠ 0
theorem map_set {ths : List Th} {i : Nat} {x : Th} : (ths.set i x).map lkOf = (ths.map lkOf).set i (lkOf x) := by rw [List.map_set]
theorem inv_same {l : List Lk} {m : Mu} {s i : Nat} {x : Lk} (h : Inv l m s) (hi : l[i]? = some x) : Inv (l.set i x) m s := by
  have : l.set i x = l := by
    apply List.ext_getElem?
    intro j
    rw [List.getElem?_set]
    split
    · rename_i e; subst e
      split
      · exact hi.symm
      · rename_i h'; rw [List.getElem?_eq_none (by omega)] at hi; cases hi
    · rfl
  rw [this]
  exact h
theorem lok_ld_out {x y : Lk} (hx : x = .out ∨ x = .ld ∨ x = .ue) (hy : y = .out ∨ y = .ld ∨ y = .ue) : owns x = owns y ∧ slp x = slp y ∧ awk x = awk y ∧ usf x = usf y ∧ ust x = ust y ∧ agx x = agx y ∧ a1p x = a1p y ∧ uwp x = uwp y := by
  rcases hx with rfl | rfl | rfl <;> rcases hy with rfl | rfl | rfl <;> exact ⟨rfl, rfl, rfl, rfl, rfl, rfl, rfl, rfl⟩
/-- one who is outside, or just comes or goes, may stand anywhere of these -/
theorem inv_idle {l : List Lk} {m : Mu} {s i : Nat} {x y : Lk} (h : Inv l m s) (hi : l[i]? = some x) (hx : x = .out ∨ x = .ld ∨ x = .ue) (hy : y = .out ∨ y = .ld ∨ y = .ue) : Inv (l.set i y) m s := by
  obtain ⟨a1, a2, a3, a4, a5, a6, a7, a8⟩ := lok_ld_out hx hy
  have hly : lok y := by rcases hy with rfl | rfl | rfl <;> trivial
  refine ⟨fun z hz => (List.mem_or_eq_of_mem_set hz).elim (h.loc z) (fun e => e ▸ hly), fun z hz e => ?_, ?_⟩
  · rcases List.mem_or_eq_of_mem_set hz with hz | rfl
    · exact h.a12 z hz e
    · rcases hy with rfl | rfl | rfl <;> cases e
  · have e : ∀ f, f x = f y → Mx.cnt f (l.set i y) = Mx.cnt f l := fun f hf => by have := cnt_set f l i x y hi; omega
    rw [e _ a1, e _ a2, e _ a3, e _ a4, e _ a5, e _ a6, e _ a7, e _ a8]
    exact h.num
theorem inv_snoc {l : List Lk} {m : Mu} {s : Nat} (h : Inv l m s) : Inv (l ++ [.ld]) m s := by
  refine ⟨fun z hz => ?_, fun z hz e => ?_, ?_⟩
  · rcases List.mem_append.1 hz with hz | hz
    · exact h.loc z hz
    · simp at hz; subst hz; trivial
  · rcases List.mem_append.1 hz with hz | hz
    · exact h.a12 z hz e
    · simp at hz; subst hz; cases e
  · have e : ∀ f, f Lk.ld = 0 → Mx.cnt f (l ++ [.ld]) = Mx.cnt f l := fun f hf => by simp [Mx.cnt, hf]
    rw [e _ rfl, e _ rfl, e _ rfl, e _ rfl, e _ rfl, e _ rfl, e _ rfl, e _ rfl]
    exact h.num
theorem st_out {l l' : Lk} {m m' : Mu} {s s' : Nat} (st : St l m s l' m' s') (h : l ≠ .ue) : l' ≠ .out := by
  cases st <;> first | exact absurd rfl h | (intro e; cases e; done) | (unfold hd; split <;> (intro e; cases e))
/-- ████ A WORKER's STEP KEEPS IT. ████ -/
theorem CI.worker {sp : Sp} {ths : List Th} {sh sh' : Shr} {i : Nat} {x x' : Th} (h : CI sp ths sh) (hi : ths[i]? = some x) (st : TSt x sh x' sh') : CI sp (ths.set i x') sh' := by
  have hm : (ths.map lkOf)[i]? = some (lkOf x) := by rw [List.getElem?_map, hi]; rfl
  have e1 := sumf_set live ths i x x' hi
  have e2 := sumf_set n23 ths i x x' hi
  have e3 := sumf_set n4 ths i x x' hi
  have g1 := sumf_ge live ths i x hi
  have g2 := sumf_ge n23 ths i x hi
  have g3 := sumf_ge n4 ths i x hi
  obtain ⟨hinv, hc, hn, hw, hd, hu, h2⟩ := h
  have ho : x' ≠ .k1 .out ∧ x' ≠ .k2 .out := by
    cases st
    case lk1 h1 h2 h => exact ⟨fun e => (by injection e with e; exact st_out (by assumption) (by assumption) e), fun e => (by cases e)⟩
    case lk2 h1 h => exact ⟨fun e => (by cases e), fun e => (by injection e with e; exact st_out (by assumption) (by assumption) e)⟩
    all_goals exact ⟨fun e => (by cases e), fun e => (by cases e)⟩
  have hu' : ∀ y ∈ ths.set i x', y ≠ .k1 .out ∧ y ≠ .k2 .out := fun y hy => (List.mem_or_eq_of_mem_set hy).elim (hu y) fun e => e ▸ ho
  have hinv' : Inv ((ths.set i x').map lkOf) sh'.m sh'.s := by
    rw [map_set]
    cases st
    case lk1 h1 h => exact hinv.step hm (by assumption)
    case lk2 h1 h => exact hinv.step hm (by assumption)
    case lka => exact hinv.step hm St.la
    case mk => exact inv_same hinv hm
    case mk0 => exact inv_same hinv hm
    case lk1o => exact inv_idle hinv hm (.inr (.inr rfl)) (.inl rfl)
    case af => exact inv_idle hinv hm (.inl rfl) (.inr (.inl rfl))
    case lk2o => exact inv_idle hinv hm (.inr (.inr rfl)) (.inl rfl)
    all_goals exact inv_idle hinv hm (.inl rfl) (.inl rfl)
  by_cases hsp : sp = .w3
  · have hw' := hw hsp
    have hp : pend sp = 0 := by rw [hsp]; rfl
    refine ⟨hinv', ?_, fun e => absurd hsp e, fun _ => ?_, fun e => ?_, hu', h2⟩
    · cases st <;> simp [live] at e1 g1 ⊢ <;> omega
    · cases st <;> simp [live, n23, n4] at e1 e2 e3 g1 g2 g3 ⊢ <;> omega
    · rw [hsp] at e; simp at e
  · obtain ⟨n1, n2, n3, n5⟩ := hn hsp
    refine ⟨hinv', ?_, fun _ => ?_, fun e => absurd e hsp, fun e => ?_, hu', h2⟩
    · cases st <;> simp [live] at e1 g1 ⊢ <;> omega
    · cases st <;> simp [live, n23, n4] at e1 e2 e3 g1 g2 g3 ⊢ <;> omega
    · have := hd e
      cases st <;> simp [live, n23, n4] at e1 e2 e3 g1 g2 g3 ⊢ <;> omega
/-- ████ THE STARTER's STEP KEEPS IT. ████ -/
theorem CI.starter {sp sp' : Sp} {ths : List Th} {sh sh' : Shr} (h : CI sp ths sh) (st : SSt sp sh sp' sh') : CI sp' ths sh' := by
  obtain ⟨hinv, hc, hn, hw, hd, hu, h2⟩ := h
  cases st
  case w3 hws =>
    rcases hw rfl with ⟨_, h0, _⟩ | ⟨h1, k2, h3, h4⟩
    · exact absurd h0 hws
    · refine ⟨hinv, ?_, fun _ => ?_, fun e => (by cases e), fun _ => k2, hu, fun _ e => (by cases e)⟩
      · simp [pend] at hc ⊢; omega
      · simp; omega
  case w2y =>
    obtain ⟨n1, n2, n3, n5⟩ := hn (by simp)
    have hc0 := h2 _ rfl
    refine ⟨hinv, by simp [pend] at hc ⊢; omega, fun e => absurd rfl e, fun _ => .inl ⟨rfl, n2, n5, .inl ⟨?_, n3⟩⟩, fun e => (by simp at e), hu, fun _ e => (by cases e)⟩
    simp [pend] at hc
    omega
  all_goals
    obtain ⟨n1, n2, n3, n5⟩ := hn (by simp)
    refine ⟨hinv, ?_, fun _ => ⟨n1, n2, n3, n5⟩, fun e => (by cases e), fun e => ?_, hu, fun _ e => ?_⟩
    · simp [pend] at hc ⊢; omega
    · first | (simp at e; done) | (simp [pend] at hc; omega) | (have := hd (by simp); omega)
    · first | (cases e; done) | (cases e; assumption)
end Go.Proofs.Ytpmmimcafkillaa.Mx

set_option linter.unusedVariables false
set_option linter.unusedSimpArgs false
namespace Go.Proofs.Ytpmmimcafkillaa.Mx
/-- ████ ONE MORE IS STARTED. ████ -/
theorem CI.spawn {r : Nat} {ths : List Th} {sh : Shr} (h : CI (.go (r + 1)) ths sh) : CI (nxt r) (ths ++ [.k1 .ld]) sh := by
  obtain ⟨hinv, hc, hn, hw, hd, hu, h2⟩ := h
  obtain ⟨n1, n2, n3, n5⟩ := hn (by simp)
  have hp : pend (nxt r) = 0 := by cases r <;> rfl
  refine ⟨?_, ?_, fun _ => ⟨n1, n2, ?_, ?_⟩, fun e => ?_, fun e => ?_, fun x hx => ?_, fun old e => ?_⟩
  · rw [List.map_append]; exact inv_snoc hinv
  · rw [sumf_snoc, hp]; simp [pend] at hc; simp [live]; omega
  · rw [sumf_snoc, n3]; rfl
  · rw [sumf_snoc, n5]; rfl
  · cases r <;> cases e
  · cases r <;> simp [nxt] at e
  · rcases List.mem_append.1 hx with hx | hx
    · exact hu x hx
    · simp at hx; subst hx; exact ⟨fun e => (by cases e), fun e => (by cases e)⟩
  · cases r <;> cases e
theorem sumf_zero {f : Th → Nat} {ths : List Th} (h : ∀ x ∈ ths, f x = 0) : sumf f ths = 0 := by
  induction ths with
  | nil => rfl
  | cons x l ih => rw [sumf_cons, h x (List.mem_cons_self ..), ih fun y hy => h y (List.mem_cons_of_mem _ hy)]
/-- it waits -/
def waitsW (x : Th) (sh : Shr) : Prop := (∃ sv, lkOf x = .s1 sv) ∧ sh.s = 0
/-- ████ SOMEBODY CAN GO ON. ████ -/
theorem CI.goes {ths : List Th} {sh : Shr} (h : CI .w3 ths sh) (hs : sh.ws = 0) : ∃ (i : Nat) (x : Th), ths[i]? = some x ∧ x ≠ .quit ∧ ¬ waitsW x sh := by
  apply Classical.byContradiction
  intro hno
  have hall : ∀ x ∈ ths, x = .quit ∨ waitsW x sh := fun x hx => by
    obtain ⟨i, hi⟩ := List.getElem?_of_mem hx
    apply Classical.byContradiction
    intro hc
    exact hno ⟨i, x, hi, fun e => hc (.inl e), fun e => hc (.inr e)⟩
  have hq : ∀ x ∈ ths, x = .quit := by
    by_cases h0 : sh.s = 0
    · have hinv := h.inv
      rw [h0] at hinv
      have := hinv.nobody fun y hy => by
        obtain ⟨x, hx, rfl⟩ := List.mem_map.1 hy
        rcases hall x hx with rfl | ⟨⟨sv, e⟩, _⟩
        · exact .inl rfl
        · exact .inr ⟨sv, e⟩
      intro x hx
      rcases hall x hx with e | ⟨⟨sv, e⟩, _⟩
      · exact e
      · have := this _ (List.mem_map.2 ⟨x, hx, rfl⟩)
        rw [e] at this
        cases this
    · intro x hx
      exact (hall x hx).elim id fun e => absurd e.2 h0
  have z1 : sumf live ths = 0 := sumf_zero fun x hx => by rw [hq x hx]; rfl
  have z2 : sumf n23 ths = 0 := sumf_zero fun x hx => by rw [hq x hx]; rfl
  have z3 : sumf n4 ths = 0 := sumf_zero fun x hx => by rw [hq x hx]; rfl
  have := h.wait rfl
  omega
/-- ████ BEHIND THE WAIT ALL HAVE QUIT. ████ -/
theorem CI.all {sp : Sp} {ths : List Th} {sh : Shr} (h : CI sp ths sh) (hsp : sp = .w4 ∨ sp = .ke ∨ sp = .aq ∨ sp = .fin) : ∀ x ∈ ths, x = .quit := by
  intro x hx
  obtain ⟨i, hi⟩ := List.getElem?_of_mem hx
  have h1 := h.done hsp
  obtain ⟨_, _, h2, h3⟩ := h.none (by rcases hsp with rfl | rfl | rfl | rfl <;> simp)
  have g1 := sumf_ge live ths i x hi
  have g2 := sumf_ge n23 ths i x hi
  have g3 := sumf_ge n4 ths i x hi
  cases x with
  | quit => rfl
  | k1 l => simp [live] at g1; omega
  | mk r => simp [live] at g1; omega
  | af => simp [live] at g1; omega
  | k2 l => simp [live] at g1; omega
  | dn d => cases d <;> simp [live, n23, n4] at g1 g2 g3 <;> omega
/-- behind the wait the mutex is free -/
theorem CI.free {sp : Sp} {ths : List Th} {sh : Shr} (h : CI sp ths sh) (hsp : sp = .w4 ∨ sp = .ke ∨ sp = .aq ∨ sp = .fin) : sh.m = Mu.free ∧ sh.s = 0 ∧ sh.c = 0 ∧ sh.wt = 0 ∧ sh.ws = 0 := by
  have hq := h.all hsp
  have z : ∀ f : Lk → Nat, f .out = 0 → Mx.cnt f (ths.map lkOf) = 0 := fun f hf => by
    have : ∀ k : List Th, (∀ x ∈ k, x = .quit) → Mx.cnt f (k.map lkOf) = 0 := by
      intro k
      induction k with
      | nil => intro _; rfl
      | cons x k ih =>
        intro hk
        rw [List.map_cons, cnt_cons, ih fun y hy => hk y (List.mem_cons_of_mem _ hy), hk x (List.mem_cons_self ..)]
        exact hf
    exact this ths hq
  have hn := h.inv.num
  rw [z owns rfl, z slp rfl, z awk rfl, z usf rfl, z ust rfl, z agx rfl, z a1p rfl, z uwp rfl] at hn
  have hL : sh.m.L = false := by
    cases e : sh.m.L with
    | false => rfl
    | true => have := hn.own; rw [e] at this; simp at this
  have hK : sh.m.K = false ∧ sh.m.S = false ∧ sh.m.W = 0 ∧ sh.s = 0 := by
    cases hk : sh.m.K with
    | true =>
      have a := hn.s1 hk
      have b := hn.k1 hk
      omega
    | false =>
      cases hs : sh.m.S with
      | true =>
        have a := hn.s2 hk hs hL
        exact absurd (show sh.m.W = 0 by omega) (hn.sw hs)
      | false =>
        have a := hn.s3 hk (.inl hs)
        have b := hn.k3 hk (.inl hs)
        exact ⟨rfl, rfl, by omega, by omega⟩
  obtain ⟨n1, n2, _, _⟩ := h.none (by rcases hsp with rfl | rfl | rfl | rfl <;> simp)
  have hc := h.cnt
  have hp : pend sp = 0 := by rcases hsp with rfl | rfl | rfl | rfl <;> rfl
  have hd := h.done hsp
  refine ⟨?_, hK.2.2.2, by omega, n1, n2⟩
  obtain ⟨k1, k2, k3, _⟩ := hK
  cases hm : sh.m
  rw [hm] at hL k1 k2 k3
  simp only at hL k1 k2 k3
  subst hL k1 k2 k3
  rfl
/-! the measure -/
def potT : Th → Nat
  | .k1 l => 20 + q l
  | .mk _ => 23
  | .af => 19
  | .k2 l => 8 + q l
  | .dn .wr => 7
  | .dn .wk => 6
  | .dn .d1 => 5
  | .dn .d2 => 4
  | .dn .d3 => 3
  | .dn .d4 => 2
  | .quit => 0
def rkT (m : Mu) : Th → Nat
  | .mk r => 8 + min r 30
  | .k1 l => rk m l
  | .k2 l => rk m l
  | _ => 0
def potS : Sp → Nat
  | .bx r => 50 * r + 9
  | .ad r => 50 * r + 8
  | .aa r => 50 * r + 7
  | .ae r => 50 * r + 6
  | .go r => 50 * r + 5
  | .kd => 12
  | .w1 => 10
  | .w2 _ => 10
  | .w3 => 8
  | .w4 => 7
  | .ke => 6
  | .aq => 5
  | .fin => 0
def rkS (c : Nat) : Sp → Nat
  | .w1 => 5
  | .w2 old => if old = c then 1 else 9
  | _ => 0
theorem TSt.lower {x x' : Th} {sh sh' : Shr} (st : TSt x sh x' sh') (hl : lok (lkOf x)) :
    potT x' + 2 * sh'.s + kap sh'.m < potT x + 2 * sh.s + kap sh.m ∨ (potT x' + 2 * sh'.s + kap sh'.m = potT x + 2 * sh.s + kap sh.m ∧ sh'.m = sh.m ∧ sh'.c = sh.c ∧ rkT sh.m x' < rkT sh.m x) := by
  cases st
  case lk1 h1 h =>
    rcases h.lower hl with h | ⟨h, h2, h3⟩
    · left; simp only [potT]; omega
    · right; simp only [potT]; exact ⟨by omega, h2, trivial, h3⟩
  case lk2 h1 h =>
    rcases h.lower hl with h | ⟨h, h2, h3⟩
    · left; simp only [potT]; omega
    · right; simp only [potT]; exact ⟨by omega, h2, trivial, h3⟩
  case lka => right; simp [potT, q, rkT, rk]; omega
  case mk => right; simp [potT, q, rkT]; omega
  case mk0 => right; simp [potT, q, rkT, rk]
  all_goals (left; simp [potT, q])
theorem SSt.lower {sp sp' : Sp} {sh sh' : Shr} (st : SSt sp sh sp' sh') : sh'.s = sh.s ∧ sh'.m = sh.m ∧ (potS sp' < potS sp ∨ (potS sp' = potS sp ∧ sh'.c = sh.c ∧ rkS sh.c sp' < rkS sh.c sp)) := by
  cases st
  case w2n h => exact ⟨rfl, rfl, .inr ⟨rfl, rfl, by simp [rkS, Ne.symm h]⟩⟩
  case w1n h => exact ⟨rfl, rfl, .inr ⟨rfl, rfl, by simp [rkS]⟩⟩
  all_goals exact ⟨rfl, rfl, .inl (by simp [potS])⟩
theorem spawn_lower (r : Nat) : potS (nxt r) + potT (.k1 .ld) < potS (.go (r + 1)) := by
  cases r <;> simp [nxt, potS, potT, q] <;> omega
/-- the measure of all: N: how many workers there are at most -/
def mes (N : Nat) (sp : Sp) (ths : List Th) (sh : Shr) : Nat := (potS sp + sumf potT ths + 2 * sh.s + kap sh.m) * (200 * (N + 1)) + (rkS sh.c sp + sumf (rkT sh.m) ths)
theorem rkT_le (m : Mu) (x : Th) : rkT m x ≤ 120 := by
  cases x <;> simp only [rkT] <;> first | omega | exact rk_le m _
theorem rk_sum (m : Mu) (ths : List Th) : sumf (rkT m) ths ≤ 120 * ths.length := by
  induction ths with
  | nil => exact Nat.le_refl _
  | cons x l ih =>
    rw [sumf_cons]
    have := rkT_le m x
    simp only [List.length_cons]
    omega
theorem rkS_le (c : Nat) (sp : Sp) : rkS c sp ≤ 9 := by
  cases sp <;> simp only [rkS] <;> (try split) <;> omega
theorem mes_lt {N : Nat} {sp sp' : Sp} {ths ths' : List Th} {sh sh' : Shr} (hN : ths'.length ≤ N) (h : potS sp' + sumf potT ths' + 2 * sh'.s + kap sh'.m < potS sp + sumf potT ths + 2 * sh.s + kap sh.m) : mes N sp' ths' sh' < mes N sp ths sh := by
  unfold mes
  have a := rk_sum sh'.m ths'
  have b := rkS_le sh'.c sp'
  have e : (potS sp' + sumf potT ths' + 2 * sh'.s + kap sh'.m + 1) * (200 * (N + 1)) ≤ (potS sp + sumf potT ths + 2 * sh.s + kap sh.m) * (200 * (N + 1)) := Nat.mul_le_mul_right _ h
  rw [Nat.succ_mul] at e
  omega
/-- ████ EVERY STEP LOWERS THE MEASURE. ████ -/
theorem mes_worker {N : Nat} {sp : Sp} {ths : List Th} {sh sh' : Shr} {i : Nat} {x x' : Th} (h : CI sp ths sh) (hN : ths.length ≤ N) (hi : ths[i]? = some x) (st : TSt x sh x' sh') : mes N sp (ths.set i x') sh' < mes N sp ths sh := by
  have hl : lok (lkOf x) := h.inv.loc _ (List.mem_map.2 ⟨x, List.mem_of_getElem? hi, rfl⟩)
  have e1 := sumf_set potT ths i x x' hi
  rcases st.lower hl with hlt | ⟨heq, hm, hc, hr⟩
  · exact mes_lt (by simpa using hN) (by omega)
  · have e2 := sumf_set (rkT sh.m) ths i x x' hi
    have hP : potS sp + sumf potT (ths.set i x') + 2 * sh'.s + kap sh'.m = potS sp + sumf potT ths + 2 * sh.s + kap sh.m := by omega
    unfold mes
    rw [hP, hm, hc]
    omega
theorem mes_starter {N : Nat} {sp sp' : Sp} {ths : List Th} {sh sh' : Shr} (hN : ths.length ≤ N) (st : SSt sp sh sp' sh') : mes N sp' ths sh' < mes N sp ths sh := by
  obtain ⟨hs, hm, h⟩ := st.lower
  rcases h with hlt | ⟨heq, hc, hr⟩
  · exact mes_lt hN (by rw [hs, hm]; omega)
  · unfold mes
    rw [heq, hs, hm, hc]
    omega
theorem mes_spawn {N r : Nat} {ths : List Th} {sh : Shr} (hN : ths.length < N) : mes N (nxt r) (ths ++ [.k1 .ld]) sh < mes N (.go (r + 1)) ths sh := by
  refine mes_lt (by simp; omega) ?_
  rw [sumf_snoc]
  have := spawn_lower r
  omega
end Go.Proofs.Ytpmmimcafkillaa.Mx
