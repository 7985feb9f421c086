/-
  A round's machine: how a stop of Lock and Unlock is shown. It names no program; no conditions.
  A region that draws its order, in company and with stops inside it: the orders, one operation at a time. It names no program; no conditions.
  A region that draws its order: one fuel for whatever order is drawn. It names no program; no conditions.
  A region that draws its order, in company: by what each operation leaves in its slot, whatever order is drawn. It names no program; no conditions.
-/
import Derived.Test.YtpmmimcafkillaaZTj
import Derived.Conc.MuWords
import Derived.Conc.CompanyMem
set_option linter.unusedVariables false
set_option linter.unusedSimpArgs false
namespace Go.Proofs.Ytpmmimcafkillaa.Tr
open Go Go.Conc Go.ConcN
open Go.ConcR (KK wgBlock WgAt stA smA rd wr mk DC0)
open Go.Proofs.Ytpmmimcafkillaa.Mx

/-- the first lock, the second -/
def kx (s : Bool) (l : Lk) : Th := if s = true then .k2 l else .k1 l
theorem kx_ne (s : Bool) (l : Lk) : kx s l ≠ .quit := by cases s <;> simp [kx]
theorem lkOf_kx (s : Bool) (l : Lk) : lkOf (kx s l) = l := by cases s <;> rfl
theorem deafT_kx (s : Bool) (l : Lk) : deafT (kx s l) = deafL l := by cases s <;> rfl
theorem dq_kx (s : Bool) (l : Lk) : dq (kx s l) = deafL l := by unfold dq; rw [if_neg (kx_ne s l)]; exact deafT_kx s l
theorem isMk_kx (s : Bool) (l : Lk) : isMk (kx s l) = false := by cases s <;> rfl
theorem mute_kx (s : Bool) (l : Lk) : muteT (kx s l) = false := by cases s <;> rfl
theorem kx_k1 {s : Bool} {l l' : Lk} (h : kx s l = .k1 l') : l = l' := by cases s <;> simp [kx] at h; exact h
theorem kx_k2 {s : Bool} {l l' : Lk} (h : kx s l = .k2 l') : l = l' := by cases s <;> simp [kx] at h; exact h
theorem addB_false (F : Nat → Prop) (b : Nat) : addB F false b = F := by funext f; simp [addB]

section
variable {P : Program} {main : Bool} {R : World → World → Prop} {D : World → World → Array Event → Prop} {Stop : Goroutine → World → Prop} {n m : Nat} {g : Goroutine} {w : World}
/-- steps that turn nothing and list nothing, then on -/
theorem goes_idle (hD : ∀ w, D w w #[]) (hr : ∀ w, R w w) (h : Goes P main R DC0 (fun g w => Goes P main R D Stop m g w) n g w) : Goes P main R D Stop (m + n) g w := by
  induction n generalizing g w with
  | zero => exact h w (hr w)
  | succ n ih =>
    rcases h with h | ⟨h0, h⟩
    · exact Goes.mono (h w (hr w)) (by omega)
    · exact .inr ⟨h0, fun w₁ r => by
        have := h w₁ r
        revert this
        cases stepG P main g w₁ <;> simp only [GStep.goes, imp_self]
        rintro ⟨⟨rfl, rfl⟩, k⟩
        exact ⟨hD _, ih k⟩⟩
theorem goes_dc0 (hD : ∀ w, D w w #[]) (h : Goes P main R DC0 Stop n g w) : Goes P main R D Stop n g w := by
  induction n generalizing g w with
  | zero => exact h
  | succ n ih =>
    rcases h with h | ⟨h0, h⟩
    · exact .inl h
    · exact .inr ⟨h0, fun w₁ r => by
        have := h w₁ r
        revert this
        cases stepG P main g w₁ <;> simp only [GStep.goes, imp_self]
        rintro ⟨⟨rfl, rfl⟩, k⟩
        exact ⟨hD _, ih k⟩⟩
end

section
variable {P : Program} {Y : Lay} {tL tW : TypeId} {Held : List Nat → World → Prop}
variable {Nx : Th → (Nat → Prop) → List Nat → Goroutine → World → Prop} {s : Bool} {k : Nat} {l : Lk} {F : Nat → Prop} {lg : List Nat} {g : Goroutine} {w : World}

theorem tst_kx {l' : Lk} {sh : Shr} {m' : Mu} {s' : Nat} (st : St l sh.m sh.s l' m' s') (h1 : l ≠ .ue) (h2 : l ≠ .la) : TSt (kx s l) sh (kx s l') { sh with m := m', s := s' } := by
  cases s
  · exact .lk1 st h1 h2
  · exact .lk2 st h1
theorem tok_kx {l' : Lk} {m m' : Mu} {x x' : Nat} (st : St l m x l' m' x') (h1 : l ≠ .ue) (h2 : l ≠ .la) : tokT (kx s l') = false := by
  cases s
  · exact lk_tok st h1 h2
  · exact lk_tok2 st h2
theorem evW_kx {x' : Th} {es : Array Event} (h1 : l ≠ .la) (h2 : l ≠ .cs) (h : Book Y.Lb (deafL l) (dq x') es) : EvW Y (kx s l) x' es := by
  cases s <;> cases l <;> first | exact absurd rfl h1 | exact absurd rfl h2 | exact h

theorem lkStop (hrun : g.status = .running) (hoff : g.offers = none) (hla : l ≠ .la) (hcs : l ≠ .cs) (hue : l ≠ .ue) (hs1 : ∀ sv, l ≠ .s1 sv) (hw : ∀ h, l = .us h → mayWake P g = true)
    (hall : ∀ sh, ShAt Y tL tW w sh → LocW (kx s l) sh → ∃ l' m' s' g' w' es, St l sh.m sh.s l' m' s' ∧ stepG P false g w = .go g' w' es ∧ LgAt Y tL w' m' s' sh.often ∧ w'.heap[Y.Wg]? = w.heap[Y.Wg]? ∧ Eff Y false w w' ∧ Book Y.Lb (deafL l) (deafL l') es ∧
      ∃ m, Goes P false (RF Y tL tW F false) DC0 (Nx (kx s l') F lg) m g' w') : WStp P Y tL tW Held Nx k (kx s l) F lg g w := by
  refine ⟨hrun, hoff, fun hwk => ?_, fun e => absurd (kx_k1 e) hcs, fun e => absurd (kx_k2 e) hcs, fun sh hsh hloc => ⟨fun hwt => ?_, fun _ l0 _ => ?_⟩⟩
  · rcases hwk with ⟨h, e⟩ | e
    · rw [lkOf_kx] at e; exact hw h e
    · cases s <;> cases e
  · obtain ⟨⟨sv, e⟩, _⟩ := hwt
    rw [lkOf_kx] at e
    exact absurd e (hs1 sv)
  · obtain ⟨l', m', s', g', w', es, st, hs, hlg, hwg, heff, hbk, m, hgo⟩ := hall sh hsh hloc
    refine ⟨_, _, g', w', es, tst_kx st hue hla, hs, ⟨hlg, hwg.trans hsh.2⟩, by rw [isMk_kx]; exact heff, evW_kx hla hcs (by rw [dq_kx]; exact hbk), ?_⟩
    unfold AfterW
    have hn : ¬ (kx s l = .k1 .la ∨ kx s l = .k2 .la) := fun e => e.elim (fun e => hla (kx_k1 e)) (fun e => hla (kx_k2 e))
    rw [if_neg (kx_ne s l'), isMk_kx, addB_false, if_neg hn, tok_kx st hue hla, mute_kx]
    exact ⟨m, goes_dc0 (fun w => .idle w) hgo⟩
/-- the semaphore -/
theorem s1Stop {sv : Bool} (hrun : g.status = .running) (hoff : g.offers = none)
    (hall : ∀ sh, ShAt Y tL tW w sh → LocW (kx s (.s1 sv)) sh → (sh.s = 0 → stepG P false g w = .go { g with status := .blocked } w #[]) ∧
      ∀ s', sh.s = s' + 1 → ∃ g' w' es, stepG P false g w = .go g' w' es ∧ LgAt Y tL w' sh.m s' sh.often ∧ w'.heap[Y.Wg]? = w.heap[Y.Wg]? ∧ Eff Y false w w' ∧ Book Y.Lb 1 1 es ∧
        ∃ m, Goes P false (RF Y tL tW F false) DC0 (Nx (kx s (.t2 sv)) F lg) m g' w') : WStp P Y tL tW Held Nx k (kx s (.s1 sv)) F lg g w := by
  refine ⟨hrun, hoff, fun hwk => ?_, fun e => (by have := kx_k1 e; cases this), fun e => (by have := kx_k2 e; cases this), fun sh hsh hloc => ⟨fun hwt => (hall sh hsh hloc).1 hwt.2, fun hnw l0 _ => ?_⟩⟩
  · rcases hwk with ⟨h, e⟩ | e
    · rw [lkOf_kx] at e; cases e
    · cases s <;> cases e
  · have hne : sh.s ≠ 0 := fun e => hnw ⟨⟨sv, lkOf_kx s _⟩, e⟩
    obtain ⟨s', es'⟩ : ∃ s', sh.s = s' + 1 := ⟨sh.s - 1, by omega⟩
    obtain ⟨g', w', es, hs, hlg, hwg, heff, hbk, m, hgo⟩ := (hall sh hsh hloc).2 s' es'
    have st : St (.s1 sv) sh.m sh.s (.t2 sv) sh.m s' := by rw [es']; exact .s1
    refine ⟨_, _, g', w', es, tst_kx st (by simp) (by simp), hs, ⟨hlg, hwg.trans hsh.2⟩, by rw [isMk_kx]; exact heff, evW_kx (by simp) (by simp) (by rw [dq_kx]; exact hbk), ?_⟩
    unfold AfterW
    have hn : ¬ (kx s (.s1 sv) = .k1 .la ∨ kx s (.s1 sv) = .k2 .la) := fun e => e.elim (fun e => by have := kx_k1 e; cases this) (fun e => by have := kx_k2 e; cases this)
    rw [if_neg (kx_ne s _), isMk_kx, addB_false, if_neg hn, tok_kx st (by simp) (by simp), mute_kx]
    exact ⟨m, goes_dc0 (fun w => .idle w) hgo⟩
end

/-! book-keeping -/
section
variable {B : Addr → Prop}
theorem book_nil (d : Nat) : Book B d d #[] := ⟨by simp, rfl, by simp⟩
theorem book_dis (d : Nat) : Book B d (d + 1) #[mk .disable] := ⟨by intro e he; simp at he; subst he; exact .inl rfl, rfl, fun j e he => .inl (by have := Array.mem_of_getElem? he; simp at this; subst this; rfl)⟩
theorem book_en (d : Nat) : Book B (d + 1) d #[mk .enable] := ⟨by intro e he; simp at he; subst he; exact .inr (.inl rfl), rfl, fun j e he => .inl (by have := Array.mem_of_getElem? he; simp at this; subst this; rfl)⟩
theorem book_one (d : Nat) (a : Addr) (x : Bool) (h : B a) : Book B (d + 1) (d + 1) #[⟨.cell a, x, true⟩] := by
  refine ⟨by intro e he; simp at he; subst he; exact .inr (.inr ⟨a, x, rfl, h⟩), rfl, fun j e he => ?_⟩
  match j, he with
  | 0, _ => exact .inr (by simp [deafBehind])
  | j + 1, he => simp at he
theorem book_rw (d : Nat) (a : Addr) (h : B a) : Book B (d + 1) (d + 1) #[⟨.cell a, false, true⟩, ⟨.cell a, true, true⟩] := by
  refine ⟨by intro e he; simp at he; rcases he with rfl | rfl <;> exact .inr (.inr ⟨a, _, rfl, h⟩), rfl, fun j e he => ?_⟩
  match j, he with
  | 0, _ => exact .inr (by simp [deafBehind])
  | 1, _ => exact .inr (by simp [deafBehind])
  | j + 2, he => simp at he
theorem book_sem (d : Nat) (a : Addr) (h : B a) : Book B (d + 1) (d + 1) (semEvents a) := by
  refine ⟨?_, by simp [deafBehind, semEvents], fun j e he => ?_⟩
  · intro e he
    simp [semEvents] at he
    rcases he with rfl | rfl | rfl | rfl
    · exact .inl rfl
    · exact .inr (.inr ⟨a, _, rfl, h⟩)
    · exact .inr (.inr ⟨a, _, rfl, h⟩)
    · exact .inr (.inl rfl)
  · match j, he with
    | 0, he => simp [semEvents] at he; subst he; exact .inl rfl
    | 1, _ => exact .inr (by simp [deafBehind, semEvents])
    | 2, _ => exact .inr (by simp [deafBehind, semEvents])
    | 3, he => simp [semEvents] at he; subst he; exact .inl rfl
    | j + 4, he => simp [semEvents] at he
end

/-! the ledger's cells -/
section
variable {Y : Lay} {tL tW : TypeId} {w : World} {m : Mu} {s o : Nat} {sh : Shr}
theorem LgAt.st (h : LgAt Y tL w m s o) : w.cell? ⟨Y.Lg, 0, none⟩ = some (.int .i32 m.val) := by unfold LgAt at h; simp [World.cell?, h]
theorem LgAt.sm (h : LgAt Y tL w m s o) : w.cell? ⟨Y.Lg, 1, none⟩ = some (.int .u32 s) := by unfold LgAt at h; simp [World.cell?, h]
theorem LgAt.mp (h : LgAt Y tL w m s o) : w.cell? ⟨Y.Lg, 2, none⟩ = some (.map (some Y.Mp)) := by unfold LgAt at h; simp [World.cell?, h]
theorem LgAt.oft (h : LgAt Y tL w m s o) : w.cell? ⟨Y.Lg, 3, none⟩ = some (.int .i64 o) := by unfold LgAt at h; simp [World.cell?, h]
theorem LgAt.thaw (h : LgAt Y tL w m s o) (off : Nat) : w.frozen? ⟨Y.Lg, off, none⟩ = false := by unfold LgAt at h; simp [World.frozen?, h]
theorem LgAt.setSt (h : LgAt Y tL w m s o) (m' : Mu) : LgAt Y tL (w.setCell ⟨Y.Lg, 0, none⟩ (.int .i32 m'.val)) m' s o := by
  unfold LgAt at h ⊢
  rw [setCell_eq_setRow w Y.Lg 0 _ tL (0, 0) _ h, setRow_heap w Y.Lg _ _ tL _ h]
  simp
theorem LgAt.setSm (h : LgAt Y tL w m s o) (s' : Nat) : LgAt Y tL (w.setCell ⟨Y.Lg, 1, none⟩ (.int .u32 s')) m s' o := by
  unfold LgAt at h ⊢
  rw [setCell_eq_setRow w Y.Lg 1 _ tL (0, 0) _ h, setRow_heap w Y.Lg _ _ tL _ h]
  simp
theorem LgAt.setOft (h : LgAt Y tL w m s o) (o' : Nat) : LgAt Y tL (w.setCell ⟨Y.Lg, 3, none⟩ (.int .i64 o')) m s o' := by
  unfold LgAt at h ⊢
  rw [setCell_eq_setRow w Y.Lg 3 _ tL (0, 0) _ h, setRow_heap w Y.Lg _ _ tL _ h]
  simp
theorem eff_refl (w : World) : Eff Y false w w := ⟨rfl, rfl, .refl _, rfl, fun _ _ _ _ => rfl⟩
theorem eff_later (w : World) : Eff Y false w w.later := ⟨rfl, rfl, ⟨w.tick, rfl⟩, rfl, fun _ _ _ _ => rfl⟩
theorem eff_asked (w : World) : Eff Y false w w.asked := ⟨rfl, rfl, .refl _, rfl, fun _ _ _ _ => rfl⟩
theorem eff_set (a : Addr) (v : Value) (h : a.block = Y.Lg ∨ a.block = Y.Wg) : Eff Y false w (w.setCell a v) :=
  have A := aside_setCell w a v
  ⟨A.tape, A.output, by rw [A.os]; exact .refl _, by simp, fun k _ h1 h2 => A.block k (by rcases h with h | h <;> rw [h] <;> assumption)⟩
theorem wg_set (a : Addr) (v : Value) (h : a.block = Y.Lg) : (w.setCell a v).heap[Y.Wg]? = w.heap[Y.Wg]? := (aside_setCell w a v).block _ (by rw [h]; exact Y.lw.symm)
theorem lb (off : Nat) (h : off ≠ 2) : Y.Lb ⟨Y.Lg, off, none⟩ := ⟨rfl, h⟩
end

/-- what a goroutine knows, of its own choice; it stands whatever the others do -/
structure KnL (Y : Lay) (tL tW : TypeId) (F : Nat → Prop) (Kn : World → Prop) : Prop where
  rl : ∀ {w w₁ : World}, Kn w → RF Y tL tW F false w w₁ → Kn w₁
  live : ∀ {w : World}, Kn w → Live Y tL tW w
  low : ∀ {w : World}, Kn w → Y.N ≤ w.heap.size ∧ ∀ f, F f → Y.N ≤ f ∧ f < w.heap.size
section
variable {Y : Lay} {tL tW : TypeId} {F : Nat → Prop} {Kn : World → Prop} {w w₁ : World} {sh : Shr} {own : Bool}
theorem RF.weak (h : RF Y tL tW F own w w₁) : RF Y tL tW F false w w₁ := ⟨h.tape, h.output, h.os, h.size, h.low, h.mine, fun e => (by cases e), h.live⟩
theorem KnL.rl' (K : KnL Y tL tW F Kn) (h : Kn w) (r : RF Y tL tW F own w w₁) : Kn w₁ := K.rl h r.weak
theorem KnL.eff (K : KnL Y tL tW F Kn) (h : Kn w) (e : Eff Y false w w₁) (hs : ShAt Y tL tW w₁ sh) : Kn w₁ := K.rl h (rf_of_eff e (K.low h).2 (K.low h).1 hs)
end
end Go.Proofs.Ytpmmimcafkillaa.Tr

set_option linter.unusedVariables false
set_option linter.unusedSimpArgs false
namespace Go.Proofs.Ytpmmimcafkillaa.Tr
open Go Go.Conc Go.ConcN

/-- an order of the operations that have not come up: each where it may -/
inductive Ord (md : Region.Mode) (ops : Array Oper) : Array Bool → List Nat → Prop where
  | nil {l} (h : Region.ready md ops l = []) : Ord md ops l []
  | cons {l i rest} (h : i ∈ Region.ready md ops l) (k : Ord md ops (l.setIfInBounds i true) rest) : Ord md ops l (i :: rest)
/-- how many have not come up -/
def left (n : Nat) (l : Array Bool) : Nat := ((List.range n).filter fun i => !l.getD i true).length
theorem left_set {n : Nat} {l : Array Bool} {i : Nat} (hi : i < n) (h : l.getD i true = false) : left n (l.setIfInBounds i true) < left n l := by
  unfold left
  have hsz : i < l.size := by
    rcases Nat.lt_or_ge i l.size with h' | h'
    · exact h'
    · simp [Array.getD, Nat.not_lt.2 h'] at h
  have key : (List.range n).filter (fun j => !(l.setIfInBounds i true).getD j true) = ((List.range n).filter fun j => !l.getD j true).filter (fun j => decide (j ≠ i)) := by
    rw [List.filter_filter]
    congr 1
    funext j
    by_cases e : j = i
    · subst e
      simp [Array.getD, hsz]
    · simp only [Array.getD, Array.size_setIfInBounds, ne_eq, e, not_false_eq_true, decide_true, Bool.true_and]
      by_cases hj : j < l.size
      · simp [hj, Array.getElem_setIfInBounds, Ne.symm e]
      · simp [hj]
  rw [key]
  have hm : i ∈ (List.range n).filter fun j => !l.getD j true := List.mem_filter.2 ⟨List.mem_range.2 hi, by simp [h]⟩
  exact List.length_filter_lt_length_iff_exists.2 ⟨i, hm, by simp⟩
theorem ready_lt {md : Region.Mode} {ops : Array Oper} {l : Array Bool} {i : Nat} (h : i ∈ Region.ready md ops l) :
    i < ops.size ∧ l.getD i true = false ∧ ∃ o, ops[i]? = some o ∧ ∀ e ∈ o.after, Region.binds md e = true → l.getD e.on false = true := by
  unfold Region.ready at h
  obtain ⟨h1, h2⟩ := List.mem_filter.1 h
  simp only [Bool.and_eq_true, Bool.not_eq_true'] at h2
  obtain ⟨h2, h3⟩ := h2
  refine ⟨List.mem_range.1 h1, h2, ?_⟩
  rcases ho : ops[i]? with _ | o
  · rw [ho] at h3; cases h3
  · rw [ho] at h3
    simp only [Option.map_some, Option.getD_some, Array.all_eq_true, Bool.or_eq_true, Bool.not_eq_true'] at h3
    refine ⟨o, rfl, fun e he hb => ?_⟩
    obtain ⟨j, hj, rfl⟩ := Array.mem_iff_getElem.1 he
    rcases h3 j hj with h | h
    · rw [hb] at h; cases h
    · exact h
/-- ████ WHATEVER IS DRAWN IS SUCH AN ORDER ████ -/
theorem ord_go (md : Region.Mode) (ops : Array Oper) : ∀ (fuel t : Nat) (l : Array Bool), left ops.size l ≤ fuel → Ord md ops l (Region.linearise.go md ops fuel t l []) := by
  intro fuel
  induction fuel with
  | zero =>
    intro t l h
    simp only [Region.linearise.go, List.reverse_nil]
    refine .nil ?_
    rcases hr : Region.ready md ops l with _ | ⟨x, xs⟩
    · rfl
    · have hx := ready_lt (md := md) (ops := ops) (l := l) (i := x) (by rw [hr]; simp)
      have := left_set hx.1 hx.2.1
      omega
  | succ fuel ih =>
    intro t l h
    simp only [Region.linearise.go]
    change Ord md ops l (match (Region.ready md ops l)[t % (Region.ready md ops l).length]? with
      | some i => Region.linearise.go md ops fuel (t / (Region.ready md ops l).length) (l.setIfInBounds i true) [i]
      | none => [].reverse)
    cases hi : (Region.ready md ops l)[t % (Region.ready md ops l).length]? with
    | none =>
      refine .nil ?_
      cases hr : Region.ready md ops l with
      | nil => rfl
      | cons x xs =>
        rw [hr] at hi
        have hlt : t % (x :: xs).length < (x :: xs).length := Nat.mod_lt _ (by simp)
        simp at hi
        simp at hlt
        omega
    | some i =>
      simp only []
      rw [linearise_go_acc, List.reverse_singleton, List.singleton_append]
      have hm := List.mem_of_getElem? hi
      have hx := ready_lt hm
      have := left_set hx.1 hx.2.1
      exact .cons hm (ih _ _ (by omega))
theorem ord_lin (md : Region.Mode) (ops : Array Oper) (t : Nat) : Ord md ops (Array.replicate ops.size false) (Region.linearise md ops t) := by
  refine ord_go md ops _ _ _ ?_
  unfold left
  exact Nat.le_trans (List.length_filter_le _ _) (by simp)
end Go.Proofs.Ytpmmimcafkillaa.Tr

set_option linter.unusedVariables false
set_option linter.unusedSimpArgs false
namespace Go.Proofs.Ytpmmimcafkillaa.Tr
open Go Go.Conc Go.ConcN

theorem range_bound (g : Nat → Nat) : ∀ B, ∃ M, ∀ x, x < B → g x ≤ M
  | 0 => ⟨0, fun x h => (by omega)⟩
  | B + 1 => by
    obtain ⟨M, h⟩ := range_bound g B
    refine ⟨M + g B, fun x hx => ?_⟩
    rcases Nat.lt_or_ge x B with h' | h'
    · have := h x h'; omega
    · obtain rfl : x = B := by omega
      omega
theorem lists_bound (B : Nat) : ∀ (n : Nat) (f : List Nat → Nat), ∃ M, ∀ l : List Nat, l.length ≤ n → (∀ x ∈ l, x < B) → f l ≤ M
  | 0, f => ⟨f [], fun l h _ => by
      obtain rfl : l = [] := List.length_eq_zero_iff.1 (by omega)
      exact Nat.le_refl _⟩
  | n + 1, f => by
    have hx := fun x => lists_bound B n (fun l => f (x :: l))
    obtain ⟨M, hM⟩ := range_bound (fun x => Classical.choose (hx x)) B
    refine ⟨M + f [], fun l hl hb => ?_⟩
    cases l with
    | nil => omega
    | cons x l =>
      have h1 := Classical.choose_spec (hx x) l (by simpa using hl) (fun y hy => hb y (List.mem_cons_of_mem _ hy))
      have h2 := hM x (hb x (List.mem_cons_self ..))
      exact Nat.le_trans h1 (by have : Classical.choose (hx x) ≤ M := h2; omega)
theorem ord_props {md : Region.Mode} {ops : Array Oper} {l : Array Bool} {ord : List Nat} (h : Ord md ops l ord) : (∀ x ∈ ord, x < ops.size) ∧ ord.length ≤ left ops.size l := by
  induction h with
  | nil _ => exact ⟨by simp, by simp⟩
  | cons hr _ ih =>
    have hx := ready_lt hr
    have := left_set hx.1 hx.2.1
    refine ⟨fun x hx' => ?_, by rw [List.length_cons]; omega⟩
    rcases List.mem_cons.1 hx' with rfl | h
    · exact hx.1
    · exact ih.1 x h
section
variable {P : Program} {main : Bool} {R : World → World → Prop} {D : World → World → Array Event → Prop} {Stop : Goroutine → World → Prop} {Kn : World → Prop}
/-- ████ WHATEVER ORDER IS DRAWN ████ -/
theorem goes_drawn {b : Frame} {a : Act} {kk : List Item} {cs : List Frame} {id : Nat} {ops : Array Oper} (hm : P.follows .mixedOrders = true) (hb : (G (b.at a (.code (.region id ops true) :: kk)) cs).status = .running)
    (hd : ∀ w : World, D w { w with drawn := w.drawn + 1 } #[]) (hK : ∀ {w w₁}, Kn w → R w w₁ → Kn w₁) (hKd : ∀ {w : World}, Kn w → Kn { w with drawn := w.drawn + 1 })
    (h : ∀ ord, Ord .any ops (Array.replicate ops.size false) ord → ∃ m, ∀ w, Kn w → Goes P main R D Stop m (G (b.at a (.inRegion ops ord :: kk)) cs) w) :
    ∃ m, ∀ w, Kn w → Goes P main R D Stop m (G (b.at a (.code (.region id ops true) :: kk)) cs) w := by
  classical
  obtain ⟨M, hM⟩ := lists_bound ops.size (left ops.size (Array.replicate ops.size false)) (fun ord => if h' : Ord .any ops (Array.replicate ops.size false) ord then Classical.choose (h ord h') else 0)
  refine ⟨M + 1, fun w hw => Goes.step rfl fun w₁ h₁ => ?_⟩
  rw [stepG_region_draw]
  refine ⟨hd _, ?_⟩
  simp only [Region.schedule, hm, Bool.true_or, if_true]
  have ho := ord_lin .any ops (w₁.tape w₁.drawn (.order b.fn id))
  have hp := ord_props ho
  have hb := hM _ hp.2 hp.1
  simp only [dif_pos ho] at hb
  exact Goes.mono (Classical.choose_spec (h _ ho) _ (hKd (hK hw h₁))) hb
end
end Go.Proofs.Ytpmmimcafkillaa.Tr

set_option linter.unusedVariables false
set_option linter.unusedSimpArgs false
namespace Go.Proofs.Ytpmmimcafkillaa.Tr
open Go Go.Conc Go.ConcN
/-- what stands in the frame where l says what has come up -/
structure Dr (ops : Array Oper) (val : Nat → Value) (a0 : Act) (l : Array Bool) (a : Act) : Prop where
  defs : a.defers = a0.defers
  size : a.tmps.size = a0.tmps.size
  lsz : l.size = ops.size
  got : ∀ (i s : Nat), l[i]?.getD false = true → (ops[i]?).bind (·.dst) = some s → a.tmps[s]? = some (val i)
  rest : ∀ s, (∀ i : Nat, i < ops.size → (ops[i]?).bind (·.dst) ≠ some s) → a.tmps[s]? = a0.tmps[s]?
  wait : ∀ s, (∀ i : Nat, l[i]?.getD false = true → (ops[i]?).bind (·.dst) ≠ some s) → a.tmps[s]? = a0.tmps[s]?
/-- each has a slot of its own, and waits for what is ahead of it in the text alone -/
def okDr (ops : Array Oper) (n : Nat) : Bool := (List.range ops.size).all fun i => match ops[i]? with
  | none => false
  | some o => (match o.dst with
    | none => false
    | some s => decide (s < n) && (List.range ops.size).all fun j => j == i || (match ops[j]? with | none => true | some o' => o'.dst != some s)) && o.after.all fun e => decide (e.on < i)
theorem okDr_at {ops : Array Oper} {n i : Nat} (h : okDr ops n = true) (hi : i < ops.size) : ∃ o s, ops[i]? = some o ∧ o.dst = some s ∧ s < n ∧ (∀ j, j < ops.size → j ≠ i → (ops[j]?).bind (·.dst) ≠ some s) ∧ ∀ e ∈ o.after, e.on < i := by
  have h1 := List.all_eq_true.1 h i (List.mem_range.2 hi)
  rcases ho : ops[i]? with _ | o
  · rw [ho] at h1; cases h1
  rw [ho] at h1
  simp only [Bool.and_eq_true] at h1
  obtain ⟨h1, h2⟩ := h1
  rcases hs : o.dst with _ | s
  · rw [hs] at h1; cases h1
  rw [hs] at h1
  simp only [Bool.and_eq_true, decide_eq_true_eq, List.all_eq_true, List.mem_range, Bool.or_eq_true, beq_iff_eq] at h1
  refine ⟨o, s, rfl, hs, h1.1, fun j hj hne e => ?_, fun e he => ?_⟩
  · rcases h1.2 j hj with h | h
    · exact hne h
    · rcases hoj : ops[j]? with _ | o'
      · rw [hoj] at e; cases e
      · rw [hoj] at e h
        have e' : o'.dst = some s := e
        simp [e'] at h
  · obtain ⟨k, hk, rfl⟩ := Array.mem_iff_getElem.1 he
    simpa using (Array.all_eq_true.1 h2) k hk
section
variable {ops : Array Oper} {val : Nat → Value} {a0 a : Act} {l : Array Bool}
theorem Dr.begin (ops : Array Oper) (val : Nat → Value) (a0 : Act) : Dr ops val a0 (Array.replicate ops.size false) a0 :=
  ⟨rfl, rfl, by simp, fun i s h _ => by
    exfalso
    rcases Nat.lt_or_ge i ops.size with h' | h'
    · simp [h'] at h
    · simp [Nat.not_lt.2 h'] at h, fun _ _ => rfl, fun _ _ => rfl⟩
theorem Dr.put (h : Dr ops val a0 l a) (hok : okDr ops a0.tmps.size = true) {i : Nat} (hi : i < ops.size) : Dr ops val a0 (l.setIfInBounds i true) (a.put ((ops[i]?).bind (·.dst)) (val i)) := by
  obtain ⟨o, s, ho, hs, hsn, hne, _⟩ := okDr_at hok hi
  have hd : (ops[i]?).bind (·.dst) = some s := by rw [ho]; exact hs
  have hlt : i < l.size := by rw [h.lsz]; exact hi
  have hput : a.put ((ops[i]?).bind (·.dst)) (val i) = { a with tmps := a.tmps.setIfInBounds s (val i) } := by rw [hd]; rfl
  have hset : ∀ j, (l.setIfInBounds i true)[j]?.getD false = true → j = i ∨ (j ≠ i ∧ l[j]?.getD false = true) := fun j hl => by
    by_cases e : j = i
    · exact .inl e
    · rw [Array.getElem?_setIfInBounds_ne (Ne.symm e)] at hl; exact .inr ⟨e, hl⟩
  rw [hput]
  refine ⟨h.defs, by simp [h.size], by simp [h.lsz], fun j s' hl hj => ?_, fun s' hno => ?_, fun s' hno => ?_⟩
  · rcases hset j hl with rfl | ⟨e, hl⟩
    · obtain rfl : s = s' := Option.some.inj (hd.symm.trans hj)
      show (a.tmps.setIfInBounds s (val j))[s]? = _
      rw [Array.getElem?_setIfInBounds_self_of_lt (by rw [h.size]; exact hsn)]
    · have hj' : j < ops.size := by
        rcases Nat.lt_or_ge j ops.size with h' | h'
        · exact h'
        · simp [Array.getElem?_eq_none h'] at hj
      have : s' ≠ s := fun e' => hne j hj' e (by rw [hj, e'])
      show (a.tmps.setIfInBounds s (val i))[s']? = _
      rw [Array.getElem?_setIfInBounds_ne this.symm]
      exact h.got j s' hl hj
  · have : s' ≠ s := fun e' => hno i hi (by rw [hd, e'])
    show (a.tmps.setIfInBounds s (val i))[s']? = _
    rw [Array.getElem?_setIfInBounds_ne this.symm]
    exact h.rest s' hno
  · have hs' : s' ≠ s := fun e' => hno i (by simp [hlt]) (by rw [hd, e'])
    show (a.tmps.setIfInBounds s (val i))[s']? = _
    rw [Array.getElem?_setIfInBounds_ne hs'.symm]
    refine h.wait s' fun j hl => ?_
    by_cases e : j = i
    · subst e; rw [hd]; exact fun e' => hs' (Option.some.inj e').symm
    · exact hno j (by rw [Array.getElem?_setIfInBounds_ne (Ne.symm e)]; exact hl)
/-- an operation's slot, behind it -/
theorem Dr.ev (h : Dr ops val a0 l a) (i s : Nat) (hd : (ops[i]?).bind (·.dst) = some s) (hl : l[i]?.getD false = true) : a.eval (.tmp s) = val i := by
  have := h.got i s hl hd
  simp only [Act.eval, Array.getD_eq_getD_getElem?, this, Option.getD_some]
/-- no operation's slot -/
def noDst (ops : Array Oper) (s : Nat) : Bool := (List.range ops.size).all fun i => match (ops[i]?).bind (·.dst) with
  | some s' => s' != s
  | none => true
theorem Dr.ev0 (h : Dr ops val a0 l a) (s : Nat) (hn : noDst ops s = true) : a.eval (.tmp s) = a0.eval (.tmp s) := by
  have := h.rest s fun i hi e => by
    have h1 := List.all_eq_true.1 hn i (List.mem_range.2 hi)
    rw [e] at h1
    simp at h1
  simp only [Act.eval, Array.getD_eq_getD_getElem?, this]
/-- the frame behind them all -/
def finA (ops : Array Oper) (val : Nat → Value) (a0 : Act) : Act := (List.range ops.size).foldl (fun a i => a.put ((ops[i]?).bind (·.dst)) (val i)) a0
theorem Dr.foldl (hok : okDr ops a0.tmps.size = true) : ∀ (js : List Nat) (l : Array Bool) (a : Act), (∀ j ∈ js, j < ops.size) → Dr ops val a0 l a → Dr ops val a0 (js.foldl (fun l j => l.setIfInBounds j true) l) (js.foldl (fun a i => a.put ((ops[i]?).bind (·.dst)) (val i)) a)
  | [], l, a, _, h => h
  | j :: js, l, a, hj, h => Dr.foldl hok js _ _ (fun x hx => hj x (List.mem_cons_of_mem _ hx)) (h.put hok (hj j (List.mem_cons_self ..)))
theorem fold_true (js : List Nat) : ∀ (l : Array Bool) (i : Nat), i < l.size → (i ∈ js ∨ l[i]?.getD false = true) → (js.foldl (fun l j => l.setIfInBounds j true) l)[i]?.getD false = true := by
  induction js with
  | nil => intro l i _ h; simpa using h
  | cons j js ih =>
    intro l i hi h
    refine ih _ i (by simpa using hi) ?_
    by_cases e : j = i
    · subst e; right; simp [hi]
    · rcases h with h | h
      · rcases List.mem_cons.1 h with h | h
        · exact absurd h.symm e
        · exact .inl h
      · right; rw [Array.getElem?_setIfInBounds_ne e]; exact h
/-- where all have come up the frame is that one -/
theorem Dr.all (hok : okDr ops a0.tmps.size = true) (h : Dr ops val a0 l a) (hl : ∀ i, i < ops.size → l[i]?.getD false = true) : a = finA ops val a0 := by
  have hf : Dr ops val a0 _ (finA ops val a0) := Dr.foldl hok (List.range ops.size) _ _ (fun j hj => List.mem_range.1 hj) (.begin ops val a0)
  have hlf : ∀ i, i < ops.size → ((List.range ops.size).foldl (fun l j => l.setIfInBounds j true) (Array.replicate ops.size false))[i]?.getD false = true := fun i hi => fold_true _ _ i (by simpa using hi) (.inl (List.mem_range.2 hi))
  have ht : a.tmps = (finA ops val a0).tmps := by
    apply Array.ext_getElem?
    intro s
    by_cases hs : ∃ i, i < ops.size ∧ (ops[i]?).bind (·.dst) = some s
    · obtain ⟨i, hi, hd⟩ := hs
      rw [h.got i s (hl i hi) hd, hf.got i s (hlf i hi) hd]
    · have hno : ∀ i, i < ops.size → (ops[i]?).bind (·.dst) ≠ some s := fun i hi hd => hs ⟨i, hi, hd⟩
      rw [h.rest s hno, hf.rest s hno]
  have hd : a.defers = (finA ops val a0).defers := h.defs.trans hf.defs.symm
  cases a
  cases hfa : finA ops val a0
  rw [hfa] at ht hd
  simp at ht hd
  rw [ht, hd]
theorem ready_nil (hok : okDr ops a0.tmps.size = true) (hsz : l.size = ops.size) (h : Region.ready .any ops l = []) : ∀ i, i < ops.size → l[i]?.getD false = true := by
  intro i
  induction i using Nat.strongRecOn with
  | _ i ih =>
    intro hi
    obtain ⟨o, s, ho, _, _, _, he⟩ := okDr_at hok hi
    apply Classical.byContradiction
    intro hn
    have hlt : i < l.size := by rw [hsz]; exact hi
    have hm : i ∈ Region.ready .any ops l := by
      unfold Region.ready
      refine List.mem_filter.2 ⟨List.mem_range.2 hi, ?_⟩
      simp only [ho, Option.map_some, Option.getD_some, Bool.and_eq_true, Bool.not_eq_true', Array.all_eq_true, Bool.or_eq_true]
      refine ⟨?_, fun k hk => .inr ?_⟩
      · simp [hlt] at hn
        simp [Array.getD, hlt, hn]
      · have hlt2 := he _ (Array.getElem_mem hk)
        have := ih _ hlt2 (by omega)
        simpa [Array.getD_eq_getD_getElem?] using this
    rw [h] at hm
    cases hm
end
section
variable {P : Program} {main : Bool} {R : World → World → Prop} {D : World → World → Array Event → Prop} {Stop : Goroutine → World → Prop} {Kn : World → Prop}
/-- ████ WHATEVER ORDER IS DRAWN: by what each operation leaves ████ -/
theorem drawn_ord {b : Frame} {kk : List Item} {cs : List Frame} {ops : Array Oper} (val : Nat → Value) (a0 : Act) (hok : okDr ops a0.tmps.size = true)
    (hop : ∀ i l a, i < ops.size → (∀ o, ops[i]? = some o → ∀ e ∈ o.after, Region.binds .any e = true → l[e.on]?.getD false = true) → Dr ops val a0 l a →
      ∀ rest m, (∀ w, Kn w → Goes P main R D Stop m (G (b.at (a.put ((ops[i]?).bind (·.dst)) (val i)) (.inRegion ops rest :: kk)) cs) w) → ∃ m', ∀ w, Kn w → Goes P main R D Stop m' (G (b.at a (.inRegion ops (i :: rest) :: kk)) cs) w)
    (hend : ∃ m, ∀ w, Kn w → Goes P main R D Stop m (G (b.at (finA ops val a0) (.inRegion ops [] :: kk)) cs) w) :
    ∀ (ord : List Nat) (l : Array Bool) (a : Act), Ord .any ops l ord → Dr ops val a0 l a → ∃ m, ∀ w, Kn w → Goes P main R D Stop m (G (b.at a (.inRegion ops ord :: kk)) cs) w := by
  intro ord
  induction ord with
  | nil =>
    intro l a hO hD
    cases hO with
    | nil h =>
      rw [hD.all hok (ready_nil hok hD.lsz h)]
      exact hend
  | cons i rest ih =>
    intro l a hO hD
    cases hO with
    | cons hr hO =>
      obtain ⟨hi, _, o, ho, he⟩ := ready_lt hr
      obtain ⟨m, hm⟩ := ih _ _ hO (hD.put hok hi)
      refine hop i l a hi (fun o' ho' e hm' hb => ?_) hD rest m hm
      obtain rfl : o = o' := Option.some.inj (ho.symm.trans ho')
      have := he e hm' hb
      simpa [Array.getD_eq_getD_getElem?] using this
theorem drawn_all {b : Frame} {kk : List Item} {cs : List Frame} {id : Nat} {ops : Array Oper} (val : Nat → Value) (a0 : Act) (hok : okDr ops a0.tmps.size = true) (hm : P.follows .mixedOrders = true)
    (hd : ∀ w : World, D w { w with drawn := w.drawn + 1 } #[]) (hK : ∀ {w w₁}, Kn w → R w w₁ → Kn w₁) (hKd : ∀ {w : World}, Kn w → Kn { w with drawn := w.drawn + 1 })
    (hop : ∀ i l a, i < ops.size → (∀ o, ops[i]? = some o → ∀ e ∈ o.after, Region.binds .any e = true → l[e.on]?.getD false = true) → Dr ops val a0 l a →
      ∀ rest m, (∀ w, Kn w → Goes P main R D Stop m (G (b.at (a.put ((ops[i]?).bind (·.dst)) (val i)) (.inRegion ops rest :: kk)) cs) w) → ∃ m', ∀ w, Kn w → Goes P main R D Stop m' (G (b.at a (.inRegion ops (i :: rest) :: kk)) cs) w)
    (hend : ∃ m, ∀ w, Kn w → Goes P main R D Stop m (G (b.at (finA ops val a0) (.inRegion ops [] :: kk)) cs) w) :
    ∃ m, ∀ w, Kn w → Goes P main R D Stop m (G (b.at a0 (.code (.region id ops true) :: kk)) cs) w :=
  goes_drawn hm rfl hd hK hKd fun ord hO => drawn_ord val a0 hok hop hend ord _ _ hO (.begin ops val a0)
end
end Go.Proofs.Ytpmmimcafkillaa.Tr
