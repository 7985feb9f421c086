/-
  A range over a function whose iterator keeps a block of its own in cells: the contract of such an iterator, and the law of the statement over it. The caller may write one variable (block A), one row (block r) and what it lays itself.
  Plain facts on changes: what is one, the frames that a list keeps, drops and adds, its steps.
-/
import Derived.RangeFuncNested
import Derived.RangeFuncBound
import Derived.RangeFuncCalls
import Derived.RangeFuncLeaves
import Derived.Shelf.Abstract
import Derived.Shelf.RegionOpen
import Derived.WalkKit
import Derived.OwnWalkIn
import Derived.TacticsInMore
import Derived.LoopNIn
import Derived.LoopIn
import Derived.OrdersIn
import Derived.Test.YtioaehjppiodfaaGreatDoorGCopyC
namespace Go.Proofs.YtioaehjppiodfaaGreatDoor
open Go.RowKit Go.Shelf
set_option linter.unusedVariables false
set_option linter.unusedSimpArgs false

/-- whatever is cells lies as it lay, but the blocks A and r -/
def KeepX (A r : Nat) (W W' : World) : Prop := W.heap.size ≤ W'.heap.size ∧ ∀ (k : Nat) (o : Obj), W.heap[k]? = some o → o.isCells = true → k ≠ A → k ≠ r → W'.heap[k]? = some o
theorem KeepX.refl (A r : Nat) (W : World) : KeepX A r W W := ⟨Nat.le_refl _, fun _ _ h _ _ _ => h⟩
theorem KeepX.trans {A r : Nat} {X Y Z : World} (h : KeepX A r X Y) (k : KeepX A r Y Z) : KeepX A r X Z := ⟨Nat.le_trans h.1 k.1, fun i o hi hc h1 h2 => k.2 i o (h.2 i o hi hc h1 h2) hc h1 h2⟩
theorem KeepX.putObj {A r l : Nat} {W : World} {o o' : Obj} (h : W.heap[l]? = some o) (ho : o.isCells = false) : KeepX A r W (W.putObj l o') :=
  ⟨by simp, fun k x hk hc _ _ => by
    by_cases e : k = l
    · subst e; rw [h] at hk; cases hk; rw [ho] at hc; cases hc
    · exact (World.putObj_heap_other e).trans hk⟩
theorem KeepX.grown {A r : Nat} {X Y : World} {row : Option Nat} (hg : X.grownBy Y row) (hr : ∀ k, row = some k → k = A ∨ k = r) : KeepX A r X Y :=
  ⟨hg.size, fun k o hk hc h1 h2 => (hg.block k (Array.getElem?_eq_some_iff.1 hk).1 (fun e => by rcases hr k e.symm with e | e <;> omega)).trans hk⟩
theorem KeepX.below {A r : Nat} {X Y : World} (hb : Below X.heap.size X Y) : KeepX A r X Y :=
  ⟨hb.size, fun k o hk hc h1 h2 => (hb.block k (Array.getElem?_eq_some_iff.1 hk).1).trans hk⟩
theorem KeepX.set {A r : Nat} (X : World) (o : Nat) (v : Value) (b : Nat) (hb : b = A ∨ b = r) : KeepX A r X (X.setCell ⟨b, o, none⟩ v) :=
  ⟨by simp [World.setCell], fun k x hk hc h1 h2 => (Below.heap_setCell X ⟨b, o, none⟩ v k (by rcases hb with rfl | rfl <;> simpa using by assumption)).trans hk⟩
theorem keepOthers_below {X Y : World} (hb : Below X.heap.size X Y) : KeepsOthers X Y := ⟨hb.size, fun k o hk _ => (hb.block k (Array.getElem?_eq_some_iff.1 hk).1).trans hk⟩

/-- the caller's word abides new blocks and a turn of the block b -/
def AbX {β : Type} (b : Nat) (J : β → Nat → World → Prop) : Prop := ∀ s r X Y row, J s r X → X.grownBy Y row → (∀ k, row = some k → k = b) → J s r Y
/-- .. and of blocks at or above B that are no cells -/
def AbF {β : Type} (B b : Nat) (J : β → Nat → World → Prop) : Prop := ∀ s r X Y row, J s r X → X.grownBy Y row → (∀ k, row = some k → k = b ∨ (B ≤ k ∧ ∃ o : Obj, X.heap[k]? = some o ∧ o.isCells = false)) → J s r Y

/-- an iterator with a block of its own: the first that it lays -/
def SeqG {α : Type} (n : Nat) (P : Program) (g : Nat) (lb : Array Value) (enc : α → Value) (A n₀ : Nat) (S Sp : List α → Prop) (N : Nat) (w : World) : Prop :=
  ∀ (l : Nat) (J Jx : List α → Nat → World → Prop) (W : World), Below w.heap.size w W → AbX W.heap.size J → AbX W.heap.size Jx →
    (∀ s r X, J s r X → r < X.heap.size ∧ r ≠ W.heap.size ∧ n₀ ≤ r) →
    (∀ pre r x W1, J pre r W1 → W.heap.size < W1.heap.size → pre.length < N → YieldAt Fence.wide (n - 1) P l #[enc x] W1 fun e W' =>
      (e = .returned (.bool true) ∧ ∃ r', J (pre ++ [x]) r' W' ∧ KeepX A r W1 W') ∨ (e = .returned (.bool false) ∧ ∃ r', Jx (pre ++ [x]) r' W')) →
    (∃ r, J [] r W) →
    CallsIn Fence.wide n P g (#[.func (.yield l) #[] #[]] ++ lb) W fun e W' => (∃ v, e = .returned v) ∧ ((∃ xs r, S xs ∧ J xs r W') ∨ (∃ pre r, Sp pre ∧ Jx pre r W'))

/-- how the body of a round may be left -/
def postX {α : Type} (A r : Nat) (I : List α → Nat → World → Prop) (Ix : Code → List α → Nat → World → Prop) (xs : List α) (W : World) : Exit → Act → World → Prop
  | .normal, _, W' => KeepsOthers W W' ∧ KeepX A r W W' ∧ ∃ r', I xs r' W'
  | .ret, _, W' => KeepsOthers W W' ∧ ∃ r', Ix .ret xs r' W'
  | .exit id, _, W' => KeepsOthers W W' ∧ ∃ r', Ix (.exit id) xs r' W'
  | .goto t, _, W' => KeepsOthers W W' ∧ ∃ r', Ix (.goto t) xs r' W'
  | .panic _, _, _ => False
  | .outgrown, _, _ => False

theorem wpIn_rangeX {α : Type} {P : Program} {n : Nat} {g : Operand} {ps : Array Tmp} {assign body : Code} {Q : Exit → Act → World → Prop} {a : Act} {w : World}
    {gf : Nat} {lb : Array Value} (hg : a.eval g = .func (.func gf) #[] lb) (eg : ∀ args w, (callFunc gf args).run P w = .ok (.enter gf args) w)
    {enc : α → Value} {A n₀ : Nat} {S Sp : List α → Prop} {N : Nat} {w0 : World} (hseq : SeqG (n - 1) P gf lb enc A n₀ S Sp N w0) (hb0 : Below w0.heap.size w0 w) (hps : ps.size = 1)
    (I : List α → Nat → World → Prop) (Ix : Code → List α → Nat → World → Prop) (hI : AbF w.heap.size (w.heap.size + 2) I) (hIx : ∀ c, AbF w.heap.size (w.heap.size + 2) (Ix c))
    (hrow : ∀ s r X, I s r X → r < X.heap.size ∧ r ≠ w.heap.size + 2 ∧ n₀ ≤ r) (h0 : ∃ r, I [] r w)
    (Ax : α → Act → World → Prop) (hAx : ∀ x a' X l o o', Ax x a' X → w.heap.size ≤ l → X.heap[l]? = some o → o.isCells = false → Ax x a' (X.putObj l o'))
    (hassign : ∀ (l : Nat) (pre : List α) (r : Nat) (x : α) (W : World) (K : Act → World → Prop), I pre r W → w.heap.size + 2 < W.heap.size → (∀ a' W', KeepsOthers W W' → KeepX A r W W' → I pre r W' → Ax x a' W' → K a' W') →
      assign.wpIn (Fence.wide.inRound l) (n - 1 - 1) P (Exit.then K (fun _ _ _ => False)) { tmps := (ps.zip #[enc x]).foldl (fun t (p, v) => t.setIfInBounds p v) a.tmps, defers := [] } W)
    (hbody : ∀ (l : Nat) (pre : List α) (r : Nat) (x : α) (a' : Act) (W : World), I pre r W → Ax x a' W → w.heap.size + 2 < W.heap.size → pre.length < N → body.wpIn (Fence.wide.inRound l) (n - 1 - 1) P (postX A r I Ix (pre ++ [x]) W) a' W)
    (hdone : ∀ (D : Nat) (xs : List α) (r : Nat) (W : World), w.heap.size ≤ D → S xs → I xs r W → W.heap[D]? = some (.deferred (some [])) → Q .normal { a with defers := { target := .collected D, args := #[] } :: a.defers } W)
    (hstop : ∀ (D : Nat) (c : Code) (pre : List α) (r : Nat) (W : World), w.heap.size ≤ D → Sp pre → Ix c pre r W → W.heap[D]? = some (.deferred (some [])) → c.wpIn Fence.wide n P Q { a with defers := { target := .collected D, args := #[] } :: a.defers } W) :
    (Code.rangeFunc g ps assign body).wpIn Fence.wide n P Q a w := by
  refine wpIn_rangeFunc ?_
  intro fn hfn
  obtain ⟨rec, hrec⟩ : ∃ rec : LoopState → Option Code → Loop, rec = fun st pe => { state := st, pending := pe, fn, tmps := a.tmps, params := ps, assign, body, defers := w.heap.size } := ⟨_, rfl⟩
  obtain ⟨W1, hW1⟩ : ∃ W1, (w.alloc (.deferred (some []))).alloc (.loop (rec .ready none)) = W1 := ⟨_, rfl⟩
  have hs1 : W1.heap.size = w.heap.size + 2 := by rw [← hW1]; simp
  have hL1 : W1.heap[w.heap.size + 1]? = some (.loop (rec .ready none)) := by
    rw [← hW1]; have := World.alloc_heap_new (w.alloc (.deferred (some []))) (.loop (rec .ready none)); rwa [World.size_alloc] at this
  have hK1 : W1.heap[w.heap.size]? = some (.deferred (some [])) := by
    rw [← hW1]; exact (Below.heap_alloc _ _ _ (by simp)).trans (World.alloc_heap_new w _)
  have hIa : ∀ s r X o, I s r X → I s r (X.alloc o) := fun s r X o h => hI s r X _ none h (World.grownBy_alloc X o none) (fun k e => by cases e)
  have hIp : ∀ {J : List α → Nat → World → Prop}, AbF w.heap.size (w.heap.size + 2) J → ∀ {s r X l o} (o' : Obj), J s r X → w.heap.size ≤ l → X.heap[l]? = some o → o.isCells = false → J s r (X.putObj l o') :=
    fun {J} hJ {s r X l o} o' h hl ho hc => hJ s r X _ (some l) h (grownBy_putObj' X l o') (fun k e => by cases e; exact .inr ⟨hl, o, ho, hc⟩)
  have hI1 : ∃ r, I [] r W1 := by obtain ⟨r, hr⟩ := h0; rw [← hW1]; exact ⟨r, hIa _ _ _ _ (hIa _ _ _ _ hr)⟩
  have hb1 : Below w0.heap.size w0 W1 := by
    rw [← hW1]; exact hb0.trans ((((Below.refl _ w).alloc (Nat.le_refl _) _).alloc (by simp) _).mono hb0.size)
  refine ⟨w.heap.size + 1, [{ target := .collected w.heap.size, args := #[] }], W1, { target := .fn (.func gf) lb, args := #[.func (.yield (w.heap.size + 1)) #[] #[]] }, W1, gf,
    #[.func (.yield (w.heap.size + 1)) #[] #[]] ++ lb, W1, ?_, ?_, ?_, ?_, fun h => by simp [Fence.wide] at h, ?_⟩
  · rw [← hW1, hrec]; exact run_enterLoop_outer _ _ _ _ _
  · simp only [resolve, hg]
    simp [go_sem]
  · intro f' hf'; trivial
  · simp [invoke, go_sem, eg]
  · have keepB : ∀ {X Y : World} {row : Option Nat} {k : Nat} {o : Obj}, X.grownBy Y row → (∀ k, row = some k → k = W1.heap.size) → k < w.heap.size + 2 → X.heap[k]? = some o → Y.heap[k]? = some o := fun {X Y row k o} hg' hr hk ho =>
      (hg'.block k (Array.getElem?_eq_some_iff.1 ho).1 (fun e => by have := hr k e.symm; omega)).trans ho
    refine (hseq (w.heap.size + 1)
      (fun pre r W => I pre r W ∧ W.heap[w.heap.size + 1]? = some (.loop (rec .ready none)) ∧ W.heap[w.heap.size]? = some (.deferred (some [])))
      (fun pre r W => ∃ c, Ix c pre r W ∧ W.heap[w.heap.size + 1]? = some (.loop (rec .done (some c))) ∧ W.heap[w.heap.size]? = some (.deferred (some [])))
      W1 hb1
      (fun s r X Y row hs hg' hr => ⟨hI s r X Y row hs.1 hg' (fun k e => .inl (by rw [hr k e, hs1])), keepB hg' hr (by omega) hs.2.1, keepB hg' hr (by omega) hs.2.2⟩)
      (fun s r X Y row hs hg' hr => by
        obtain ⟨c, hc, hl, hk⟩ := hs
        exact ⟨c, hIx c s r X Y row hc hg' (fun k e => .inl (by rw [hr k e, hs1])), keepB hg' hr (by omega) hl, keepB hg' hr (by omega) hk⟩)
      (fun s r X hs => by rw [hs1]; exact hrow s r X hs.1)
      ?_ (by obtain ⟨r, hr⟩ := hI1; exact ⟨r, hr, hL1, hK1⟩)).mono ?_
    · rintro pre r x W ⟨hi, hl, hk⟩ hsz hlen
      rw [hs1] at hsz
      have hlt : w.heap.size + 1 < W.heap.size := (Array.getElem?_eq_some_iff.1 hl).1
      have hy := run_yield (P := P) (args := #[enc x]) hl (by rw [hrec]; simp [hps])
      rw [hrec] at hy
      refine ⟨fn, _, assign, body, hy, roundIn_of_wpIn hfn (hassign _ pre r x W _ hi hsz ?_)⟩
      clear hy
      intro a' Wa hko hkx hia hax
      replace hl := hko.same _ _ hl rfl
      replace hk := hko.same _ _ hk rfl
      have hlt' : w.heap.size + 1 < Wa.heap.size := (Array.getElem?_eq_some_iff.1 hl).1
      have hsz' : w.heap.size + 2 < Wa.heap.size := Nat.lt_of_lt_of_le hsz hkx.1
      refine ⟨_, run_beginRound hl (by rw [hrec]), ?_⟩
      have hl2 : (Wa.putObj (w.heap.size + 1) (.loop { rec .ready none with state := .busy })).heap[w.heap.size + 1]? = some (.loop { rec .ready none with state := .busy }) := World.putObj_heap_same hlt'
      have hk2 : (Wa.putObj (w.heap.size + 1) (.loop { rec .ready none with state := .busy })).heap[w.heap.size]? = some (.deferred (some [])) := (World.putObj_heap_other (by omega)).trans hk
      have hw2 : KeepX A r Wa (Wa.putObj (w.heap.size + 1) (.loop { rec .ready none with state := .busy })) := KeepX.putObj hl rfl
      refine wpIn_mono (hbody _ pre r x a' _ (hIp hI _ hia (by omega) hl rfl) (hAx x a' _ _ _ _ hax (by omega) hl rfl) (by simpa using hsz') hlen) ?_
      have fin : ∀ (jump : Option Code) (W3 : World), KeepsOthers (Wa.putObj (w.heap.size + 1) (.loop { rec .ready none with state := .busy })) W3 →
          (Instr.endRound (w.heap.size + 1) jump).run P W3 = .ok (.bool jump.isNone) (W3.putObj (w.heap.size + 1) (.loop (rec (if jump.isNone then .ready else .done) jump))) ∧
          W3.heap[w.heap.size + 1]? = some (.loop { rec .ready none with state := .busy }) ∧
          (W3.putObj (w.heap.size + 1) (.loop (rec (if jump.isNone then .ready else .done) jump))).heap[w.heap.size + 1]? = some (.loop (rec (if jump.isNone then .ready else .done) jump)) ∧
          (W3.putObj (w.heap.size + 1) (.loop (rec (if jump.isNone then .ready else .done) jump))).heap[w.heap.size]? = some (.deferred (some [])) := fun jump W3 hk3 => by
        have hl3 := hk3.same _ _ hl2 rfl
        have := run_endRound (P := P) jump hl3
        rw [hrec] at this ⊢
        exact ⟨this, by rw [hrec] at hl3; exact hl3, World.putObj_heap_same (Array.getElem?_eq_some_iff.1 hl3).1, (World.putObj_heap_other (by omega)).trans (hk3.same _ _ hk2 rfl)⟩
      rintro e a3 W3 hp
      cases e with
      | normal =>
        obtain ⟨hk3, hkp3, r', hi3⟩ := hp
        obtain ⟨hr, hl3, hl4, hk4⟩ := fin none W3 hk3
        exact ⟨_, _, hr, .inl ⟨rfl, r', ⟨hIp hI _ hi3 (by omega) hl3 rfl, hl4, hk4⟩, hkx.trans ((hw2.trans hkp3).trans (KeepX.putObj hl3 rfl))⟩⟩
      | ret =>
        obtain ⟨hk3, r', hi3⟩ := hp
        obtain ⟨hr, hl3, hl4, hk4⟩ := fin (some .ret) W3 hk3
        exact ⟨_, _, hr, .inr ⟨rfl, r', .ret, hIp (hIx _) _ hi3 (by omega) hl3 rfl, hl4, hk4⟩⟩
      | exit id =>
        obtain ⟨hk3, r', hi3⟩ := hp
        obtain ⟨hr, hl3, hl4, hk4⟩ := fin (some (.exit id)) W3 hk3
        exact ⟨_, _, hr, .inr ⟨rfl, r', .exit id, hIp (hIx _) _ hi3 (by omega) hl3 rfl, hl4, hk4⟩⟩
      | goto t =>
        obtain ⟨hk3, r', hi3⟩ := hp
        obtain ⟨hr, hl3, hl4, hk4⟩ := fin (some (.goto t)) W3 hk3
        exact ⟨_, _, hr, .inr ⟨rfl, r', .goto t, hIp (hIx _) _ hi3 (by omega) hl3 rfl, hl4, hk4⟩⟩
      | panic ch => exact hp.elim
      | outgrown => exact hp.elim
    · rintro e W2 ⟨⟨v, rfl⟩, (⟨xs, r, hS, hi, hl, hk⟩ | ⟨pre, r, hSp, c, hi, hl, hk⟩)⟩
      · exact ⟨none, _, by have := run_endLoop (P := P) hl (by rw [hrec]; simp); rw [hrec] at this; exact this, hdone _ xs r _ (Nat.le_refl _) hS (hIp hI _ hi (by omega) hl rfl) ((World.putObj_heap_other (by omega)).trans hk)⟩
      · exact ⟨some c, _, by have := run_endLoop (P := P) hl (by rw [hrec]; simp); rw [hrec] at this; exact this, hstop _ c pre r _ (Nat.le_refl _) hSp (hIp (hIx c) _ hi (by omega) hl rfl) ((World.putObj_heap_other (by omega)).trans hk)⟩

/-- a region that draws its order, in a round: walked as everywhere -/
theorem wpOpIn_of {P : Program} {ops : Array Oper} {Q : Exit → Act → World → Prop} {l n i : Nat} {K : Act → World → Prop} {a : Act} {w : World} (hd : ∀ o, ops[i]? = some o → ∀ c, o.op ≠ .defer c) (hQ : ∀ a w, ¬ Q .outgrown a w)
    (h : wpOp P ops Q i K a w) : wpOpIn (Fence.wide.inRound l) n P ops Q i K a w := by
  unfold wpOp at h
  unfold wpOpIn
  cases ho : ops[i]? with
  | none => simpa [ho] using h
  | some o =>
    simp only [ho] at h ⊢
    by_cases hw : Region.wanted o (yielded ops a.tmps) = true
    · simp only [hw, if_true] at h ⊢
      rcases h with h | ⟨_, a0, w0, hq⟩
      case inr => exact absurd hq (hQ a0 w0)
      refine ⟨fun _ _ => trivial, ?_⟩
      rw [Oper.semAt_eq _ _ _ (hd o ho)]
      unfold Oper.wp at h
      generalize (execOp a.eval o).run P w = res at h ⊢
      cases res with
      | ok x w' =>
        cases x <;> simp only [Oper.upon, Oper.uponIn] at h ⊢
        case value u => exact h
        case skip => exact h
        case defer d => exact h
        case enter f args => exact ⟨fun hh => by simp [Fence.wide, Fence.inRound] at hh, CallsIn.inRound l (callsIn_wide.2 h)⟩
        case row row args =>
          refine ⟨fun hh => by simp [Fence.wide, Fence.inRound] at hh, fun c cs hroom => ?_⟩
          obtain ⟨v, w'', r, s⟩ := h c cs
          exact ⟨v, w'', r, stepsIn_wide.2 s⟩
      | halt x w' =>
        cases x <;> simp only [Oper.upon, Oper.uponIn] at h ⊢
        case panic u => exact h
    · simp only [hw] at h ⊢
      exact ⟨fun _ _ => trivial, h⟩
theorem wpAnyIn_of {P : Program} {md : Region.Mode} {ops : Array Oper} {Q : Exit → Act → World → Prop} {l n : Nat} (hd : ∀ (i : Nat) (o : Oper), ops[i]? = some o → ∀ c, o.op ≠ .defer c) (hQ : ∀ a w, ¬ Q .outgrown a w) :
    ∀ (fuel : Nat) (listed : Array Bool) (a : Act) (w : World), wpAny P md ops Q fuel listed a w → wpAnyIn (Fence.wide.inRound l) n P md ops Q fuel listed a w
  | 0, _, _, _, h => h
  | fuel + 1, listed, a, w, h => ⟨h.1, fun i hi => wpOpIn_of (hd i) hQ (wpOp_mono (fun a' w' h' => wpAnyIn_of hd hQ fuel _ a' w' h') (h.2 i hi))⟩
def noDefer (ops : Array Oper) : Bool := ops.all fun o => match o.op with | .defer _ => false | _ => true
theorem noDefer_spec {ops : Array Oper} (h : noDefer ops = true) : ∀ (i : Nat) (o : Oper), ops[i]? = some o → ∀ c, o.op ≠ .defer c := by
  intro i o ho c e
  unfold noDefer at h
  rw [Array.all_eq_true] at h
  obtain ⟨hlt, hk⟩ := Array.getElem?_eq_some_iff.1 ho
  have := h i hlt
  rw [hk, e] at this
  cases this
theorem wpIn_region_heldR {P : Program} {ops : Array Oper} {Q : Exit → Act → World → Prop} {S : World → Prop} {l n id : Nat} {a : Act} {w : World} (hm : P.follows .mixedOrders = true) (hd : noDefer ops = true) (hQ : ∀ a w, ¬ Q .outgrown a w) (hS : S w.drew)
    (h : S w.drew → wpAnyH P .any ops Q S ops.size (Array.replicate ops.size false) a w.drew) : (Code.region id ops true).wpIn (Fence.wide.inRound l) n P Q a w :=
  wpIn_region_any hm (wpAnyIn_of (noDefer_spec hd) hQ _ _ _ _ (wpAny_of_held _ _ _ _ (h hS)))

end Go.Proofs.YtioaehjppiodfaaGreatDoor

namespace Go.Proofs.YtioaehjppiodfaaGreatDoor
open Go.RowKit
set_option linter.unusedVariables false
set_option linter.unusedSimpArgs false

/-- a change as told -/
def HOk (c : Ch) : Prop := ((c.1 = 1 ∨ c.1 = 2) ∧ c.2.1 = 0 ∧ c.2.2.1 = 0 ∧ 1 ≤ c.2.2.2 ∧ c.2.2.2 ≤ 10000000) ∨ (c.1 = 3 ∧ COk c.2)
instance (c : Ch) : Decidable (HOk c) := by unfold HOk; exact inferInstance
def LOk (l : List Ch) : Prop := l.length ≤ 300 ∧ ∀ c ∈ l, HOk c
instance (l : List Ch) : Decidable (LOk l) := by unfold LOk; exact inferInstance
theorem HOk.len {c : Ch} (h : HOk c) : 1 ≤ c.2.2.2 ∧ c.2.2.2 ≤ 10000000 := by
  rcases h with h | ⟨_, h⟩
  · omega
  · exact ⟨h.1, h.2.1⟩
def oldC (c : Ch) : Int := if c.1 = 3 then 0 else c.2.2.2
def newC (c : Ch) : Int := if c.1 = 2 then 0 else c.2.2.2
def oldL : List Ch → Int
  | [] => 0
  | c :: l => oldC c + oldL l
def newL : List Ch → Int
  | [] => 0
  | c :: l => newC c + newL l
theorem oldL_append (l m : List Ch) : oldL (l ++ m) = oldL l + oldL m := by
  induction l with
  | nil => simp [oldL]
  | cons c l ih => simp only [List.cons_append, oldL]; omega
theorem newL_append (l m : List Ch) : newL (l ++ m) = newL l + newL m := by
  induction l with
  | nil => simp [newL]
  | cons c l ih => simp only [List.cons_append, newL]; omega
theorem oldL_snoc {l : List Ch} {k : Nat} {c : Ch} (h : l[k]? = some c) : oldL (l.take (k + 1)) = oldL (l.take k) + oldC c := by
  rw [take_snocC h, oldL_append]; simp [oldL]
theorem newL_snoc {l : List Ch} {k : Nat} {c : Ch} (h : l[k]? = some c) : newL (l.take (k + 1)) = newL (l.take k) + newC c := by
  rw [take_snocC h, newL_append]; simp [newL]
theorem sums_bd {l : List Ch} (h : ∀ c ∈ l, HOk c) : 0 ≤ oldL l ∧ oldL l ≤ l.length * 10000000 ∧ 0 ≤ newL l ∧ newL l ≤ l.length * 10000000 := by
  induction l with
  | nil => simp [oldL, newL]
  | cons c l ih =>
    have h1 := (h c List.mem_cons_self).len
    have h2 := ih (fun x hx => h x (List.mem_cons_of_mem _ hx))
    simp only [oldL, newL, List.length_cons]
    unfold oldC newC
    split <;> split <;> omega
theorem sums_take {l : List Ch} (h : LOk l) (k : Nat) : 0 ≤ oldL (l.take k) ∧ oldL (l.take k) ≤ 3000000000 ∧ 0 ≤ newL (l.take k) ∧ newL (l.take k) ≤ 3000000000 := by
  have h1 := sums_bd (l := l.take k) (fun c hc => h.2 c (List.mem_of_mem_take hc))
  have h2 : (l.take k).length ≤ 300 := by rw [List.length_take]; have := h.1; omega
  omega

/-- step k of the list -/
def stv (l : List Ch) (k : Nat) : Value :=
  .agg #[iv (l.getD k (0, 0, 0, 0)).1, iv (l.getD k (0, 0, 0, 0)).2.1, iv (l.getD k (0, 0, 0, 0)).2.2.1, iv (l.getD k (0, 0, 0, 0)).2.2.2, iv (oldL (l.take k)), iv (newL (l.take k))]
theorem stv_eq {l : List Ch} {k : Nat} {x1 x2 x3 x4 : Int} (h : l[k]? = some (x1, x2, x3, x4)) : stv l k = .agg #[.int .i64 x1, .int .i64 x2, .int .i64 x3, .int .i64 x4, .int .i64 (oldL (l.take k)), .int .i64 (newL (l.take k))] := by
  unfold stv; simp [List.getD, h]

theorem fin_take {n k : Nat} (hk : k < n) : (List.finRange n).take (k + 1) = (List.finRange n).take k ++ [⟨k, hk⟩] := by
  rw [List.take_add_one]
  have : (List.finRange n)[k]? = some ⟨k, hk⟩ := by
    rw [List.getElem?_eq_getElem (by simpa using hk)]; simp
  rw [this]; rfl


end Go.Proofs.YtioaehjppiodfaaGreatDoor
