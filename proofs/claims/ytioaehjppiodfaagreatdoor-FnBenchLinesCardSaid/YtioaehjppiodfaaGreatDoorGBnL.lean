/-
  strings.Lines and its iterator: what it yields, told as the pieces of a text that end with a newline, the last one without it too; what was there stays but for the iterator's own box.
-/
import Derived.RangeFuncNested
import Derived.RangeFuncBound
import Derived.RangeFuncCalls
import Derived.RangeFuncLeaves
import Derived.Shelf.Abstract
import Derived.Shelf.RegionOpen
import Derived.WalkKit
import Derived.OwnWalkIn
import Derived.TacticsInMore
import Derived.LoopNIn
import Derived.LoopIn
import Derived.OrdersIn
import Derived.Test.YtioaehjppiodfaaGreatDoorGShelf
import Derived.Test.YtioaehjppiodfaaGreatDoorGCopy
namespace Go.Proofs.YtioaehjppiodfaaGreatDoor.Ln
open Go.RowKit Go.Shelf
set_option linter.unusedVariables false
set_option linter.unusedSimpArgs false

/-- whatever is cells lies as it lay, but the blocks A and r -/
def KeepX (A r : Nat) (W W' : World) : Prop := W.heap.size ≤ W'.heap.size ∧ ∀ (k : Nat) (o : Obj), W.heap[k]? = some o → o.isCells = true → k ≠ A → k ≠ r → W'.heap[k]? = some o
theorem KeepX.refl (A r : Nat) (W : World) : KeepX A r W W := ⟨Nat.le_refl _, fun _ _ h _ _ _ => h⟩
theorem KeepX.trans {A r : Nat} {X Y Z : World} (h : KeepX A r X Y) (k : KeepX A r Y Z) : KeepX A r X Z := ⟨Nat.le_trans h.1 k.1, fun i o hi hc h1 h2 => k.2 i o (h.2 i o hi hc h1 h2) hc h1 h2⟩
theorem KeepX.putObj {A r l : Nat} {W : World} {o o' : Obj} (h : W.heap[l]? = some o) (ho : o.isCells = false) : KeepX A r W (W.putObj l o') :=
  ⟨by simp, fun k x hk hc _ _ => by
    by_cases e : k = l
    · subst e; rw [h] at hk; cases hk; rw [ho] at hc; cases hc
    · exact (World.putObj_heap_other e).trans hk⟩

/-- a turn that an iterator and its loop may make -/
abbrev TurnOk (B b : Nat) (X Y : World) (row : Option Nat) : Prop := ∀ k, row = some k → (k = b ∧ ∃ v, Boxed Y b 9 v) ∨ (B ≤ k ∧ ∃ o : Obj, X.heap[k]? = some o ∧ o.isCells = false)
def AbX {β : Type} (b : Nat) (J : β → Nat → World → Prop) : Prop := ∀ s r X Y row, J s r X → X.grownBy Y row → (∀ k, row = some k → k = b ∧ ∃ v, Boxed Y b 9 v) → J s r Y
def AbF {β : Type} (B b : Nat) (J : β → Nat → World → Prop) : Prop := ∀ s r X Y row, J s r X → X.grownBy Y row → TurnOk B b X Y row → J s r Y

/-- an iterator whose state is the box b -/
def SeqB {α : Type} (n : Nat) (P : Program) (g : Nat) (lb : Array Value) (enc : α → Value) (A b : Nat) (T : List α) (w : World) : Prop :=
  ∀ (l : Nat) (J : List α → Nat → World → Prop) (Jx : Unit → Nat → World → Prop) (W : World), Below w.heap.size w W → AbX b J → AbX b Jx →
    (∀ s r X, J s r X → r ≠ b) →
    (∀ x rest r W1, J (x :: rest) r W1 → YieldAt Fence.wide (n - 1) P l #[enc x] W1 fun e W' =>
      (e = .returned (.bool true) ∧ ∃ r', J rest r' W' ∧ KeepX A r W1 W') ∨ (e = .returned (.bool false) ∧ ∃ r', Jx () r' W')) →
    (∃ r, J T r W) →
    CallsIn Fence.wide n P g (#[.func (.yield l) #[] #[]] ++ lb) W fun e W' => (∃ v, e = .returned v) ∧ ((∃ r, J [] r W') ∨ (∃ r, Jx () r W'))

/-- how the body of a round may be left -/
def postB {α : Type} (A r : Nat) (I : List α → Nat → World → Prop) (Ix : Code → Nat → World → Prop) (rest : List α) (W : World) : Exit → Act → World → Prop
  | .normal, _, W' => KeepsOthers W W' ∧ KeepX A r W W' ∧ ∃ r', I rest r' W'
  | .ret, _, W' => KeepsOthers W W' ∧ ∃ r', Ix .ret r' W'
  | .exit id, _, W' => KeepsOthers W W' ∧ ∃ r', Ix (.exit id) r' W'
  | .goto t, _, W' => KeepsOthers W W' ∧ ∃ r', Ix (.goto t) r' W'
  | .panic _, _, _ => False
  | .outgrown, _, _ => False

theorem wpIn_rangeB {α : Type} {P : Program} {n : Nat} {g : Operand} {ps : Array Tmp} {assign body : Code} {Q : Exit → Act → World → Prop} {a : Act} {w : World}
    {gf : Nat} {lb : Array Value} (hg : a.eval g = .func (.func gf) #[] lb) (eg : ∀ args w, (callFunc gf args).run P w = .ok (.enter gf args) w)
    {enc : α → Value} {A b : Nat} {T : List α} {w0 : World} (hseq : SeqB (n - 1) P gf lb enc A b T w0) (hb0 : Below w0.heap.size w0 w) (hbw : b < w.heap.size) (hps : ps.size = 1)
    (I : List α → Nat → World → Prop) (Ix : Code → Nat → World → Prop) (hI : AbF w.heap.size b I) (hIx : AbF w.heap.size b Ix)
    (hrow : ∀ s r X, I s r X → r ≠ b) (h0 : ∃ r, I T r w)
    (Ax : α → Act → World → Prop) (hAx : ∀ x a' X l o o', Ax x a' X → w.heap.size ≤ l → X.heap[l]? = some o → o.isCells = false → Ax x a' (X.putObj l o'))
    (hassign : ∀ (l : Nat) (x : α) (rest : List α) (r : Nat) (W : World) (K : Act → World → Prop), I (x :: rest) r W → w.heap.size + 2 ≤ W.heap.size → (∀ a' W', KeepsOthers W W' → KeepX A r W W' → I (x :: rest) r W' → Ax x a' W' → K a' W') →
      assign.wpIn (Fence.wide.inRound l) (n - 1 - 1) P (Exit.then K (fun _ _ _ => False)) { tmps := (ps.zip #[enc x]).foldl (fun t (p, v) => t.setIfInBounds p v) a.tmps, defers := [] } W)
    (hbody : ∀ (l : Nat) (x : α) (rest : List α) (r : Nat) (a' : Act) (W : World), I (x :: rest) r W → Ax x a' W → w.heap.size + 2 ≤ W.heap.size → body.wpIn (Fence.wide.inRound l) (n - 1 - 1) P (postB A r I Ix rest W) a' W)
    (hdone : ∀ (D : Nat) (r : Nat) (W : World), w.heap.size ≤ D → I [] r W → W.heap[D]? = some (.deferred (some [])) → Q .normal { a with defers := { target := .collected D, args := #[] } :: a.defers } W)
    (hstop : ∀ (D : Nat) (c : Code) (r : Nat) (W : World), w.heap.size ≤ D → Ix c r W → W.heap[D]? = some (.deferred (some [])) → c.wpIn Fence.wide n P Q { a with defers := { target := .collected D, args := #[] } :: a.defers } W) :
    (Code.rangeFunc g ps assign body).wpIn Fence.wide n P Q a w := by
  refine wpIn_rangeFunc ?_
  intro fn hfn
  obtain ⟨rec, hrec⟩ : ∃ rec : LoopState → Option Code → Loop, rec = fun st pe => { state := st, pending := pe, fn, tmps := a.tmps, params := ps, assign, body, defers := w.heap.size } := ⟨_, rfl⟩
  obtain ⟨W1, hW1⟩ : ∃ W1, (w.alloc (.deferred (some []))).alloc (.loop (rec .ready none)) = W1 := ⟨_, rfl⟩
  have hs1 : W1.heap.size = w.heap.size + 2 := by rw [← hW1]; simp
  have hL1 : W1.heap[w.heap.size + 1]? = some (.loop (rec .ready none)) := by
    rw [← hW1]; have := World.alloc_heap_new (w.alloc (.deferred (some []))) (.loop (rec .ready none)); rwa [World.size_alloc] at this
  have hK1 : W1.heap[w.heap.size]? = some (.deferred (some [])) := by
    rw [← hW1]; exact (Below.heap_alloc _ _ _ (by simp)).trans (World.alloc_heap_new w _)
  have hIa : ∀ s r X o, I s r X → I s r (X.alloc o) := fun s r X o h => hI s r X _ none h (World.grownBy_alloc X o none) (fun k e => by cases e)
  have hIp : ∀ {β : Type} {J : β → Nat → World → Prop}, AbF w.heap.size b J → ∀ {s r X l o} (o' : Obj), J s r X → w.heap.size ≤ l → X.heap[l]? = some o → o.isCells = false → J s r (X.putObj l o') :=
    fun {β J} hJ {s r X l o} o' h hl ho hc => hJ s r X _ (some l) h (grownBy_putObj' X l o') (fun k e => by cases e; exact .inr ⟨hl, o, ho, hc⟩)
  have hI1 : ∃ r, I T r W1 := by obtain ⟨r, hr⟩ := h0; rw [← hW1]; exact ⟨r, hIa _ _ _ _ (hIa _ _ _ _ hr)⟩
  have hb1 : Below w0.heap.size w0 W1 := by
    rw [← hW1]; exact hb0.trans ((((Below.refl _ w).alloc (Nat.le_refl _) _).alloc (by simp) _).mono hb0.size)
  refine ⟨w.heap.size + 1, [{ target := .collected w.heap.size, args := #[] }], W1, { target := .fn (.func gf) lb, args := #[.func (.yield (w.heap.size + 1)) #[] #[]] }, W1, gf,
    #[.func (.yield (w.heap.size + 1)) #[] #[]] ++ lb, W1, ?_, ?_, ?_, ?_, fun h => by simp [Fence.wide] at h, ?_⟩
  · rw [← hW1, hrec]; exact run_enterLoop_outer _ _ _ _ _
  · simp only [resolve, hg]
    simp [go_sem]
  · intro f' hf'; trivial
  · simp [invoke, go_sem, eg]
  · have keepB : ∀ {X Y : World} {row : Option Nat} {k : Nat} {o : Obj}, X.grownBy Y row → (∀ k, row = some k → k = b ∧ ∃ v, Boxed Y b 9 v) → w.heap.size ≤ k → X.heap[k]? = some o → Y.heap[k]? = some o := fun {X Y row k o} hg' hr hk ho =>
      (hg'.block k (Array.getElem?_eq_some_iff.1 ho).1 (fun e => by have := (hr k e.symm).1; omega)).trans ho
    refine (hseq (w.heap.size + 1)
      (fun rest r W => I rest r W ∧ W.heap[w.heap.size + 1]? = some (.loop (rec .ready none)) ∧ W.heap[w.heap.size]? = some (.deferred (some [])))
      (fun _ r W => ∃ c, Ix c r W ∧ W.heap[w.heap.size + 1]? = some (.loop (rec .done (some c))) ∧ W.heap[w.heap.size]? = some (.deferred (some [])))
      W1 hb1
      (fun s r X Y row hs hg' hr => ⟨hI s r X Y row hs.1 hg' (fun k e => .inl (hr k e)), keepB hg' hr (by omega) hs.2.1, keepB hg' hr (by omega) hs.2.2⟩)
      (fun s r X Y row hs hg' hr => by
        obtain ⟨c, hc, hl, hk⟩ := hs
        exact ⟨c, hIx c r X Y row hc hg' (fun k e => .inl (hr k e)), keepB hg' hr (by omega) hl, keepB hg' hr (by omega) hk⟩)
      (fun s r X hs => hrow s r X hs.1)
      ?_ (by obtain ⟨r, hr⟩ := hI1; exact ⟨r, hr, hL1, hK1⟩)).mono ?_
    · rintro x rest r W ⟨hi, hl, hk⟩
      have hlt : w.heap.size + 1 < W.heap.size := (Array.getElem?_eq_some_iff.1 hl).1
      have hsz : w.heap.size + 2 ≤ W.heap.size := hlt
      have hy := run_yield (P := P) (args := #[enc x]) hl (by rw [hrec]; simp [hps])
      rw [hrec] at hy
      refine ⟨fn, _, assign, body, hy, roundIn_of_wpIn hfn (hassign _ x rest r W _ hi hsz ?_)⟩
      clear hy
      intro a' Wa hko hkx hia hax
      replace hl := hko.same _ _ hl rfl
      replace hk := hko.same _ _ hk rfl
      have hlt' : w.heap.size + 1 < Wa.heap.size := (Array.getElem?_eq_some_iff.1 hl).1
      have hsz' : w.heap.size + 2 ≤ Wa.heap.size := hlt'
      refine ⟨_, run_beginRound hl (by rw [hrec]), ?_⟩
      have hl2 : (Wa.putObj (w.heap.size + 1) (.loop { rec .ready none with state := .busy })).heap[w.heap.size + 1]? = some (.loop { rec .ready none with state := .busy }) := World.putObj_heap_same hlt'
      have hk2 : (Wa.putObj (w.heap.size + 1) (.loop { rec .ready none with state := .busy })).heap[w.heap.size]? = some (.deferred (some [])) := (World.putObj_heap_other (by omega)).trans hk
      have hw2 : KeepX A r Wa (Wa.putObj (w.heap.size + 1) (.loop { rec .ready none with state := .busy })) := KeepX.putObj hl rfl
      refine wpIn_mono (hbody _ x rest r a' _ (hIp hI _ hia (by omega) hl rfl) (hAx x a' _ _ _ _ hax (by omega) hl rfl) (by simpa using hsz')) ?_
      have fin : ∀ (jump : Option Code) (W3 : World), KeepsOthers (Wa.putObj (w.heap.size + 1) (.loop { rec .ready none with state := .busy })) W3 →
          (Instr.endRound (w.heap.size + 1) jump).run P W3 = .ok (.bool jump.isNone) (W3.putObj (w.heap.size + 1) (.loop (rec (if jump.isNone then .ready else .done) jump))) ∧
          W3.heap[w.heap.size + 1]? = some (.loop { rec .ready none with state := .busy }) ∧
          (W3.putObj (w.heap.size + 1) (.loop (rec (if jump.isNone then .ready else .done) jump))).heap[w.heap.size + 1]? = some (.loop (rec (if jump.isNone then .ready else .done) jump)) ∧
          (W3.putObj (w.heap.size + 1) (.loop (rec (if jump.isNone then .ready else .done) jump))).heap[w.heap.size]? = some (.deferred (some [])) := fun jump W3 hk3 => by
        have hl3 := hk3.same _ _ hl2 rfl
        have := run_endRound (P := P) jump hl3
        rw [hrec] at this ⊢
        exact ⟨this, by rw [hrec] at hl3; exact hl3, World.putObj_heap_same (Array.getElem?_eq_some_iff.1 hl3).1, (World.putObj_heap_other (by omega)).trans (hk3.same _ _ hk2 rfl)⟩
      rintro e a3 W3 hp
      cases e with
      | normal =>
        obtain ⟨hk3, hkp3, r', hi3⟩ := hp
        obtain ⟨hr, hl3, hl4, hk4⟩ := fin none W3 hk3
        exact ⟨_, _, hr, .inl ⟨rfl, r', ⟨hIp hI _ hi3 (by omega) hl3 rfl, hl4, hk4⟩, hkx.trans ((hw2.trans hkp3).trans (KeepX.putObj hl3 rfl))⟩⟩
      | ret =>
        obtain ⟨hk3, r', hi3⟩ := hp
        obtain ⟨hr, hl3, hl4, hk4⟩ := fin (some .ret) W3 hk3
        exact ⟨_, _, hr, .inr ⟨rfl, r', .ret, hIp hIx _ hi3 (by omega) hl3 rfl, hl4, hk4⟩⟩
      | exit id =>
        obtain ⟨hk3, r', hi3⟩ := hp
        obtain ⟨hr, hl3, hl4, hk4⟩ := fin (some (.exit id)) W3 hk3
        exact ⟨_, _, hr, .inr ⟨rfl, r', .exit id, hIp hIx _ hi3 (by omega) hl3 rfl, hl4, hk4⟩⟩
      | goto t =>
        obtain ⟨hk3, r', hi3⟩ := hp
        obtain ⟨hr, hl3, hl4, hk4⟩ := fin (some (.goto t)) W3 hk3
        exact ⟨_, _, hr, .inr ⟨rfl, r', .goto t, hIp hIx _ hi3 (by omega) hl3 rfl, hl4, hk4⟩⟩
      | panic ch => exact hp.elim
      | outgrown => exact hp.elim
    · rintro e W2 ⟨⟨v, rfl⟩, (⟨r, hi, hl, hk⟩ | ⟨r, c, hi, hl, hk⟩)⟩
      · exact ⟨none, _, by have := run_endLoop (P := P) hl (by rw [hrec]; simp); rw [hrec] at this; exact this, hdone _ r _ (Nat.le_refl _) (hIp hI _ hi (by omega) hl rfl) ((World.putObj_heap_other (by omega)).trans hk)⟩
      · exact ⟨some c, _, by have := run_endLoop (P := P) hl (by rw [hrec]; simp); rw [hrec] at this; exact this, hstop _ c r _ (Nat.le_refl _) (hIp hIx _ hi (by omega) hl rfl) ((World.putObj_heap_other (by omega)).trans hk)⟩

attribute [local go_sem] Oper.semAt_some

theorem idx_pre {a r : List UInt8} (h : 10 ∉ a) : Lib.indexByte (a ++ 10 :: r) 10 = a.length := by
  induction a with
  | nil => simp [Lib.indexByte]
  | cons b a ih =>
    have hb : (b == (10 : UInt8)) = false := by simp; intro e; exact h (by simp [e])
    rw [List.cons_append, Lib.indexByte, hb, ih (fun e => h (by simp [e]))]
    have : (((a.length : Int)) == -1) = false := by simp
    rw [this]; simp

/-- the pieces of a text: each ends with a newline, the last one it may be without -/
def rawL : List UInt8 → List (List UInt8)
  | [] => []
  | b :: t => if b = 10 then [10] :: rawL t else match rawL t with | [] => [[b]] | x :: xs => (b :: x) :: xs
theorem rawL_pre {a r : List UInt8} (h : 10 ∉ a) : rawL (a ++ 10 :: r) = (a ++ [10]) :: rawL r := by
  induction a with
  | nil => simp [rawL]
  | cons b a ih =>
    have hb : b ≠ 10 := fun e => h (by simp [e])
    rw [List.cons_append, rawL, if_neg hb, ih (fun e => h (by simp [e]))]
    rfl
theorem rawL_last {a : List UInt8} (h : 10 ∉ a) (hn : a ≠ []) : rawL a = [a] := by
  induction a with
  | nil => exact absurd rfl hn
  | cons b a ih =>
    have hb : b ≠ 10 := fun e => h (by simp [e])
    rw [rawL, if_neg hb]
    cases a with
    | nil => rfl
    | cons c a => rw [ih (fun e => h (by simp [e])) (by simp)]
theorem idx_no {a : List UInt8} (h : 10 ∉ a) : Lib.indexByte a 10 = -1 := by
  induction a with
  | nil => simp [Lib.indexByte]
  | cons b a ih =>
    have hb : (b == (10 : UInt8)) = false := by simp; intro e; exact h (by simp [e])
    rw [Lib.indexByte, hb, ih (fun e => h (by simp [e]))]
    simp
theorem splitA (t : List UInt8) (h : 10 ∈ t) : ∃ a r, t = a ++ 10 :: r ∧ 10 ∉ a := by
  induction t with
  | nil => simp at h
  | cons b t ih =>
    by_cases hb : b = 10
    · subst hb; exact ⟨[], t, rfl, by simp⟩
    · obtain ⟨a, r, e, h1⟩ := ih (by rcases List.mem_cons.1 h with e | e; exact absurd e.symm hb; exact e)
      exact ⟨b :: a, r, by rw [e]; rfl, by simp; exact ⟨fun e => hb e.symm, h1⟩⟩
theorem ext_str {s : ByteArray} {l : List UInt8} {g k : Nat} (hl : s.data.toList = l) (hg : g ≤ k) : s.extract g k = ⟨((l.take k).drop g).toArray⟩ := by
  rw [Lib.extract_eq, hl, List.take_drop, show g + (k - g) = k by omega]
/-- what is given of a line -/
def encL (x : List UInt8) : Value := .string ⟨x.toArray⟩
theorem grown_dr {w w1 : World} {g : Option Nat} (h : w.grownBy w1 g) : w.grownBy w1.drew g := ⟨h.os, h.tape, h.output, h.size, h.block⟩
theorem boxed_set9 {X : World} {b : Nat} {v u : Value} (h : Boxed X b 9 v) : Boxed (X.setCell ⟨b, 0, none⟩ u) b 9 u := h.set u
def strAt (X : World) (b : Nat) : Nat := match X.cell? ⟨b, 0, none⟩ with | some (.string s) => s.size | _ => 0
theorem strAt_of {X : World} {b : Nat} {s : ByteArray} (h : Boxed X b 9 (.string s)) : strAt X b = s.size := by unfold strAt; rw [h.cell]

set_option maxRecDepth 100000 in
set_option maxHeartbeats 4000000 in
theorem lines_in (n l0 A b : Nat) (s0 : ByteArray) (W : World) (hbx : Boxed W b 9 (.string s0)) (hz : s0.size ≤ 20000) (hA : A ≠ b)
    (J : List (List UInt8) → Nat → World → Prop) (Jx : Unit → Nat → World → Prop) (hJ : AbX b J) (hJx : AbX b Jx) (hrow : ∀ s r X, J s r X → r ≠ b)
    (hY : ∀ x rest r W1, J (x :: rest) r W1 → YieldAt Fence.wide (n - 1) Tryz.prog l0 #[encL x] W1 fun e W' =>
      (e = .returned (.bool true) ∧ ∃ r', J rest r' W' ∧ KeepX A r W1 W') ∨ (e = .returned (.bool false) ∧ ∃ r', Jx () r' W'))
    (h0 : ∃ r, J (rawL s0.data.toList) r W) :
    CallsIn Fence.wide n Tryz.prog 29 #[.func (.yield l0) #[] #[], .pointer (some ⟨b, 0, none⟩)] W fun e W' => (∃ v, e = .returned v) ∧ ((∃ r, J [] r W') ∨ (∃ r, Jx () r W')) := by
  refine callsIn_of_wp Tryz.func29 rfl trivial ?_ rfl
  simp only [Tryz.ntmps29, List.size_toArray, List.length_cons, List.length_nil, Nat.reduceAdd, Nat.reduceSub, Array.replicate_succ, Array.replicate_zero, List.push_toArray, List.append_toArray, List.nil_append, List.cons_append]
  have hJ' := hide hJ
  have hY' := hide hY
  have hrow' := hide hrow
  have S0 := hide (show ∃ (s : ByteArray) (r : Nat), s.size ≤ 20000 ∧ Boxed W b 9 (.string s) ∧ J (rawL s.data.toList) r W from by
    obtain ⟨r, hr⟩ := h0; exact ⟨s0, r, hz, hbx, hr⟩)
  clear hJ hY hrow hJx hbx hz h0
  gi_wp2
  gi_loopw [3] (fun _ wr => Hid (∃ (s : ByteArray) (r : Nat), s.size ≤ 20000 ∧ Boxed wr b 9 (.string s) ∧ J (rawL s.data.toList) r wr)) (fun _ wr => strAt wr b)
  case atStart => exact S0
  case round =>
    clear S0
    have hst := hrel
    obtain ⟨s, r, hz, hbx, hj⟩ := unhide hst
    clear hst hrel
    by_cases ht : s.data.toList = []
    · have hs0 : s.size = 0 := by rw [Lib.size_eq, ht]; rfl
      have cB := hbx.cell
      have hj' := hide hj
      have ht' := hide ht
      clear hj ht hbx hz
      gi_wp2
      go_end0
      exact ⟨⟨_, rfl⟩, .inl ⟨r, by have := unhide hj'; rw [unhide ht'] at this; exact this⟩⟩
    by_cases hm10 : 10 ∈ s.data.toList
    · obtain ⟨a, rr, ha, h10⟩ := splitA _ hm10
      have hsz : s.size = a.length + 1 + rr.length := by rw [Lib.size_eq, ha]; simp; omega
      have hix : Lib.indexByte s.data.toList ((10 : Int).toNat.toUInt8) = a.length := by rw [ha]; exact idx_pre h10
      have e1 : s.extract 0 (a.length + 1) = ⟨(a ++ [10]).toArray⟩ := by rw [ext_str rfl (Nat.zero_le _), ha, show a ++ 10 :: rr = (a ++ [10]) ++ rr by simp, List.take_left' (by simp)]; rfl
      have e2 : (s.extract (a.length + 1) s.size).data.toList = rr := by rw [ext_str rfl (by omega), ha, show a ++ 10 :: rr = (a ++ [10]) ++ rr by simp, List.take_of_length_le (by simp; omega), List.drop_left' (by simp)]
      have hjl : J ((a ++ [10]) :: rawL rr) r wr := by rw [ha, rawL_pre h10] at hj; exact hj
      have hrb := unhide hrow' _ _ _ hj
      have hix' := hide hix
      have e1' := hide e1
      have e2' := hide e2
      have hj' := hide hjl
      have hbx' := hide hbx
      have cB := hbx.cell
      have fB := hbx.frozen
      have g0 : decide ((0 : Int) < s.size) = true := by simp; omega
      generalize a.length = k at *
      have g1 : decide ((0 : Int) ≤ k) = true := by simp
      have i1 : (0 : Int) ≤ (k : Int) + 1 := by omega
      have i2 : (k : Int) + 1 ≤ s.size := by omega
      have i3 : IntKind.i64.wrap ((k : Int) + 1) = (k : Int) + 1 := by rw [IntKind.wrap_i64]; omega
      have hsz' := hide hsz
      have hbW : Boxed (wr.setCell ⟨b, 0, none⟩ (.string (s.extract (k + 1) s.size))).drew b 9 (.string (s.extract (k + 1) s.size)) := boxed_set9 hbx
      have hJW : J ((a ++ [10]) :: rawL rr) r (wr.setCell ⟨b, 0, none⟩ (.string (s.extract (k + 1) s.size))).drew := unhide hJ' _ _ _ _ (some b) hjl (grown_dr (grownBy_setCell' wr b _)) (fun j e => by cases e; exact ⟨rfl, _, hbW⟩)
      have hbW' := hide hbW
      obtain ⟨fn, tmps, assign, body, hy, hR⟩ := unhide hY' (a ++ [10]) (rawL rr) r _ hJW
      have hy' : (Instr.yield l0 #[.string (s.extract 0 (k + 1))]).run Tryz.prog (wr.setCell ⟨b, 0, none⟩ (.string (s.extract (k + 1) s.size))).drew = .ok (.round l0 fn tmps assign body) (wr.setCell ⟨b, 0, none⟩ (.string (s.extract (k + 1) s.size))).drew := by rw [e1]; exact hy
      clear hy hbW hJW
      clear hj hjl hbx e1 e2 hix ht hm10 ha h10 hsz
      gi_wp2_with fail
      refine ⟨trivial, fun h => by simp [Fence.wide] at h, CallsIn.mono (callsIn_wide.2 (Tryz.strings_IndexByte s 10 _)) ?_⟩
      rintro e w2 ⟨rfl, rfl⟩
      rw [unhide hix']
      gi_wp2_with fail
      gi_region
      gi_wp2_with fail
      refine ⟨fun h => by simp [Fence.wide] at h, hR.mono ?_⟩
      rintro e W3 (⟨rfl, r', hJ3, hk3⟩ | ⟨rfl, r', hJx3⟩)
      · have B3 : Boxed W3 b 9 (.string (s.extract (k + 1) s.size)) := hk3.2 b _ (unhide hbW') rfl (Ne.symm hA) (Ne.symm hrb)
        have m0 : strAt _ b = s.size := strAt_of (unhide hbx')
        have m1 := strAt_of B3
        have hz3 : (s.extract (k + 1) s.size).size = rr.length := by rw [Lib.size_eq, unhide e2']
        have hS3 : Hid (∃ (s : ByteArray) (r : Nat), s.size ≤ 20000 ∧ Boxed W3 b 9 (.string s) ∧ J (rawL s.data.toList) r W3) := hide ⟨_, r', by rw [hz3]; have := unhide hsz'; omega, B3, by rw [unhide e2']; exact hJ3⟩
        have m0' := hide m0
        have m1' := hide m1
        have hz3' := hide hz3
        clear B3 hJ3 hk3 hy' hR cB fB m0 m1 hz3 hz
        gi_wp2
        go_roundw
        case rel => exact hS3
        case measure =>
          have := unhide hsz'
          have := unhide hz3'
          rw [unhide m1', unhide m0']; omega
      · clear hy' hR cB fB
        gi_wp2
        refine bodyPost_ret (results_none rfl _ _ _) rfl ?_
        exact ⟨⟨_, rfl⟩, .inr ⟨r', hJx3⟩⟩
    · have hsz : s.size = s.data.toList.length := Lib.size_eq s
      have hs0 : 0 < s.size := by rw [hsz]; exact List.length_pos_iff.2 ht
      have hix : Lib.indexByte s.data.toList ((10 : Int).toNat.toUInt8) = -1 := idx_no hm10
      have hjl : J (s.data.toList :: []) r wr := by rw [rawL_last hm10 ht] at hj; exact hj
      have hrb := unhide hrow' _ _ _ hj
      have hix' := hide hix
      have hj' := hide hjl
      have hbx' := hide hbx
      have cB := hbx.cell
      have fB := hbx.frozen
      have g0 : decide ((0 : Int) < s.size) = true := by simp; omega
      have hbW : Boxed (wr.setCell ⟨b, 0, none⟩ (.string ⟨#[]⟩)) b 9 (.string ⟨#[]⟩) := boxed_set9 hbx
      have hJW : J (s.data.toList :: []) r (wr.setCell ⟨b, 0, none⟩ (.string ⟨#[]⟩)) := unhide hJ' _ _ _ _ (some b) hjl (grownBy_setCell' wr b _) (fun j e => by cases e; exact ⟨rfl, _, hbW⟩)
      have hbW' := hide hbW
      obtain ⟨fn, tmps, assign, body, hy, hR⟩ := unhide hY' s.data.toList [] r _ hJW
      have hy' : (Instr.yield l0 #[.string s]).run Tryz.prog (wr.setCell ⟨b, 0, none⟩ (.string ⟨#[]⟩)) = .ok (.round l0 fn tmps assign body) (wr.setCell ⟨b, 0, none⟩ (.string ⟨#[]⟩)) := hy
      have hsz' := hide hs0
      clear hy hbW hJW
      clear hj hjl hbx hix ht hm10 hsz hs0
      gi_wp2_with fail
      refine ⟨trivial, fun h => by simp [Fence.wide] at h, CallsIn.mono (callsIn_wide.2 (Tryz.strings_IndexByte s 10 _)) ?_⟩
      rintro e w2 ⟨rfl, rfl⟩
      rw [unhide hix']
      gi_wp2_with fail
      refine ⟨fun h => by simp [Fence.wide] at h, hR.mono ?_⟩
      rintro e W3 (⟨rfl, r', hJ3, hk3⟩ | ⟨rfl, r', hJx3⟩)
      · have B3 : Boxed W3 b 9 (.string ⟨#[]⟩) := hk3.2 b _ (unhide hbW') rfl (Ne.symm hA) (Ne.symm hrb)
        have m0 : strAt _ b = s.size := strAt_of (unhide hbx')
        have m1 := strAt_of B3
        have hS3 : Hid (∃ (s : ByteArray) (r : Nat), s.size ≤ 20000 ∧ Boxed W3 b 9 (.string s) ∧ J (rawL s.data.toList) r W3) := hide ⟨⟨#[]⟩, r', by decide, B3, hJ3⟩
        have m0' := hide m0
        have m1' := hide m1
        clear B3 hJ3 hk3 hy' hR cB fB m0 m1 hz
        gi_wp2
        go_roundw
        case rel => exact hS3
        case measure =>
          have := unhide hsz'
          rw [unhide m1', unhide m0']; exact this
      · clear hy' hR cB fB
        gi_wp2
        refine bodyPost_ret (results_none rfl _ _ _) rfl ?_
        exact ⟨⟨_, rfl⟩, .inr ⟨r', hJx3⟩⟩

theorem lines_seq (n A b : Nat) (s0 : ByteArray) (w : World) (hbx : Boxed w b 9 (.string s0)) (hz : s0.size ≤ 20000) (hA : A ≠ b) :
    SeqB n Tryz.prog 29 #[.pointer (some ⟨b, 0, none⟩)] encL A b (rawL s0.data.toList) w :=
  fun l0 J Jx W hW hJ hJx hrow hY h0 => lines_in n l0 A b s0 W ((hW.block _ hbx.lt).trans hbx) hz hA J Jx hJ hJx hrow hY h0

set_option maxHeartbeats 1000000 in
theorem lines_any (s : ByteArray) (w : World) :
    Calls Tryz.prog 14 #[.string s] w fun e w' => e = .returned (.func (.func 29) #[] #[.pointer (some ⟨w.heap.size, 0, none⟩)]) ∧ w' = w.alloc (.cells #[.string s] 9) := by
  go_enter Tryz.func14, Tryz.ntmps14
  go_wp2
  go_ret
  exact ⟨rfl, rfl⟩

end Go.Proofs.YtioaehjppiodfaaGreatDoor.Ln
