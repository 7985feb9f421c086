/-
  What is marked stays marked, what is empty stays empty, and no run touches an empty block. It names no program; no conditions.
  The same run where blocks are emptied: the single steps, and one behind the other. It names no program; no conditions.
-/
import Derived.Test.YtpmmimcafkillaaZHs
set_option linter.unusedVariables false
set_option linter.unusedSimpArgs false
namespace Go.Proofs.Ytpmmimcafkillaa.Br
open Go Go.Conc
variable {p : Program} {S : Nat → Prop}

theorem seenCells_nil {e : TypeId} : ∀ {f x stop : Nat} {l : List (Nat × Nat × List UInt8)}, seenCells p #[] e f x stop = .ok l → l = [] ∧ ∀ c, seenCells p c e f x stop = .ok [] := by
  intro f x stop l h
  cases f with
  | zero => cases h
  | succ f =>
    unfold seenCells at h
    by_cases hx : x ≥ stop
    · rw [if_pos hx] at h
      cases h
      exact ⟨rfl, fun c => by unfold seenCells; rw [if_pos hx]⟩
    · rw [if_neg hx] at h
      dsimp only at h
      split at h
      · cases h
      · split at h
        · cases h
        · simp at h

theorem seen_heap {w : World} {at_ : Addr} {u : TypeId} {k : Addr} {b : Bool} {c : Array Value} {e : TypeId} {fr : Nat × Nat} {first : Nat} {like : Value} {cells : List (Nat × Nat × List UInt8)} (h : w.seen p at_ u k b = .ok (c, e, fr, first, like, cells)) :
    w.heap[at_.block]? = some (.cells c e fr) := by
  unfold World.seen at h
  simp only [Bind.bind, Except.bind, pure, Except.pure, throw, throwThe, MonadExceptOf.throw] at h
  repeat' (first | (cases h; done) | split at h)
  all_goals (first | (cases h; done) | (simp only [Except.ok.injEq, Prod.mk.injEq] at h; obtain ⟨rfl, rfl, rfl, _⟩ := h; assumption))

/-- an empty block is seen as nothing, and as nothing where it is whole -/
theorem seen_nil {w W : World} {at_ : Addr} {u : TypeId} {k : Addr} {b : Bool} {e : TypeId} {fr : Nat × Nat} {C c : Array Value} {e' : TypeId} {fr' : Nat × Nat} {first : Nat} {like : Value} {cells : List (Nat × Nat × List UInt8)}
    (hw : w.heap[at_.block]? = some (.cells #[] e fr)) (hW : W.heap[at_.block]? = some (.cells C e fr)) (h : w.seen p at_ u k b = .ok (c, e', fr', first, like, cells)) :
    cells = [] ∧ W.seen p at_ u k b = .ok (C, e', fr', first, like, []) := by
  unfold World.seen at h ⊢
  rw [hw] at h
  rw [hW]
  simp only [Bind.bind, Except.bind, pure, Except.pure, throw, throwThe, MonadExceptOf.throw] at h ⊢
  by_cases h1 : (k.spot.isSome || at_.spot.isSome) = true
  · rw [if_pos h1] at h; cases h
  rw [if_neg h1] at h ⊢
  cases h2 : plainCell p p.depth u k.off with
  | none => rw [h2] at h; cases h
  | some like' =>
    rw [h2] at h
    dsimp only at h ⊢
    cases h3 : like'.bytes?.map (·.length) with
    | none => rw [h3] at h; cases h
    | some size =>
      rw [h3] at h
      dsimp only at h ⊢
      cases h4 : byteOfCell p p.depth u k.off with
      | none => rw [h4] at h; cases h
      | some β =>
        rw [h4] at h
        dsimp only at h ⊢
        by_cases h5 : p.cellsOf e = 0
        · rw [if_pos h5] at h; cases h
        rw [if_neg h5] at h ⊢
        cases h6 : byteOfCell p p.depth e (at_.off % p.cellsOf e) with
        | none => rw [h6] at h; cases h
        | some b0 =>
          rw [h6] at h
          dsimp only at h ⊢
          cases h7 : seenCells p #[] e (size + 1) (at_.off / p.cellsOf e * p.bytesOf e + b0 + β) (at_.off / p.cellsOf e * p.bytesOf e + b0 + β + size) with
          | error x => rw [h7] at h; cases h
          | ok cl =>
            obtain ⟨rfl, h8⟩ := seenCells_nil h7
            rw [h7] at h
            rw [h8]
            dsimp only at h ⊢
            cases b with
            | true => cases h
            | false =>
              cases h
              exact ⟨rfl, rfl⟩

/-- the empty block's far load -/
theorem viewLoad_hid {w W : World} (hh : Hid S w W) {at_ : Addr} {u : TypeId} {k : Addr} {b : Bool} {v : Value} {l : List Addr} (h : w.viewLoad p at_ u k b = .ok (v, l)) : W.viewLoad p at_ u k b = .ok (v, l) ∧ (S at_.block → l = []) := by
  by_cases hs : S at_.block
  · obtain ⟨C, e, h1, h2⟩ := hh.inn _ hs
    unfold World.viewLoad at h ⊢
    simp only [Bind.bind, Except.bind, pure, Except.pure, throw, throwThe, MonadExceptOf.throw] at h ⊢
    cases hx : w.seen p at_ u k b with
    | error x => rw [hx] at h; cases h
    | ok x =>
      obtain ⟨c, e', fr, first, like, cells⟩ := x
      obtain ⟨rfl, h3⟩ := seen_nil h1 h2 hx
      rw [hx] at h
      rw [h3]
      dsimp only at h ⊢
      refine ⟨h, fun _ => ?_⟩
      split at h
      · cases h; rfl
      · cases h
  · have e : W.seen p at_ u k b = w.seen p at_ u k b := by unfold World.seen; rw [hh.out _ hs]
    refine ⟨?_, fun x => absurd x hs⟩
    unfold World.viewLoad at h ⊢
    rw [e]; exact h
theorem viewLoad_at {w : World} {at_ : Addr} {u : TypeId} {k : Addr} {b : Bool} {v : Value} {l : List Addr} (h : w.viewLoad p at_ u k b = .ok (v, l)) : (∀ a ∈ l, a.block = at_.block) ∧ (Em w at_.block → l = []) := by
  unfold World.viewLoad at h
  simp only [Bind.bind, Except.bind, pure, Except.pure, throw, throwThe, MonadExceptOf.throw] at h
  cases hx : w.seen p at_ u k b with
  | error x => rw [hx] at h; cases h
  | ok x =>
    obtain ⟨c, e', fr, first, like, cells⟩ := x
    rw [hx] at h
    dsimp only at h
    split at h
    · cases h
      refine ⟨fun a ha => ?_, fun ⟨e, f, hm⟩ => ?_⟩
      · obtain ⟨y, _, rfl⟩ := List.mem_map.1 ha; rfl
      · obtain ⟨rfl, _⟩ := seen_nil hm hm hx; rfl
    · cases h
theorem viewStore_at {w w' : World} {at_ : Addr} {u : TypeId} {k : Addr} {v : Value} {b : Bool} {l : List Addr} (h : w.viewStore p at_ u k v b = .ok (w', l)) : (∀ a ∈ l, a.block = at_.block) ∧ (Em w at_.block → l = []) := by
  obtain ⟨c, e, fr, first, like, cells, c', h1, _, _, rfl⟩ := viewStore_ok h
  refine ⟨fun a ha => ?_, fun ⟨e, f, hm⟩ => ?_⟩
  · obtain ⟨y, _, rfl⟩ := List.mem_map.1 ha; rfl
  · obtain ⟨rfl, _⟩ := seen_nil hm hm h1; rfl

theorem em_setCell {w : World} {a : Addr} {v : Value} {b : Nat} (h : Em w b) : Em (w.setCell a v) b := by
  obtain ⟨e, f, h⟩ := h
  unfold Em World.setCell
  simp only [Array.getElem?_modify, h]
  split
  · refine ⟨e, f, ?_⟩
    simp only [Option.map_some, Option.some.injEq, Obj.cells.injEq, and_self, and_true]
    split
    · rfl
    · simp
  · exact ⟨e, f, rfl⟩
theorem em_freeze {w : World} {a : Addr} {n : Nat} {b : Nat} (h : Em w b) : Em (w.freeze a n) b := by
  obtain ⟨e, f, h⟩ := h
  unfold World.freeze
  split
  · exact ⟨e, f, h⟩
  · unfold Em
    simp only [Array.getElem?_modify, h]
    split
    · obtain ⟨lo, hi⟩ := f
      exact ⟨e, _, rfl⟩
    · exact ⟨e, f, rfl⟩
theorem em_lt {w : World} {b : Nat} (h : Em w b) : b < w.heap.size := by
  obtain ⟨e, f, h⟩ := h
  exact (Array.getElem?_eq_some_iff.1 h).1
theorem em_viewStore {w w' : World} {at_ : Addr} {u : TypeId} {k : Addr} {v : Value} {x : Bool} {l : List Addr} (h : w.viewStore p at_ u k v x = .ok (w', l)) {b : Nat} (hb : Em w b) : Em w' b := by
  obtain ⟨c, e, fr, first, like, cells, c', h1, rfl, h3, rfl⟩ := viewStore_ok h
  have hs := seen_heap h1
  by_cases hg : at_.block = b
  · subst hg
    obtain ⟨e2, f2, hb⟩ := hb
    rw [hs] at hb
    cases hb
    refine ⟨e, fr, ?_⟩
    have hlt := (Array.getElem?_eq_some_iff.1 hs).1
    have : c' = #[] := by simpa using h3
    simp [hlt, this]
  · obtain ⟨e2, f2, hb⟩ := hb
    exact ⟨e2, f2, by simp [hg, hb]⟩
theorem back_viewStore {w w' : World} {at_ : Addr} {u : TypeId} {k : Addr} {v : Value} {x : Bool} {l : List Addr} (h : w.viewStore p at_ u k v x = .ok (w', l)) {b : Nat} (hb : Pz w' b) : Pz w b := by
  obtain ⟨c, e, fr, first, like, cells, c', h1, rfl, h3, rfl⟩ := viewStore_ok h
  have hs := seen_heap h1
  have hlt := (Array.getElem?_eq_some_iff.1 hs).1
  obtain ⟨e2, hb⟩ := hb
  by_cases hg : at_.block = b
  · subst hg
    simp only [Array.getElem?_setIfInBounds_self_of_lt hlt, Option.some.injEq, Obj.cells.injEq] at hb
    obtain ⟨hc, rfl, rfl⟩ := hb
    rw [hc] at h3
    have : c = #[] := by simpa using h3.symm
    rw [this] at hs
    exact ⟨_, hs⟩
  · rw [Array.getElem?_setIfInBounds_ne hg] at hb
    exact ⟨e2, hb⟩
theorem farStore_view {w w' : World} {a : Addr} {v : Value} {b : Bool} {l : List Addr} (h : w.farStore p a v b = .ok (w', l)) : ∃ at_ u, w.heap[a.block]? = some (.view at_ u) ∧ w.viewStore p at_ u a v b = .ok (w', l) := by
  unfold World.farStore at h
  split at h
  · rename_i at_ u hv
    split at h
    · rename_i hx; cases h; exact ⟨at_, u, hv, hx⟩
    · cases h
  · cases h
theorem farLoad_view {w : World} {a : Addr} {b : Bool} {v : Value} {l : List Addr} (h : w.farLoad p a b = .ok (v, l)) : ∃ at_ u, w.heap[a.block]? = some (.view at_ u) ∧ w.viewLoad p at_ u a b = .ok (v, l) := by
  unfold World.farLoad at h
  split at h
  · rename_i at_ u hv
    split at h
    · rename_i hx; cases h; exact ⟨at_, u, hv, hx⟩
    · cases h
  · cases h
theorem viewStore_size {w w' : World} {at_ : Addr} {u : TypeId} {k : Addr} {v : Value} {x : Bool} {l : List Addr} (h : w.viewStore p at_ u k v x = .ok (w', l)) : w'.heap.size = w.heap.size := by
  obtain ⟨c, e, fr, first, like, cells, c', h1, rfl, h3, rfl⟩ := viewStore_ok h
  simp
theorem setCell_size (w : World) (a : Addr) (v : Value) : (w.setCell a v).heap.size = w.heap.size := by unfold World.setCell; simp
theorem freeze_size (w : World) (a : Addr) (n : Nat) : (w.freeze a n).heap.size = w.heap.size := by unfold World.freeze; split <;> simp

/-- the event names no block of S -/
def EvS (S : Nat → Prop) (e : Event) : Prop := ∀ a, e.loc = .cell a → ¬ S a.block
theorem evs_push {es : Array Event} {e : Event} (h : ∀ e ∈ es, EvS S e) (he : EvS S e) : ∀ x ∈ es.push e, EvS S x := fun x hx => by
  rcases Array.mem_push.1 hx with hx | rfl
  · exact h x hx
  · exact he
theorem evs_cells {es : Array Event} (h : ∀ e ∈ es, EvS S e) (l : List Addr) (x y : Bool) (hl : ∀ a ∈ l, ¬ S a.block) : ∀ e ∈ es ++ l.toArray.map (⟨.cell ·, x, y⟩), EvS S e := fun e he => by
  rcases Array.mem_append.1 he with he | he
  · exact h e he
  · obtain ⟨a, ha, rfl⟩ := Array.mem_map.1 he
    intro a' e
    cases e
    exact hl a (by simpa using ha)
theorem cell_em {w : World} {a : Addr} {v : Value} (h : w.cell? a = some v) : ¬ Em w a.block := by
  rintro ⟨e, f, hm⟩
  unfold World.cell? at h
  rw [hm] at h
  simp at h

/-- WHAT A RUN LEAVES: what is marked stays so, what is empty stays so and is not touched. -/
structure Left (S : Nat → Prop) (w w' : World) (es' : Array Event) : Prop where
  back : ∀ b, b < w.heap.size → Pz w' b → Pz w b
  size : w.heap.size ≤ w'.heap.size
  em : ∀ b, Em w b → Em w' b
  evs : ∀ e ∈ es', EvS S e

theorem run_left {α : Type} {s : Sem α} (hs : NoSys p s) : ∀ (w : World) (es : Array Event), (∀ b, S b → Em w b) → (∀ e ∈ es, EvS S e) → Left S w (wof (s.runT p w es).1) (s.runT p w es).2 := by
  have self : ∀ (w : World) (es : Array Event), (∀ e ∈ es, EvS S e) → Left S w w es := fun w es h => ⟨fun _ _ h => h, Nat.le_refl _, fun _ h => h, h⟩
  have via : ∀ {w w1 w2 : World} {es2 : Array Event}, (∀ b, b < w.heap.size → Pz w1 b → Pz w b) → w.heap.size ≤ w1.heap.size → (∀ b, Em w b → Em w1 b) → Left S w1 w2 es2 → Left S w w2 es2 :=
    fun h1 h2 h3 h => ⟨fun b hb hp => h1 b hb (h.back b (by omega) hp), Nat.le_trans h2 h.size, fun b hb => h.em b (h3 b hb), h.evs⟩
  induction s with
  | pure a => exact fun w es hS h => self w es h
  | load m a k ih =>
    intro w es hS h
    simp only [Sem.runT]
    split
    · rename_i v hc
      exact ih _ (hs _) _ _ hS (evs_push h fun a' e => by cases e; exact fun x => cell_em hc (hS _ x))
    · split
      · rename_i v l hf
        obtain ⟨at_, u, _, hv⟩ := farLoad_view hf
        obtain ⟨h1, h2⟩ := viewLoad_at hv
        refine ih _ (hs _) _ _ hS (evs_cells h _ _ _ fun a ha x => ?_)
        rw [h1 a ha] at x
        rw [h2 (hS _ x)] at ha
        cases ha
      · exact self w es h
  | store m a v k ih =>
    intro w es hS h
    by_cases h1 : ∃ c, v = .agg c
    · obtain ⟨c, rfl⟩ := h1; exact self w es h
    by_cases h2 : ∃ c, v = .tuple c
    · obtain ⟨c, rfl⟩ := h2; exact self w es h
    rw [runT_store p m a k w es (fun c e => h1 ⟨c, e⟩) (fun c e => h2 ⟨c, e⟩)]
    split
    · rename_i v' hc
      split
      · exact self w es h
      · exact via (fun b _ hb => back_setCell hb) (by rw [setCell_size]; exact Nat.le_refl _) (fun b hb => em_setCell hb) (ih hs (w.setCell a v) _ (fun b hb => em_setCell (hS b hb)) (evs_push h fun a' e => by cases e; exact fun x => cell_em hc (hS _ x)))
    · split
      · rename_i w' l hf
        obtain ⟨at_, u, _, hv⟩ := farStore_view hf
        obtain ⟨h1, h2⟩ := viewStore_at hv
        refine via (fun b _ hb => back_viewStore hv hb) (by rw [viewStore_size hv]; exact Nat.le_refl _) (fun b hb => em_viewStore hv hb) (ih hs _ _ (fun b hb => em_viewStore hv (hS b hb)) (evs_cells h _ _ _ fun a ha x => ?_))
        rw [h1 a ha] at x
        rw [h2 (hS _ x)] at ha
        cases ha
      · exact self w es h
  | new o k ih =>
    intro w es hS h
    have em : ∀ b, Em w b → Em { w with heap := w.heap.push o } b := fun b hb => by
      have := em_lt hb
      obtain ⟨e, f, hb⟩ := hb
      exact ⟨e, f, by simp [Array.getElem?_push, hb, Nat.ne_of_lt this]⟩
    refine via (fun b hb hp => ?_) (by simp) em (ih w.heap.size (hs _) { w with heap := w.heap.push o } es (fun b hb => em b (hS b hb)) h)
    obtain ⟨e, hp⟩ := hp
    exact ⟨e, by simpa [Array.getElem?_push, Nat.ne_of_lt hb] using hp⟩
  | shape r k ih => exact fun w es hS h => ih _ (hs _) _ _ hS h
  | freeze a n k ih => exact fun w es hS h => via (fun b _ hb => (back_freeze hb).1) (by rw [freeze_size]; exact Nat.le_refl _) (fun b hb => em_freeze hb) (ih hs (w.freeze a n) _ (fun b hb => em_freeze (hS b hb)) h)
  | frozen a k ih => exact fun w es hS h => ih _ (hs _) _ _ hS h
  | getObj r k ih =>
    intro w es hS h
    simp only [Sem.runT]
    split
    · exact self w es h
    · exact ih _ (hs _) _ _ hS (evs_push h fun a' e => by cases e)
    · exact self w es h
  | setObj r o k ih => exact hs.elim
  | choose q k ih =>
    intro w es hS h
    simp only [Sem.runT]
    split
    · exact ih _ (hs _) _ _ hS h
    · exact via (w1 := { w with drawn := w.drawn + 1 }) (fun _ _ h => h) (Nat.le_refl _) (fun _ h => h) (ih (q.cut (w.tape w.drawn q)) (hs _) { w with drawn := w.drawn + 1 } es hS h)
  | sys c k ih => exact hs.elim
  | program k ih => exact fun w es hS h => ih p hs _ _ hS h
  | mark m k ih => exact fun w es hS h => ih hs.2 _ _ hS (evs_push h fun a' e => by cases e)
  | halt x => exact fun w es hS h => self w es h

theorem lost_run {α : Type} {s : Sem α} (hs : NoSys p s) {w : World} (es : Array Event) (h : Lost S w) : Lost S (wof (s.runT p w es).1) := by
  obtain ⟨b, hb, hlt, hn⟩ := h
  have hl := run_left (S := fun _ => False) hs w #[] (fun _ h => h.elim) (by simp)
  have e : wof (s.runT p w es).1 = wof (s.runT p w #[]).1 := by rw [Sem.runT_fst, Sem.runT_fst]
  rw [e]
  exact ⟨b, hb, Nat.lt_of_lt_of_le hlt hl.size, fun hp => hn (hl.back b hlt hp)⟩
end Go.Proofs.Ytpmmimcafkillaa.Br

set_option linter.unusedVariables false
set_option linter.unusedSimpArgs false
namespace Go.Proofs.Ytpmmimcafkillaa.Br
open Go Go.Conc
variable {p : Program} {S : Nat → Prop}

/-- The run where blocks are emptied is the run. -/
def Sm (p : Program) {α : Type} (s : Sem α) : Prop := NoSys p s ∧ ∀ (S : Nat → Prop) (w W : World) (es : Array Event), Hid S w W → Rs S (s.runT p w es) (s.runT p W es)

theorem Sm.ns {α : Type} {s : Sem α} (h : Sm p s) : NoSys p s := h.1

theorem sm_pure {α : Type} (a : α) : Sm p (pure a : Sem α) := ⟨trivial, fun S w W es h => .inr ⟨W, rfl, h⟩⟩
theorem sm_bind {α β : Type} {s : Sem α} {f : α → Sem β} (hs : Sm p s) (hf : ∀ a, Sm p (f a)) : Sm p (s >>= f) := by
  refine ⟨NoSys.bind hs.1 fun a => (hf a).1, fun S w W es h => ?_⟩
  show Rs S ((s.bind f).runT p w es) ((s.bind f).runT p W es)
  have h1 := hs.2 S w W es h
  rw [Sem.runT_bind', Sem.runT_bind']
  cases hr : s.runT p w es with
  | mk r es1 =>
    rw [hr] at h1
    cases r with
    | ok a w' =>
      simp only [Rs] at h1
      rcases h1 with hl | ⟨W', e, hh⟩
      · have := lost_run (hf a).1 es1 hl
        simp only [Rs]
        cases hr2 : ((f a).runT p w' es1).1 with
        | ok b w2 => rw [hr2] at this; simp only [hr2]; exact .inl this
        | halt b w2 => rw [hr2] at this; simp only [hr2]; exact .inr (.inl this)
      · rw [e]; exact (hf a).2 S w' W' es1 hh
    | halt x w' =>
      simp only [Rs] at h1 ⊢
      rcases h1 with hl | hl | ⟨W', e, hh⟩
      · exact .inl hl
      · exact .inr (.inl hl)
      · rw [e]; exact .inr (.inr ⟨W', rfl, hh⟩)
theorem sm_map {α β : Type} {s : Sem α} (f : α → β) (hs : Sm p s) : Sm p (f <$> s) := sm_bind hs fun _ => sm_pure _
theorem sm_unsupported {α : Type} (u : Unsupported) (h : okHalt (.unsupported u) = true) : Sm p (unsupported u : Sem α) := ⟨h, fun S w W es hh => .inl fun v e => by cases e⟩
theorem sm_stuck {α : Type} (s : String) : Sm p (stuck s : Sem α) := ⟨rfl, fun S w W es hh => .inl fun v e => by cases e⟩
theorem sm_goPanic {α : Type} (v : Value) : Sm p (goPanic v : Sem α) := ⟨rfl, fun S w W es hh => .inr (.inr ⟨W, rfl, hh⟩)⟩

theorem Hid.cell {w W : World} (h : Hid S w W) {a : Addr} (ha : ¬ S a.block) : W.cell? a = w.cell? a := by unfold World.cell?; rw [h.out _ ha]
theorem Hid.frozen {w W : World} (h : Hid S w W) (a : Addr) : W.frozen? a = w.frozen? a := by
  unfold World.frozen?
  by_cases ha : S a.block
  · obtain ⟨c, e, h1, h2⟩ := h.inn _ ha
    rw [h1, h2]
  · rw [h.out _ ha]
theorem Hid.noCell {w W : World} (h : Hid S w W) {a : Addr} (ha : S a.block) : w.cell? a = none := by
  obtain ⟨c, e, h1, h2⟩ := h.inn _ ha
  unfold World.cell?; rw [h1]; simp
theorem Hid.modify {w W : World} (h : Hid S w W) {b : Nat} (hb : ¬ S b) (f : Obj → Obj) : Hid S { w with heap := w.heap.modify b f } { W with heap := W.heap.modify b f } := by
  refine ⟨h.tape, h.drawn, h.os, h.output, by simp [h.size], fun x hx => ?_, fun x hx => ?_⟩
  · simp only [Array.getElem?_modify, h.out x hx]
  · have : b ≠ x := fun e => hb (e ▸ hx)
    simp only [Array.getElem?_modify, if_neg this]
    exact h.inn x hx
theorem Hid.put {w W : World} (h : Hid S w W) {b : Nat} (hb : ¬ S b) (o : Obj) : Hid S { w with heap := w.heap.setIfInBounds b o } { W with heap := W.heap.setIfInBounds b o } := by
  refine ⟨h.tape, h.drawn, h.os, h.output, by simp [h.size], fun x hx => ?_, fun x hx => ?_⟩
  · simp only [Array.getElem?_setIfInBounds, h.out x hx, h.size]
  · have : b ≠ x := fun e => hb (e ▸ hx)
    simp only [Array.getElem?_setIfInBounds_ne this]
    exact h.inn x hx
theorem Hid.push {w W : World} (h : Hid S w W) (o : Obj) : Hid S { w with heap := w.heap.push o } { W with heap := W.heap.push o } := by
  refine ⟨h.tape, h.drawn, h.os, h.output, by simp [h.size], fun x hx => ?_, fun x hx => ?_⟩
  · simp only [Array.getElem?_push, h.out x hx, h.size]
  · have := h.lt hx
    obtain ⟨c, e, h1, h2⟩ := h.inn x hx
    exact ⟨c, e, by simp [Array.getElem?_push, h1, Nat.ne_of_lt this], by simp [Array.getElem?_push, h2, h.size, Nat.ne_of_lt this]⟩
theorem Hid.drew {w W : World} (h : Hid S w W) (d : Nat) : Hid S { w with drawn := d } { W with drawn := d } := ⟨h.tape, rfl, h.os, h.output, h.size, h.out, h.inn⟩

theorem sm_load (a : Addr) (m : Mode) : Sm p (load a m) := by
  refine ⟨fun _ => trivial, fun S w W es h => ?_⟩
  unfold load
  simp only [Sem.runT]
  by_cases ha : S a.block
  · obtain ⟨c, e, h1, h2⟩ := h.inn _ ha
    simp only [h.noCell ha, World.farLoad, h1, World.noCell]
    exact .inl fun v e => by cases e
  · rw [h.cell ha]
    cases hc : w.cell? a with
    | some v => exact .inr ⟨W, rfl, h⟩
    | none =>
      simp only
      cases hf : w.farLoad p a (m == .atomic) with
      | error x =>
        refine .inl fun v e => ?_
        subst e
        unfold World.farLoad at hf
        split at hf
        · split at hf <;> cases hf
        · unfold World.noCell at hf
          split at hf <;> cases hf
      | ok x =>
        obtain ⟨v, l⟩ := x
        obtain ⟨at_, u, h1, h2⟩ := farLoad_view hf
        have h3 := (viewLoad_hid h h2).1
        have : W.farLoad p a (m == .atomic) = .ok (v, l) := by unfold World.farLoad; rw [h.out _ ha, h1]; simp only [h3]
        rw [this]
        exact .inr ⟨W, rfl, h⟩
theorem viewStore_hid {w W w' : World} (h : Hid S w W) {at_ : Addr} {u : TypeId} {k : Addr} {v : Value} {b : Bool} {l : List Addr} (hv : w.viewStore p at_ u k v b = .ok (w', l)) :
    ∃ W', W.viewStore p at_ u k v b = .ok (W', l) ∧ Hid S w' W' := by
  by_cases hs : S at_.block
  · obtain ⟨C, e, h1, h2⟩ := h.inn _ hs
    unfold World.viewStore at hv ⊢
    cases ht : (!tight p p.depth u) with
    | true => rw [ht] at hv; cases hv
    | false =>
      simp only [ht, Bool.false_eq_true, if_false, Bind.bind, Except.bind, pure, Except.pure] at hv ⊢
      cases hx : w.seen p at_ u k b with
      | error x => rw [hx] at hv; cases hv
      | ok x =>
        obtain ⟨c, e', fr, first, like, cells⟩ := x
        have h4 := seen_heap hx
        obtain ⟨rfl, h3⟩ := seen_nil h1 h2 hx
        rw [hx] at hv
        rw [h3]
        dsimp only at hv ⊢
        cases hb : v.bytes? with
        | none => rw [hb] at hv; cases hv
        | some bytes =>
          rw [hb] at hv
          dsimp only at hv ⊢
          split at hv
          · cases hv
          · rename_i hlen
            rw [if_neg hlen]
            simp only [List.foldlM_nil, pure, Except.pure] at hv ⊢
            cases hv
            rw [h1] at h4
            cases h4
            refine ⟨_, rfl, h.tape, h.drawn, h.os, h.output, by simp [h.size], fun x hx => ?_, fun x hx => ?_⟩
            · have : at_.block ≠ x := fun e => hx (e ▸ hs)
              simp only [Array.getElem?_setIfInBounds_ne this, h.out x hx]
            · by_cases hbx : at_.block = x
              · subst hbx
                have l1 := h.lt hx
                exact ⟨C, e, by simp [l1], by simp [h.size, l1]⟩
              · simp only [Array.getElem?_setIfInBounds_ne hbx]
                exact h.inn x hx
  · have e : W.seen p at_ u k b = w.seen p at_ u k b := by unfold World.seen; rw [h.out _ hs]
    obtain ⟨c, e', fr, first, like, cells, c', g1, rfl, g3, rfl⟩ := viewStore_ok hv
    refine ⟨{ W with heap := W.heap.setIfInBounds at_.block (.cells c' e' fr) }, ?_, h.put hs _⟩
    unfold World.viewStore at hv ⊢
    cases ht : (!tight p p.depth u) with
    | true => rw [ht] at hv; cases hv
    | false =>
      simp only [ht, Bool.false_eq_true, if_false, Bind.bind, Except.bind, pure, Except.pure, e, g1] at hv ⊢
      cases hb : v.bytes? with
      | none => rw [hb] at hv; cases hv
      | some bytes =>
        rw [hb] at hv
        dsimp only at hv ⊢
        split at hv
        · cases hv
        · rename_i hlen
          rw [if_neg hlen]
          split at hv
          · cases hv
          · rename_i c2 hc2
            simp only [Except.ok.injEq, Prod.mk.injEq, World.mk.injEq, and_self, and_true] at hv
            simp only [Except.ok.injEq, Prod.mk.injEq, World.mk.injEq, and_self, and_true]
            have hlt := (Array.getElem?_eq_some_iff.1 (seen_heap g1)).1
            have := congrArg (fun x : Array Obj => x[at_.block]?) hv
            simp only [Array.getElem?_setIfInBounds_self_of_lt hlt, Option.some.injEq, Obj.cells.injEq, and_self, and_true] at this
            rw [this]
theorem sm_store (a : Addr) (v : Value) (m : Mode) : Sm p (store a v m) := by
  refine ⟨trivial, fun S w W es h => ?_⟩
  unfold store
  by_cases h1 : ∃ c, v = .agg c
  · obtain ⟨c, rfl⟩ := h1; exact .inl fun v e => by cases e
  by_cases h2 : ∃ c, v = .tuple c
  · obtain ⟨c, rfl⟩ := h2; exact .inl fun v e => by cases e
  rw [runT_store p m a _ w es (fun c e => h1 ⟨c, e⟩) (fun c e => h2 ⟨c, e⟩), runT_store p m a _ W es (fun c e => h1 ⟨c, e⟩) (fun c e => h2 ⟨c, e⟩)]
  by_cases ha : S a.block
  · obtain ⟨c, e, h1, h2⟩ := h.inn _ ha
    simp only [h.noCell ha, World.farStore, h1, World.noCell]
    exact .inl fun v e => by cases e
  · rw [h.cell ha, h.frozen]
    cases hc : w.cell? a with
    | some v' =>
      simp only
      split
      · exact .inl fun v e => by cases e
      · refine .inr ⟨_, rfl, ?_⟩
        exact h.modify ha _
    | none =>
      simp only
      cases hf : w.farStore p a v (m == .atomic) with
      | error x =>
        refine .inl fun v e => ?_
        subst e
        unfold World.farStore at hf
        split at hf
        · split at hf <;> cases hf
        · unfold World.noCell at hf
          split at hf <;> cases hf
      | ok x =>
        obtain ⟨w', l⟩ := x
        obtain ⟨at_, u, h1, h2⟩ := farStore_view hf
        obtain ⟨W', h3, h4⟩ := viewStore_hid h h2
        have : W.farStore p a v (m == .atomic) = .ok (W', l) := by unfold World.farStore; rw [h.out _ ha, h1]; simp only [h3]
        rw [this]
        exact .inr ⟨W', rfl, h4⟩
theorem sm_newObj (o : Obj) : Sm p (newObj o) := ⟨fun _ => trivial, fun S w W es h => by
  unfold newObj
  simp only [Sem.runT, h.size]
  exact .inr ⟨_, rfl, h.push o⟩⟩
theorem sm_freeze (a : Addr) (n : Nat) : Sm p (freeze a n) := by
  refine ⟨trivial, fun S w W es h => ?_⟩
  unfold freeze
  simp only [Sem.runT]
  by_cases h0 : n = 0
  · subst h0
    exact .inr ⟨W, rfl, h⟩
  by_cases ha : S a.block
  · refine .inl ⟨a.block, ha, ?_, fun hp => ((back_freeze hp).2 h0) rfl⟩
    rw [freeze_size]; exact h.lt ha
  · refine .inr ⟨_, rfl, ?_⟩
    unfold World.freeze
    rw [if_neg h0, if_neg h0]
    exact h.modify ha _
theorem sm_frozen (a : Addr) : Sm p (frozen a) := ⟨fun _ => trivial, fun S w W es h => by
  unfold frozen
  simp only [Sem.runT, h.frozen]
  exact .inr ⟨_, rfl, h⟩⟩
theorem sm_getObj (r : Nat) : Sm p (getObj r) := by
  refine ⟨fun _ => trivial, fun S w W es h => ?_⟩
  unfold getObj
  simp only [Sem.runT]
  by_cases ha : S r
  · obtain ⟨c, e, h1, h2⟩ := h.inn _ ha
    rw [h1]
    exact .inl fun v e => by cases e
  · rw [h.out _ ha]
    split
    · exact .inl fun v e => by cases e
    · exact .inr ⟨W, rfl, h⟩
    · exact .inl fun v e => by cases e
theorem sm_choose (q : Question) : Sm p (choose q) := by
  refine ⟨fun _ => trivial, fun S w W es h => ?_⟩
  unfold choose
  simp only [Sem.runT, h.tape, h.drawn]
  split
  · exact .inr ⟨W, rfl, h⟩
  · exact .inr ⟨_, rfl, rfl, rfl, h.os, h.output, h.size, h.out, h.inn⟩
theorem sm_program : Sm p program := ⟨trivial, fun S w W es h => .inr ⟨W, rfl, h⟩⟩
theorem sm_mark : Sm p (mark .noRoom) := ⟨⟨rfl, trivial⟩, fun S w W es h => .inr ⟨W, rfl, h⟩⟩

/-! asking for a block's shape -/
theorem Hid.shape {w W : World} (h : Hid S w W) {r : Nat} (hr : ¬ S r) : W.shape? r = w.shape? r := by unfold World.shape?; rw [h.out _ hr]
theorem Hid.shapes {w W : World} (h : Hid S w W) {r : Nat} (hr : S r) : ∃ e n, w.shape? r = some (e, 0) ∧ W.shape? r = some (e, n) := by
  obtain ⟨c, e, h1, h2⟩ := h.inn _ hr
  exact ⟨e, c.size, by unfold World.shape?; rw [h1]; rfl, by unfold World.shape?; rw [h2]⟩
theorem sm_shapeK {α : Type} (r : Nat) (k : Option (TypeId × Nat) → Sem α) (hk : ∀ s, Sm p (k s))
    (hS : ∀ (S : Nat → Prop) (w W : World) (es : Array Event) (e : TypeId) (n : Nat), Hid S w W → S r → Rs S ((k (some (e, 0))).runT p w es) ((k (some (e, n))).runT p W es)) : Sm p (Go.shape r >>= k) := by
  refine ⟨NoSys.bind (fun _ => trivial) fun a => (hk a).1, fun S w W es h => ?_⟩
  show Rs S ((k (w.shape? r)).runT p w es) ((k (W.shape? r)).runT p W es)
  by_cases hr : S r
  · obtain ⟨e, n, h1, h2⟩ := h.shapes hr
    rw [h1, h2]
    exact hS S w W es e n h hr
  · rw [h.shape hr]
    exact (hk _).2 S w W es h
theorem sm_shapeC {α : Type} (r : Nat) (k : Option (TypeId × Nat) → Sem α) (hk : ∀ s, Sm p (k s)) (hc : ∀ e n, k (some (e, n)) = k (some (e, 0))) : Sm p (Go.shape r >>= k) :=
  sm_shapeK r k hk fun S w W es e n h _ => by rw [hc e n]; exact (hk _).2 S w W es h
end Go.Proofs.Ytpmmimcafkillaa.Br
