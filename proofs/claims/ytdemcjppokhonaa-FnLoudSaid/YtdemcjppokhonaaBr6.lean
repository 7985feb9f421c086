/-
  What an ordinary run comes to; a row of cells stays one. It names no program; no conditions.
-/
import Derived.Test.YtdemcjppokhonaaBr5
set_option linter.unusedVariables false
set_option linter.unusedSimpArgs false
namespace Go.Proofs.Ytdemcjppokhonaa
open Go Go.Conc
variable {p : Program}

/-- How a step's own access may halt it: ordinarily, or at a variable that waits for its initialiser. -/
def HaltOk (w : World) (h : Halt) : Prop := okHalt h = true ∨ ∃ g c t, h = .unsupported (.initOrder g) ∧ w.heap[g]? = some (.pending c t)

theorem noCell_ok (w : World) (a : Addr) (s : String) : HaltOk w (w.noCell a s) := by
  unfold World.noCell
  cases h : w.heap[a.block]? with
  | none => exact .inl rfl
  | some o =>
    cases o with
    | pending c t => exact .inr ⟨_, c, t, rfl, h⟩
    | _ => exact .inl rfl
theorem farLoad_ok {w : World} {a : Addr} {b : Bool} {h : Halt} (e : w.farLoad p a b = .error h) : HaltOk w h := by
  unfold World.farLoad at e
  split at e
  · split at e
    · cases e
    · cases e; exact .inl rfl
  · cases e; exact noCell_ok _ _ _
theorem farStore_ok {w : World} {a : Addr} {v : Value} {b : Bool} {h : Halt} (e : w.farStore p a v b = .error h) : HaltOk w h := by
  unfold World.farStore at e
  split at e
  · split at e
    · cases e
    · cases e; exact .inl rfl
  · cases e; exact noCell_ok _ _ _

def Came {α : Type} (Q : α → Prop) : Result α → Prop
  | .ok a _ => Q a
  | .halt h w => HaltOk w h

/-- WHAT AN ORDINARY RUN COMES TO. -/
theorem run_leaf {α : Type} {Q : α → Prop} {s : Sem α} (hs : Lf p Q s) : ∀ (w : World) (es : Array Event), Came Q (s.runT p w es).1 := by
  induction s with
  | pure a => exact fun w es => hs
  | load m a k ih =>
    intro w es
    simp only [Sem.runT]
    split
    · exact ih _ (hs _) _ _
    · split
      · exact ih _ (hs _) _ _
      · rename_i e; exact farLoad_ok e
  | store m a v k ih =>
    intro w es
    by_cases h1 : ∃ c, v = .agg c
    · obtain ⟨c, rfl⟩ := h1; exact .inl rfl
    by_cases h2 : ∃ c, v = .tuple c
    · obtain ⟨c, rfl⟩ := h2; exact .inl rfl
    rw [runT_store p m a k w es (fun c e => h1 ⟨c, e⟩) (fun c e => h2 ⟨c, e⟩)]
    split
    · split
      · exact .inl rfl
      · exact ih hs (w.setCell a v) _
    · split
      · exact ih hs _ _
      · rename_i e; exact farStore_ok e
  | new o k ih => exact fun w es => ih w.heap.size (hs _) { w with heap := w.heap.push o } es
  | shape r k ih => exact fun w es => ih _ (hs _) _ _
  | freeze a n k ih => exact fun w es => ih hs _ _
  | frozen a k ih => exact fun w es => ih _ (hs _) _ _
  | getObj r k ih =>
    intro w es
    simp only [Sem.runT]
    split
    · exact .inl rfl
    · exact ih _ (hs _) _ _
    · exact .inl rfl
  | setObj r o k ih => exact hs.elim
  | choose q k ih =>
    intro w es
    simp only [Sem.runT]
    split
    · exact ih _ (hs _) _ _
    · exact ih (q.cut (w.tape w.drawn q)) (hs _) { w with drawn := w.drawn + 1 } es
  | sys c k ih => exact hs.elim
  | program k ih => exact fun w es => ih p hs _ _
  | mark m k ih => exact fun w es => ih hs.2 _ _
  | halt h => exact fun w es => .inl hs

/-- Block g is a row of cells. -/
def CellsAt (w : World) (g : Nat) : Prop := ∃ c t f, w.heap[g]? = some (.cells c t f)

theorem cellsAt_lt {w : World} {g : Nat} (h : CellsAt w g) : g < w.heap.size := by
  obtain ⟨c, t, f, h⟩ := h
  exact (Array.getElem?_eq_some_iff.1 h).1
theorem cellsAt_setCell {w : World} {g : Nat} (h : CellsAt w g) (a : Addr) (v : Value) : CellsAt (w.setCell a v) g := by
  obtain ⟨c, t, f, h⟩ := h
  unfold CellsAt World.setCell
  simp only [Array.getElem?_modify, h]
  split
  · exact ⟨_, _, _, rfl⟩
  · exact ⟨_, _, _, rfl⟩
theorem cellsAt_freeze {w : World} {g : Nat} (h : CellsAt w g) (a : Addr) (n : Nat) : CellsAt (w.freeze a n) g := by
  unfold World.freeze
  split
  · exact h
  · obtain ⟨c, t, f, h⟩ := h
    unfold CellsAt
    simp only [Array.getElem?_modify, h]
    split
    · obtain ⟨lo, hi⟩ := f
      exact ⟨_, _, _, rfl⟩
    · exact ⟨_, _, _, rfl⟩
theorem cellsAt_viewStore {w w' : World} {g : Nat} (h : CellsAt w g) {at_ : Addr} {u : TypeId} {k : Addr} {v : Value} {b : Bool} {l : List Addr} (e : w.viewStore p at_ u k v b = .ok (w', l)) : CellsAt w' g := by
  have key : ∀ o : Obj, (∃ c t f, o = .cells c t f) → CellsAt { w with heap := w.heap.setIfInBounds at_.block o } g := by
    rintro o ⟨c, t, f, rfl⟩
    by_cases hg : at_.block = g
    · subst hg
      exact ⟨c, t, f, by simp [cellsAt_lt h]⟩
    · obtain ⟨c', t', f', h⟩ := h
      exact ⟨c', t', f', by simp [hg, h]⟩
  unfold World.viewStore at e
  cases ht : (!tight p p.depth u) with
  | true => rw [ht] at e; cases e
  | false =>
    simp only [ht, Bool.false_eq_true, if_false, Bind.bind, Except.bind, pure, Except.pure] at e
    cases hs : w.seen p at_ u k b with
    | error x => rw [hs] at e; cases e
    | ok x =>
      obtain ⟨c, e', frozen, first, like, cells⟩ := x
      rw [hs] at e
      dsimp only at e
      cases hb : v.bytes? with
      | none => rw [hb] at e; cases e
      | some bytes =>
        rw [hb] at e
        dsimp only at e
        split at e
        · cases e
        · split at e
          · cases e
          · cases e
            exact key _ ⟨_, _, _, rfl⟩
theorem cellsAt_farStore {w w' : World} {g : Nat} (h : CellsAt w g) {a : Addr} {v : Value} {b : Bool} {l : List Addr} (e : w.farStore p a v b = .ok (w', l)) : CellsAt w' g := by
  unfold World.farStore at e
  split at e
  · split at e
    · rename_i hv; cases e; exact cellsAt_viewStore h hv
    · cases e
  · cases e

/-- A ROW OF CELLS STAYS ONE. -/
theorem run_cells {α : Type} {s : Sem α} (hs : NoSys p s) {g : Nat} : ∀ (w : World) (es : Array Event), CellsAt w g → CellsAt (wof (s.runT p w es).1) g := by
  induction s with
  | pure a => exact fun w es h => h
  | load m a k ih =>
    intro w es h
    simp only [Sem.runT]
    split
    · exact ih _ (hs _) _ _ h
    · split
      · exact ih _ (hs _) _ _ h
      · exact h
  | store m a v k ih =>
    intro w es h
    by_cases h1 : ∃ c, v = .agg c
    · obtain ⟨c, rfl⟩ := h1; exact h
    by_cases h2 : ∃ c, v = .tuple c
    · obtain ⟨c, rfl⟩ := h2; exact h
    rw [runT_store p m a k w es (fun c e => h1 ⟨c, e⟩) (fun c e => h2 ⟨c, e⟩)]
    split
    · split
      · exact h
      · exact ih hs (w.setCell a v) _ (cellsAt_setCell h _ _)
    · split
      · rename_i e; exact ih hs _ _ (cellsAt_farStore h e)
      · exact h
  | new o k ih =>
    intro w es h
    refine ih w.heap.size (hs _) { w with heap := w.heap.push o } es ?_
    have := cellsAt_lt h
    obtain ⟨c, t, f, h⟩ := h
    exact ⟨c, t, f, by simp [Array.getElem?_push, h, Nat.ne_of_lt this]⟩
  | shape r k ih => exact fun w es h => ih _ (hs _) _ _ h
  | freeze a n k ih => exact fun w es h => ih hs _ _ (cellsAt_freeze h _ _)
  | frozen a k ih => exact fun w es h => ih _ (hs _) _ _ h
  | getObj r k ih =>
    intro w es h
    simp only [Sem.runT]
    split
    · exact h
    · exact ih _ (hs _) _ _ h
    · exact h
  | setObj r o k ih => exact hs.elim
  | choose q k ih =>
    intro w es h
    simp only [Sem.runT]
    split
    · exact ih _ (hs _) _ _ h
    · exact ih (q.cut (w.tape w.drawn q)) (hs _) { w with drawn := w.drawn + 1 } es h
  | sys c k ih => exact hs.elim
  | program k ih => exact fun w es h => ih p hs _ _ h
  | mark m k ih => exact fun w es h => ih hs.2 _ _ h
  | halt x => exact fun w es h => h
end Go.Proofs.Ytdemcjppokhonaa
