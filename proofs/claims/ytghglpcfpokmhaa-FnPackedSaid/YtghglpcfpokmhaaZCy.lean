/-
  A row of cells stays one, whatever is run; so no run of ordinary code waits for a global variable whose cells are there. It names no program; no conditions.
  Two frames to stand below a call: where the call returns, the run ends well in five steps that list nothing; where it panics, the run ends at once, and not well. It names no program.
  What dies of a fatal error writes, or waits, or ends the run, and not well. It names no program; no conditions.
  A starter of workers that stands anywhere on its way to the return is not lost: it does not die of a fatal error, nor panic above the two frames that tell. It names no program; of the anchor it asks that nobody is lost there.
-/
import Derived.Test.YtghglpcfpokmhaaZCu
import Derived.Conc.CrowdRun
set_option linter.unusedVariables false
set_option linter.unusedSimpArgs false
namespace Go.Proofs.Ytghglpcfpokmhaa.Ct
open Go Go.Conc
variable {p : Program}

/-- How a step's own access may halt it: ordinarily, or at a variable that waits for its initialiser. -/
def HaltOk (w : World) (h : Halt) : Prop := (∀ g, h ≠ .unsupported (.initOrder g)) ∨ ∃ g c t, h = .unsupported (.initOrder g) ∧ w.heap[g]? = some (.pending c t)

theorem noCell_ok (w : World) (a : Addr) (s : String) : HaltOk w (w.noCell a s) := by
  unfold World.noCell
  cases h : w.heap[a.block]? with
  | none => exact .inl (by simp)
  | some o =>
    cases o with
    | pending c t => exact .inr ⟨_, c, t, rfl, h⟩
    | _ => exact .inl (by simp)
theorem farLoad_ok {w : World} {a : Addr} {b : Bool} {h : Halt} (e : w.farLoad p a b = .error h) : HaltOk w h := by
  unfold World.farLoad at e
  split at e
  · split at e
    · cases e
    · cases e; exact .inl (by simp)
  · cases e; exact noCell_ok _ _ _
theorem farStore_ok {w : World} {a : Addr} {v : Value} {b : Bool} {h : Halt} (e : w.farStore p a v b = .error h) : HaltOk w h := by
  unfold World.farStore at e
  split at e
  · split at e
    · cases e
    · cases e; exact .inl (by simp)
  · cases e; exact noCell_ok _ _ _

/-- Block g is a row of cells. -/
def CellsAt (w : World) (g : Nat) : Prop := ∃ c t f, w.heap[g]? = some (.cells c t f)

theorem cellsAt_lt {w : World} {g : Nat} (h : CellsAt w g) : g < w.heap.size := by
  obtain ⟨c, t, f, h⟩ := h
  exact (Array.getElem?_eq_some_iff.1 h).1
theorem cellsAt_setCell {w : World} {g : Nat} (h : CellsAt w g) (a : Addr) (v : Value) : CellsAt (w.setCell a v) g := by
  obtain ⟨c, t, f, h⟩ := h
  unfold CellsAt World.setCell
  simp only [Array.getElem?_modify, h]
  split
  · exact ⟨_, _, _, rfl⟩
  · exact ⟨_, _, _, rfl⟩
theorem cellsAt_freeze {w : World} {g : Nat} (h : CellsAt w g) (a : Addr) (n : Nat) : CellsAt (w.freeze a n) g := by
  unfold World.freeze
  split
  · exact h
  · obtain ⟨c, t, f, h⟩ := h
    unfold CellsAt
    simp only [Array.getElem?_modify, h]
    split
    · obtain ⟨lo, hi⟩ := f
      exact ⟨_, _, _, rfl⟩
    · exact ⟨_, _, _, rfl⟩
theorem cellsAt_viewStore {w w' : World} {g : Nat} (h : CellsAt w g) {at_ : Addr} {u : TypeId} {k : Addr} {v : Value} {b : Bool} {l : List Addr} (e : w.viewStore p at_ u k v b = .ok (w', l)) : CellsAt w' g := by
  have key : ∀ o : Obj, (∃ c t f, o = .cells c t f) → CellsAt { w with heap := w.heap.setIfInBounds at_.block o } g := by
    rintro o ⟨c, t, f, rfl⟩
    by_cases hg : at_.block = g
    · subst hg
      exact ⟨c, t, f, by simp [cellsAt_lt h]⟩
    · obtain ⟨c', t', f', h⟩ := h
      exact ⟨c', t', f', by simp [hg, h]⟩
  unfold World.viewStore at e
  cases ht : (!tight p p.depth u) with
  | true => rw [ht] at e; cases e
  | false =>
    simp only [ht, Bool.false_eq_true, if_false, Bind.bind, Except.bind, pure, Except.pure] at e
    cases hs : w.seen p at_ u k b with
    | error x => rw [hs] at e; cases e
    | ok x =>
      obtain ⟨c, e', frozen, first, like, cells⟩ := x
      rw [hs] at e
      dsimp only at e
      cases hb : v.bytes? with
      | none => rw [hb] at e; cases e
      | some bytes =>
        rw [hb] at e
        dsimp only at e
        split at e
        · cases e
        · split at e
          · cases e
          · cases e
            exact key _ ⟨_, _, _, rfl⟩
theorem cellsAt_farStore {w w' : World} {g : Nat} (h : CellsAt w g) {a : Addr} {v : Value} {b : Bool} {l : List Addr} (e : w.farStore p a v b = .ok (w', l)) : CellsAt w' g := by
  unfold World.farStore at e
  split at e
  · split at e
    · rename_i hv; cases e; exact cellsAt_viewStore h hv
    · cases e
  · cases e

theorem ask_heap {α : Type} (a : Ask α) : ∀ w : World, (w.ask a).2.heap = w.heap := by
  induction a with
  | done a => exact fun w => rfl
  | ask q r k ih =>
    intro w
    simp only [World.ask]
    split
    · exact ih _ _
    · exact ih _ { w with drawn := w.drawn + 1 }
theorem sys_heap (w : World) (c : Sys) : (w.sys c).2.heap = w.heap := by
  have h := ask_heap (Kernel.perform c w.os) w
  unfold World.sys
  split
  · rfl
  · rename_i e
    rw [e] at h
    exact h
def wof {α : Type} : Result α → World
  | .ok _ w => w
  | .halt _ w => w
/-- A ROW OF CELLS STAYS ONE. -/
theorem run_cells {α : Type} (s : Sem α) {g : Nat} : ∀ (w : World) (es : Array Event), CellsAt w g → CellsAt (wof (s.runT p w es).1) g := by
  induction s with
  | pure a => exact fun w es h => h
  | load m a k ih =>
    intro w es h
    simp only [Sem.runT]
    split
    · exact ih _ _ _ h
    · split
      · exact ih _ _ _ h
      · exact h
  | store m a v k ih =>
    intro w es h
    by_cases h1 : ∃ c, v = .agg c
    · obtain ⟨c, rfl⟩ := h1; exact h
    by_cases h2 : ∃ c, v = .tuple c
    · obtain ⟨c, rfl⟩ := h2; exact h
    rw [store_runT m a k w es (fun c e => h1 ⟨c, e⟩) (fun c e => h2 ⟨c, e⟩)]
    split
    · split
      · exact h
      · exact ih (w.setCell a v) _ (cellsAt_setCell h _ _)
    · split
      · rename_i e; exact ih _ _ (cellsAt_farStore h e)
      · exact h
  | new o k ih =>
    intro w es h
    refine ih w.heap.size { w with heap := w.heap.push o } es ?_
    have := cellsAt_lt h
    obtain ⟨c, t, f, h⟩ := h
    exact ⟨c, t, f, by simp [Array.getElem?_push, h, Nat.ne_of_lt this]⟩
  | shape r k ih => exact fun w es h => ih _ _ _ h
  | freeze a n k ih => exact fun w es h => ih _ _ (cellsAt_freeze h _ _)
  | frozen a k ih => exact fun w es h => ih _ _ _ h
  | getObj r k ih =>
    intro w es h
    simp only [Sem.runT]
    split
    · exact h
    · exact ih _ _ _ h
    · exact h
  | setObj r o k ih =>
    intro w es h
    simp only [Sem.runT]
    split
    · exact h
    · rename_i o' hno ho
      refine ih _ _ ?_
      obtain ⟨c, t, f, h⟩ := h
      have hne : r ≠ g := by
        rintro rfl
        rw [h] at ho
        cases ho
        exact hno _ _ _ rfl
      exact ⟨c, t, f, by simp [hne, h]⟩
    · exact h
  | choose q k ih =>
    intro w es h
    simp only [Sem.runT]
    split
    · exact ih _ _ _ h
    · exact ih (q.cut (w.tape w.drawn q)) { w with drawn := w.drawn + 1 } es h
  | sys c k ih =>
    intro w es h
    simp only [Sem.runT]
    refine ih _ _ _ ?_
    have e : (w.sys c).2.heap = w.heap := sys_heap w c
    unfold CellsAt
    rw [e]
    exact h
  | program k ih => exact fun w es h => ih p _ _ h
  | mark m k ih => exact fun w es h => ih _ _ h
  | halt x => exact fun w es h => h

/-- where it asks for a variable's start, that variable waits -/
theorem run_asks {α : Type} {Q : α → Prop} {s : Sem α} (hs : Lv p Q s) : ∀ (w : World) (es : Array Event) (g : Nat) (w' : World), (s.runT p w es).1 = .halt (.unsupported (.initOrder g)) w' → ∃ c t, w'.heap[g]? = some (.pending c t) := by
  have fin : ∀ {w w' : World} {h : Halt} {g : Nat} {α : Type}, HaltOk w h → (Result.halt h w : Result α) = .halt (.unsupported (.initOrder g)) w' → ∃ c t, w'.heap[g]? = some (.pending c t) := by
    intro w w' h g α ho e
    cases e
    rcases ho with ho | ⟨g', c, t, e, hp⟩
    · exact absurd rfl (ho g)
    · cases e
      exact ⟨c, t, hp⟩
  induction s with
  | pure a => intro w es g w' e; cases e
  | load m a k ih =>
    intro w es g w' e
    simp only [Sem.runT] at e
    split at e
    · exact ih _ (hs _) _ _ _ _ e
    · split at e
      · exact ih _ (hs _) _ _ _ _ e
      · rename_i x; exact fin (farLoad_ok x) e
  | store m a v k ih =>
    intro w es g w' e
    by_cases h1 : ∃ c, v = .agg c
    · obtain ⟨c, rfl⟩ := h1; cases e
    by_cases h2 : ∃ c, v = .tuple c
    · obtain ⟨c, rfl⟩ := h2; cases e
    rw [store_runT m a k w es (fun c e => h1 ⟨c, e⟩) (fun c e => h2 ⟨c, e⟩)] at e
    split at e
    · split at e
      · cases e
      · exact ih hs (w.setCell a v) _ _ _ e
    · split at e
      · exact ih hs _ _ _ _ e
      · rename_i x; exact fin (farStore_ok x) e
  | new o k ih => exact fun w es => ih w.heap.size (hs _) { w with heap := w.heap.push o } es
  | shape r k ih => exact fun w es => ih _ (hs _) _ _
  | freeze a n k ih => exact fun w es => ih hs _ _
  | frozen a k ih => exact fun w es => ih _ (hs _) _ _
  | getObj r k ih =>
    intro w es g w' e
    simp only [Sem.runT] at e
    split at e
    · cases e
    · exact ih _ (hs _) _ _ _ _ e
    · cases e
  | setObj r o k ih =>
    intro w es g w' e
    simp only [Sem.runT] at e
    split at e
    · cases e
    · exact ih hs _ _ _ _ e
    · cases e
  | choose q k ih =>
    intro w es g w' e
    simp only [Sem.runT] at e
    split at e
    · exact ih _ (hs _) _ _ _ _ e
    · exact ih (q.cut (w.tape w.drawn q)) (hs _) { w with drawn := w.drawn + 1 } es _ _ e
  | sys c k ih => exact fun w es => ih _ (hs _) _ _
  | program k ih => exact fun w es => ih p hs _ _
  | mark m k ih => exact fun w es => ih hs _ _
  | halt h => intro w es g w' e; cases e; exact absurd rfl (hs g)

/-- the globals' cells are there -/
def GC (P : Program) (w : World) : Prop := ∀ g, g < P.globals.size → CellsAt w g
structure Late (P : Program) : Prop where
  late : ∀ g, P.globals.size ≤ g → P.stepOf g = none
  ahead : P.follows .staticDataAhead = true

/-- IN A WORLD WHOSE GLOBALS ARE THERE NO RUN STARTS A VARIABLE -/
theorem set1_of {P : Program} {F : FuncId → Prop} {w : World} (hP : Late P) (hg : GC P w) {s : Sem Next} (hs : Lv P (Cm P F) s) : Set1 P w s := by
  intro g w' e fr cs
  obtain ⟨c, t, hp⟩ := run_asks hs w #[] g w' e
  have hge : P.globals.size ≤ g := by
    rcases Nat.lt_or_ge g P.globals.size with hlt | hge
    · have := run_cells (p := P) s w #[] (hg g hlt)
      rw [e] at this
      obtain ⟨c', t', f', hx⟩ := this
      simp only [wof] at hx
      rw [hx] at hp
      cases hp
    · exact hge
  unfold early
  simp only [hP.ahead, hP.late g hge, Bool.not_true, Bool.false_eq_true, if_false]
  exact ⟨_, rfl⟩
end Go.Proofs.Ytghglpcfpokmhaa.Ct

set_option linter.unusedVariables false
set_option linter.unusedSimpArgs false
namespace Go.Proofs.Ytghglpcfpokmhaa.Ct
open Go Go.Conc
variable {P : Program} {w : World}

def row2 : String := "fmt's door: a stop's call has returned"
def sav2 : Array Value := #[.int .i64 1, .int .i64 0, .nilIface, .string .empty, .int .i64 0]
def s1 (P : Program) : Frame := { fn := P.funcs.size, tmps := #[.string .empty], todo := [], defers := [], mode := .run, kind := .normal }
def s2 (P : Program) : Frame := { fn := P.funcs.size, tmps := #[undef], todo := [.call { target := .nil, args := #[] } false row2 sav2], defers := [], mode := .run, kind := .normal }
def s3 (P : Program) : Frame := { fn := P.funcs.size, tmps := #[undef], todo := [.extern row2 (sav2.push (.string .empty))], defers := [], mode := .run, kind := .normal }
def s4 (P : Program) (v : Value) : Frame := { fn := P.funcs.size, tmps := #[v], todo := [], defers := [], mode := .run, kind := .normal }

theorem s1_finish (v : Value) : (s1 P).finish v = s1 P := rfl
theorem no_fn : P.funcs[P.funcs.size]? = none := by simp

theorem s_step1 (cs : List Frame) : stepG P true (G (s1 P) cs) w = .go (G { s1 P with mode := .returning } cs) w #[] := by
  simp [G, stepG, stepG.exec, s1]
theorem s_step2 : stepG P true (G { s1 P with mode := .returning } [s2 P]) w = .go (G (s3 P) []) w #[] := by
  simp [G, stepG, unwind, s1, doReturn, s2, s3, Frame.finish]
theorem s_row : Extern.next row2 = some (Extern.FmtCalls.returned #[] #[]) := rfl
theorem s_run : ∃ v w', (Extern.FmtCalls.returned #[] #[] (sav2.push (.string .empty))).runT P w #[] = (.ok (.value v) w', #[]) ∧ w'.heap = w.heap := by
  obtain ⟨q, k, e⟩ : ∃ q, ∃ k : Nat → Value, Extern.FmtCalls.returned #[] #[] (sav2.push (.string .empty)) = .choose q fun n => .pure (.value (k n)) := ⟨_, _, rfl⟩
  rw [e]
  simp only [Sem.runT]
  split
  · exact ⟨_, _, rfl, rfl⟩
  · exact ⟨_, _, rfl, rfl⟩
theorem s_step3 : ∃ v w', stepG P true (G (s3 P) []) w = .go (G (s4 P v) []) w' #[] ∧ w'.heap = w.heap := by
  obtain ⟨v, w', hr, hw⟩ := s_run (P := P) (w := w)
  refine ⟨v, w', ?_, hw⟩
  have hs : seen P P.funcs.size #[] = #[] := by simp [seen]
  simp only [G, stepG, stepG.exec, s3, s4, s_row, Option.elim, stepG.apply, hr, ↓reduceIte, GStep.after, Frame.finish]
  simp [hs]
theorem s_step4 (v : Value) : stepG P true (G (s4 P v) []) w = .go (G { s4 P v with mode := .returning } []) w #[] := by
  simp [G, stepG, stepG.exec, s4]
theorem s_step5 (hi : P.inits.idxOf? P.funcs.size = none) (v : Value) : stepG P true (G { s4 P v with mode := .returning } []) w = .ended (.done v) w #[] := by
  simp [G, stepG, unwind, s4, doReturn, hi]
theorem s_catch : row2.startsWith "fmt's door" = true := by first | decide +kernel | (unfold row2; simp) | (rw [String.startsWith_iff]; decide)
theorem s_panic1 (ch : List PanicEntry) : stepG P true (G ((s1 P).raise ch) [s2 P]) w = .go (G ((s2 P).raise ch) []) w #[] := by
  simp [G, stepG, unwind, s1, s2, Frame.raise, Frame.catches]
theorem s_panic2 (ch : List PanicEntry) : ∃ s, stepG P true (G ((s2 P).raise ch) []) w = .ended (.unsupported (.noEntry "a panic or Goexit out of a method that fmt calls behind a cut's door") s) w #[] := by
  simp [G, stepG, unwind, s2, Frame.raise, Frame.catches, s_catch]
end Go.Proofs.Ytghglpcfpokmhaa.Ct

set_option linter.unusedVariables false
set_option linter.unusedSimpArgs false
namespace Go.Proofs.Ytghglpcfpokmhaa.Ct
open Go Go.Conc
variable {P : Program} {w : World}

/-- nothing comes of it but behind a system call -/
def Sy (p : Program) {α : Type} : Sem α → Prop
  | .pure _ => False
  | .load _ _ k => ∀ v, Sy p (k v)
  | .store _ _ _ k => Sy p k
  | .new _ k => ∀ r, Sy p (k r)
  | .shape _ k => ∀ s, Sy p (k s)
  | .freeze _ _ k => Sy p k
  | .frozen _ k => ∀ b, Sy p (k b)
  | .getObj _ k => ∀ o, Sy p (k o)
  | .setObj _ _ k => Sy p k
  | .choose _ k => ∀ n, Sy p (k n)
  | .sys _ _ => True
  | .program k => Sy p (k p)
  | .mark _ k => Sy p k
  | .halt _ => True

theorem run_grow {p : Program} {α : Type} (s : Sem α) : ∀ (w : World) (es : Array Event) (e : Event), e ∈ es → e ∈ (s.runT p w es).2 := by
  induction s with
  | pure a => exact fun w es e h => h
  | load m a k ih =>
    intro w es e h
    simp only [Sem.runT]
    split
    · exact ih _ _ _ _ (by simp [h])
    · split
      · exact ih _ _ _ _ (by simp [h])
      · exact h
  | store m a v k ih =>
    intro w es e h
    by_cases h1 : ∃ c, v = .agg c
    · obtain ⟨c, rfl⟩ := h1; exact h
    by_cases h2 : ∃ c, v = .tuple c
    · obtain ⟨c, rfl⟩ := h2; exact h
    rw [store_runT m a k w es (fun c e => h1 ⟨c, e⟩) (fun c e => h2 ⟨c, e⟩)]
    split
    · split
      · exact h
      · exact ih (w.setCell a v) _ _ (by simp [h])
    · split
      · exact ih _ _ _ (by simp [h])
      · exact h
  | new o k ih => exact fun w es e h => ih w.heap.size { w with heap := w.heap.push o } es e h
  | shape r k ih => exact fun w es e h => ih _ _ _ e h
  | freeze a n k ih => exact fun w es e h => ih _ _ e h
  | frozen a k ih => exact fun w es e h => ih _ _ _ e h
  | getObj r k ih =>
    intro w es e h
    simp only [Sem.runT]
    split
    · exact h
    · exact ih _ _ _ _ (by simp [h])
    · exact h
  | setObj r o k ih =>
    intro w es e h
    simp only [Sem.runT]
    split
    · exact h
    · exact ih _ _ _ (by simp [h])
    · exact h
  | choose q k ih =>
    intro w es e h
    simp only [Sem.runT]
    split
    · exact ih _ _ _ _ h
    · exact ih (q.cut (w.tape w.drawn q)) { w with drawn := w.drawn + 1 } es e h
  | sys c k ih => exact fun w es e h => ih _ _ _ e (by simp [h])
  | program k ih => exact fun w es e h => ih p _ _ e h
  | mark m k ih => exact fun w es e h => ih _ _ e (by simp [h])
  | halt x => exact fun w es e h => h

theorem run_sy {p : Program} {α : Type} {s : Sem α} (hs : Sy p s) : ∀ (w : World) (es : Array Event) (a : α) (w' : World), (s.runT p w es).1 = .ok a w' → ∃ e ∈ (s.runT p w es).2, e.loc = .output := by
  induction s with
  | pure a => exact hs.elim
  | load m a k ih =>
    intro w es x w' e
    simp only [Sem.runT] at e ⊢
    split at e
    · exact ih _ (hs _) _ _ _ _ e
    · split at e
      · exact ih _ (hs _) _ _ _ _ e
      · cases e
  | store m a v k ih =>
    intro w es x w' e
    by_cases h1 : ∃ c, v = .agg c
    · obtain ⟨c, rfl⟩ := h1; cases e
    by_cases h2 : ∃ c, v = .tuple c
    · obtain ⟨c, rfl⟩ := h2; cases e
    rw [store_runT m a k w es (fun c e => h1 ⟨c, e⟩) (fun c e => h2 ⟨c, e⟩)] at e ⊢
    split at e
    · split at e
      · cases e
      · rename_i h'; simp only [if_neg h']; exact ih hs (w.setCell a v) _ _ _ e
    · split at e
      · exact ih hs _ _ _ _ e
      · cases e
  | new o k ih => exact fun w es => ih w.heap.size (hs _) { w with heap := w.heap.push o } es
  | shape r k ih => exact fun w es => ih _ (hs _) _ _
  | freeze a n k ih => exact fun w es => ih hs _ _
  | frozen a k ih => exact fun w es => ih _ (hs _) _ _
  | getObj r k ih =>
    intro w es x w' e
    simp only [Sem.runT] at e ⊢
    split at e
    · cases e
    · exact ih _ (hs _) _ _ _ _ e
    · cases e
  | setObj r o k ih =>
    intro w es x w' e
    simp only [Sem.runT] at e ⊢
    split at e
    · cases e
    · exact ih hs _ _ _ _ e
    · cases e
  | choose q k ih =>
    intro w es x w' e
    simp only [Sem.runT] at e ⊢
    split at e
    · rename_i h; simp only [h, ↓reduceIte]; exact ih _ (hs _) _ _ _ _ e
    · rename_i h; rw [if_neg h]; exact ih (q.cut (w.tape w.drawn q)) (hs _) { w with drawn := w.drawn + 1 } es _ _ e
  | sys c k ih =>
    intro w es x w' e
    exact ⟨⟨.output, true, false⟩, run_grow (k (w.sys c).1) (w.sys c).2 (es.push ⟨.output, true, false⟩) _ Array.mem_push_self, rfl⟩
  | program k ih => exact fun w es => ih p hs _ _
  | mark m k ih => exact fun w es => ih hs _ _
  | halt h => intro w es x w' e; cases e

theorem Sy.bind {p : Program} {α β : Type} {s : Sem α} {f : α → Sem β} (hf : ∀ a, Sy p (f a)) : Sy p (s >>= f) := by
  show Sy p (s.bind f)
  induction s with
  | pure a => exact hf a
  | load m a k ih => exact fun v => ih v
  | store m a v k ih => exact ih
  | new o k ih => exact fun v => ih v
  | shape r k ih => exact fun v => ih v
  | freeze a n k ih => exact ih
  | frozen a k ih => exact fun v => ih v
  | getObj r k ih => exact fun v => ih v
  | setObj r o k ih => exact ih
  | choose q k ih => exact fun v => ih v
  | sys c k ih => trivial
  | program k ih => exact ih p
  | mark m k ih => exact ih
  | halt h => trivial
theorem Sy.sys' {p : Program} {β : Type} (c : Sys) (f : SysRet → Sem β) : Sy p (Go.sys c >>= f) := trivial
theorem ok_evs {p : Program} {α : Type} {S : Sem α} {w w' : World} {es : Array Event} {a : α} (h : S.runT p w #[] = (.ok a w', es)) (hS : ∃ s', S = .mark .disable s' ∧ Sy p s') : (∃ e ∈ es, e.loc = .mark .disable) ∧ ∃ e ∈ es, e.loc = .output := by
  obtain ⟨s', rfl, hs⟩ := hS
  have h' : s'.runT p w (#[].push ⟨.mark .disable, false, true⟩) = (.ok a w', es) := h
  refine ⟨⟨⟨.mark .disable, false, true⟩, ?_, rfl⟩, ?_⟩
  · have := run_grow (p := p) s' w (#[].push ⟨.mark .disable, false, true⟩) ⟨.mark .disable, false, true⟩ (by simp)
    rw [h'] at this
    exact this
  · have := run_sy hs w (#[].push ⟨.mark .disable, false, true⟩) a w' (by rw [h'])
    rw [h'] at this
    exact this

/-- HOW IT DIES -/
theorem dy_step {g : Goroutine} (h : Dy g) (w : World) :
    (∃ g' w' es, stepG P true g w = .go g' w' es ∧ (∃ e ∈ es, e.loc = .mark .disable) ∧ ∃ e ∈ es, e.loc = .output) ∨
    (∃ g' w', stepG P true g w = .go g' w' #[] ∧ g'.status = .blocked) ∨ (∃ o w' es, stepG P true g w = .ended o w' es ∧ ∀ v, o ≠ .done v) := by
  obtain ⟨hs, d, f, x, rest, h1, h2, h3, h4, h5⟩ := h
  obtain ⟨fr, cs, st, dy, off⟩ := g
  simp only at h1 hs
  subst h1 hs
  obtain ⟨todo, texts, calling, pending, re, fatal, hand⟩ := d
  simp only at h2 h3
  subst h2 h3
  simp only [stepG, die, writeOn, h4, h5, Bool.and_false, Bool.not_false, ↓reduceIte]
  split
  · rename_i heq
    refine .inl ⟨_, _, _, rfl, ok_evs heq ⟨_, rfl, ?_⟩⟩
    refine Sy.bind fun b => ?_
    repeat' first | exact Sy.sys' _ _ | (refine Sy.bind fun _ => ?_) | split
  · exact .inr (.inl ⟨_, _, rfl, rfl⟩)
  · exact .inr (.inr ⟨_, _, _, rfl, by simp⟩)
  · exact .inr (.inr ⟨_, _, _, rfl, by simp⟩)
end Go.Proofs.Ytghglpcfpokmhaa.Ct

set_option linter.unusedVariables false
set_option linter.unusedSimpArgs false
set_option linter.unusedSectionVars false
namespace Go.Proofs.Ytghglpcfpokmhaa.Ct
open Go Go.Conc Go.ConcN
open Go.ConcR (KK wgBlock WgAt stA smA rd wr mk Payload Aside2)
variable [Payload]

/-- a way that leads to no good end: its steps list nothing, or they write, or it stops there -/
def Bd (P : Program) (B : Goroutine → Prop) : Prop := ∀ g, B g → ∀ w,
    (∃ g' w', stepG P true g w = .go g' w' #[] ∧ (B g' ∨ g'.status ≠ .running)) ∨ (∃ g' w' es, stepG P true g w = .go g' w' es ∧ (∃ e ∈ es, e.loc = .mark .disable) ∧ ∃ e ∈ es, e.loc = .output) ∨
    (∃ o w' es, stepG P true g w = .ended o w' es ∧ ∀ v, o ≠ .done v)
theorem bd_dy {P : Program} : Bd P Dy := fun g h w => by
  rcases dy_step (P := P) h w with h | ⟨g', w', e, hb⟩ | h
  · exact .inr (.inl h)
  · exact .inl ⟨g', w', e, .inr (by rw [hb]; simp)⟩
  · exact .inr (.inr h)
/-- it panics above the two frames that tell -/
def Pn (P : Program) (g : Goroutine) : Prop := (∃ fr ch, g = G fr [s1 P, s2 P] ∧ fr.mode = .panicking ch ∧ fr.defers = [] ∧ fr.catches P = false) ∨ (∃ ch, g = G ((s1 P).raise ch) [s2 P]) ∨ ∃ ch, g = G ((s2 P).raise ch) []
theorem bd_pn {P : Program} : Bd P (Pn P) := by
  rintro g (⟨fr, ch, rfl, h1, h2, h3⟩ | ⟨ch, rfl⟩ | ⟨ch, rfl⟩) w
  · refine .inl ⟨G ((s1 P).raise ch) [s2 P], w, ?_, .inl (.inr (.inl ⟨ch, rfl⟩))⟩
    simp [G, stepG, h1, unwind, h2, h3]
  · exact .inl ⟨_, w, s_panic1 ch, .inl (.inr (.inr ⟨ch, rfl⟩))⟩
  · obtain ⟨x, e⟩ := s_panic2 (P := P) (w := w) ch
    exact .inr (.inr ⟨_, _, _, e, by simp⟩)

theorem bd_goes {P : Program} {B : Goroutine → Prop} (hB : Bd P B) {R : World → World → Prop} {D : World → World → Array Event → Prop} {Stop : Goroutine → World → Prop} (hD : ∀ w w' es, D w w' es → ∀ e ∈ es, e.loc ≠ .mark .disable)
    (hSr : ∀ g w, Stop g w → g.status = .running) (hR : ∀ w, R w w) {K : World → Prop} (hK : ∀ w w' es, K w → D w w' es → K w') (hS : ∀ g w, K w → B g → (∀ w₁, R w w₁ → Stop g w₁) → False) : ∀ (m : Nat) (g : Goroutine) (w : World), K w → B g → ¬ Goes P true R D Stop m g w := by
  intro m
  induction m with
  | zero => exact fun g w hk hd h => hS g w hk hd h
  | succ m ih =>
    intro g w hk hd h
    rcases h with h | ⟨_, h⟩
    · exact hS g w hk hd h
    · have h' := h w (hR w)
      rcases hB g hd w with ⟨g', w', e, hb⟩ | ⟨g', w', es, e, ⟨x, hx, hl⟩, _⟩ | ⟨o, w', es, e, _⟩
      · rw [e] at h'
        rcases hb with hb | hb
        · exact ih g' w' (hK _ _ _ hk h'.1) hb h'.2
        · exact hb (Goes.running hSr w' (hR w') h'.2)
      · rw [e] at h'
        exact hD _ _ _ h'.1 x hx hl
      · rw [e] at h'
        exact h'

section
variable {P : Program} {ty : TypeId} {Wg C n : Nat} {Own Rd : Nat → Loc → Prop} {Lw : Nat → Nat} {val : Nat → Value} {vals : List Value} {AnchW : Goroutine → World → Prop} {Post : Value → World → Prop}
  {w : World} {j : Nat} {tag : CTag} {f0 d0 : Nat} {a : Goroutine} {st sm : Int}

theorem wg_any (hwg : WgAt ty Wg w st sm) (st' sm' : Int) : ∃ w₁, RC ty Wg C w w₁ ∧ WgAt ty Wg w₁ st' sm' := by
  have hlt : Wg < w.heap.size := (Array.getElem?_eq_some_iff.1 hwg).1
  have h1 : WgAt ty Wg { w with heap := w.heap.setIfInBounds Wg (wgBlock ty st' sm') } st' sm' := by
    unfold WgAt
    simp [hlt]
  exact ⟨{ w with heap := w.heap.setIfInBounds Wg (wgBlock ty st' sm') }, ⟨⟨rfl, rfl, rfl, by simp, fun k _ hk => by simp [Ne.symm hk]⟩, fun _ => ⟨_, _, h1⟩⟩, h1⟩
theorem full_any (hwg : WgAt ty Wg w st sm) (hp : PayAt C n w) (hne : C ≠ Wg) : ∃ w₁, RC ty Wg C w w₁ ∧ Full C vals w₁ := by
  obtain ⟨cs, hc, _⟩ := hp
  have hlt : C < w.heap.size := (Array.getElem?_eq_some_iff.1 hc).1
  have h1 : WgAt ty Wg { w with heap := w.heap.setIfInBounds C (.cells vals.toArray Payload.ety) } st sm := by
    unfold WgAt at hwg ⊢
    simp [hne, hwg]
  exact ⟨{ w with heap := w.heap.setIfInBounds C (.cells vals.toArray Payload.ety) }, ⟨⟨rfl, rfl, rfl, by simp, fun k hk _ => by simp [Ne.symm hk]⟩, fun _ => ⟨_, _, h1⟩⟩, by unfold Full; simp [hlt]⟩

/-- a step that it does not make -/
theorem bd_not {B : Goroutine → Prop} (hB : Bd P B) {g g' : Goroutine} {w w' : World} {es : Array Event} (hd : B g) (h : stepG P true g w = .go g' w' es) (h0 : es ≠ #[]) (ho : ∀ e ∈ es, e.loc ≠ .output) : False := by
  rcases hB g hd w with ⟨g₁, w₁, e, hb⟩ | ⟨g₁, w₁, es₁, e, _, ⟨x, hx, hl⟩⟩ | ⟨o, w₁, es₁, e, _⟩
  · rw [e] at h
    cases h
    exact h0 rfl
  · rw [e] at h
    cases h
    exact ho x hx hl
  · rw [e] at h
    cases h
theorem bd_spawn {B : Goroutine → Prop} (hB : Bd P B) {g g' c : Goroutine} {w w' : World} {es : Array Event} (hd : B g) (h : stepG P true g w = .spawn g' c w' es) : False := by
  rcases hB g hd w with ⟨g₁, w₁, e, hb⟩ | ⟨g₁, w₁, es₁, e, _⟩ | ⟨o, w₁, es₁, e, _⟩ <;> rw [e] at h <;> cases h
theorem bd_done {B : Goroutine → Prop} (hB : Bd P B) {g : Goroutine} {v : Value} {w w' : World} {es : Array Event} (hd : B g) (h : stepG P true g w = .ended (.done v) w' es) : False := by
  rcases hB g hd w with ⟨g₁, w₁, e, hb⟩ | ⟨g₁, w₁, es₁, e, _⟩ | ⟨o, w₁, es₁, e, ho⟩ <;> rw [e] at h <;> cases h
  exact ho _ rfl

theorem DP_no {j Low : Nat} : ∀ w w' es, DP Wg Own Rd j Low w w' es → ∀ e ∈ es, e.loc ≠ .mark .disable := fun w w' es h e he => (h.2 e he).2.1

/-- the group and the payload are there -/
def Kp (ty : TypeId) (Wg C n : Nat) (w : World) : Prop := (∃ st sm, WgAt ty Wg w st sm) ∧ PayAt C n w
theorem kp_dp {j Low : Nat} (hW : Wg < Low) (hC : C < Low) : ∀ w w' es, Kp ty Wg C n w → DP Wg Own Rd j Low w w' es → Kp ty Wg C n w' := by
  rintro w w' es ⟨⟨st, sm, h1⟩, cs, h2, h3⟩ h
  exact ⟨⟨st, sm, (h.1 Wg hW).trans h1⟩, cs, (h.1 C hC).trans h2, h3⟩

/-- NO STARTER ON ITS WAY IS LOST. -/
theorem csit_live {B : Goroutine → Prop} (hB : Bd P B) (hBr : ∀ g, B g → g.status = .running) (hAd : ∀ g w, AnchW g w → ¬ B g) (hAr : ∀ g w, AnchW g w → g.status = .running) (hW : ∀ j, Wg < Lw j) (hC : ∀ j, C < Lw j) (hne : C ≠ Wg) (hk : Kp ty Wg C n w)
    (h : CSit P ty Wg C n Own Rd Lw val vals AnchW Post tag j f0 d0 a w) : ¬ B a := by
  intro hd
  have rf : ∀ w, RC ty Wg C w w := fun w => RC.refl w
  have at1 : ∀ {w : World} (st' sm' : Int), Kp ty Wg C n w → ∃ w₁, RC ty Wg C w w₁ ∧ WgAt ty Wg w₁ st' sm' := fun st' sm' ⟨⟨st, sm, hwg⟩, _⟩ => wg_any hwg st' sm'
  cases h with
  | skd _ h =>
    refine bd_goes hB DP_no (fun _ _ x => x.1) rf (kp_dp (hW _) (hC _)) (fun a w hk hd hs => ?_) _ _ _ hk hd h
    obtain ⟨_, g', e, _⟩ := hs w (rf w)
    exact bd_not hB hd e (by simp) (by simp [mk])
  | sa1 _ h =>
    refine bd_goes hB DP_no (fun _ _ x => x.1) rf (kp_dp (hW _) (hC _)) (fun a w hk hd hs => ?_) _ _ _ hk hd h
    obtain ⟨w₁, hr, hw₁⟩ := at1 ((0 : Nat) * KK) 0 hk
    obtain ⟨_, hx⟩ := hs w₁ hr
    obtain ⟨g', e, _⟩ := hx 0 (by decide) hw₁
    exact bd_not hB hd e (by simp) (by simp [rd, wr])
  | ske _ h =>
    refine bd_goes hB DP_no (fun _ _ x => x.1) rf (kp_dp (hW _) (hC _)) (fun a w hk hd hs => ?_) _ _ _ hk hd h
    obtain ⟨_, g', e, _⟩ := hs w (rf w)
    exact bd_not hB hd e (by simp) (by simp [mk])
  | sgo _ h =>
    refine bd_goes hB DP_no (fun _ _ x => x.1) rf (kp_dp (hW _) (hC _)) (fun a w hk hd hs => ?_) _ _ _ hk hd h
    obtain ⟨_, g', c, e, _⟩ := hs w (rf w)
    exact bd_spawn hB hd e
  | kd h =>
    refine bd_goes hB DP_no (fun _ _ x => x.1) rf (kp_dp (hW _) (hC _)) (fun a w hk hd hs => ?_) _ _ _ hk hd h
    obtain ⟨_, g', e, _⟩ := hs w (rf w)
    exact bd_not hB hd e (by simp) (by simp [mk])
  | anch h => exact bd_goes hB DP_no hAr rf (kp_dp (hW _) (hC _)) (fun a w hk hd hs => hAd _ _ (hs w (rf w)) hd) _ _ _ hk hd h
  | w1 h =>
    refine bd_goes hB DP_no (fun _ _ x => x.1) rf (kp_dp (hW _) (hC _)) (fun a w hk hd hs => ?_) _ _ _ hk hd h
    obtain ⟨w₁, hr, hw₁⟩ := at1 ((0 : Nat) * KK) 0 hk
    obtain ⟨_, hx⟩ := hs w₁ hr
    obtain ⟨g', e, _⟩ := hx 0 (by decide) hw₁
    exact bd_not hB hd e (by simp) (by simp [rd])
  | w2 h =>
    rename_i vs
    refine bd_goes hB DP_no (fun _ _ x => x.1) rf (kp_dp (hW _) (hC _)) (fun a w hk hd hs => ?_) _ _ _ hk hd h
    obtain ⟨w₁, hr, hw₁⟩ := at1 ((0 : Nat) * KK) 0 hk
    obtain ⟨_, hx⟩ := hs w₁ hr
    obtain ⟨hy, hn⟩ := hx 0 (by decide) hw₁
    by_cases hv : 0 = vs
    · obtain ⟨g', e, _⟩ := hy hv
      exact bd_not hB hd e (by simp) (by simp [rd, wr])
    · obtain ⟨g', e, _⟩ := hn hv
      exact bd_not hB hd e (by simp) (by simp [rd])
  | w3 h =>
    refine bd_goes hB DP_no (fun _ _ x => x.1) rf (kp_dp (hW _) (hC _)) (fun a w hk hd hs => ?_) _ _ _ hk hd h
    obtain ⟨w₁, hr, hw₁⟩ := at1 0 1 hk
    obtain ⟨_, _, _, hx⟩ := hs w₁ hr
    obtain ⟨g', e, _⟩ := hx hw₁
    exact bd_not hB hd e (by simp [semEvents]) (by simp [semEvents])
  | blk h => cases hBr _ hd
  | w4 h =>
    refine bd_goes hB DP_no (fun _ _ x => x.1) rf (kp_dp (hW _) (hC _)) (fun a w hk hd hs => ?_) _ _ _ hk hd h
    obtain ⟨w₁, hr, hw₁⟩ := at1 0 0 hk
    obtain ⟨_, hx⟩ := hs w₁ hr
    obtain ⟨g', e, _⟩ := hx hw₁
    exact bd_not hB hd e (by simp) (by simp [rd])
  | ke h =>
    refine bd_goes hB DP_no (fun _ _ x => x.1) rf (kp_dp (hW _) (hC _)) (fun a w hk hd hs => ?_) _ _ _ hk hd h
    obtain ⟨_, g', e, _⟩ := hs w (rf w)
    exact bd_not hB hd e (by simp) (by simp [mk])
  | acq h =>
    refine bd_goes hB DP_no (fun _ _ x => x.1) rf (kp_dp (hW _) (hC _)) (fun a w hk hd hs => ?_) _ _ _ hk hd h
    obtain ⟨_, g', e, _⟩ := hs w (rf w)
    exact bd_not hB hd e (by simp) (by simp [mk])
  | ret h =>
    refine bd_goes hB DP_no (fun _ _ x => x.1) rf (kp_dp (hW _) (hC _)) (fun a w hk hd hs => ?_) _ _ _ hk hd h
    obtain ⟨⟨st, sm, hwg⟩, hp⟩ := hk
    obtain ⟨w₁, hr, hf⟩ := full_any (vals := vals) hwg hp hne
    obtain ⟨_, hx⟩ := hs w₁ hr
    obtain ⟨v, es, e, _⟩ := hx hf
    exact bd_done hB hd e
end
end Go.Proofs.Ytghglpcfpokmhaa.Ct
