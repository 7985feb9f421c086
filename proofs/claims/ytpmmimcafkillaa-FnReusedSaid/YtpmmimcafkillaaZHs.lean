/-
  A run on another tape is the same run where the answers that it uses up are the same; what it lists. It names no program; no conditions.
  What an ordinary run comes to; a row of cells stays one. It names no program; no conditions.
  A run in a world in which some blocks are emptied is the run in the whole world: who finds no cell in a block asks nothing of it. It names no program; no conditions.
-/
import Derived.Conc.Beside
import Derived.Conc.Events
set_option linter.unusedVariables false
set_option linter.unusedSimpArgs false
namespace Go.Proofs.Ytpmmimcafkillaa.Br
open Go Go.Conc

/-- How an ordinary operation may halt. -/
def okHalt : Halt → Bool
  | .panic _ | .stuck _ => true
  | .unsupported (.initOrder _) => false
  | .unsupported _ => true
  | _ => false

/-- It makes no system call, whatever it is answered. -/
def NoSys (p : Program) {α : Type} : Sem α → Prop
  | .pure _ => True
  | .load _ _ k => ∀ v, NoSys p (k v)
  | .store _ _ _ k => NoSys p k
  | .new _ k => ∀ r, NoSys p (k r)
  | .shape _ k => ∀ s, NoSys p (k s)
  | .freeze _ _ k => NoSys p k
  | .frozen _ k => ∀ b, NoSys p (k b)
  | .getObj _ k => ∀ o, NoSys p (k o)
  | .setObj _ _ _ => False
  | .choose _ k => ∀ n, NoSys p (k n)
  | .sys _ _ => False
  | .program k => NoSys p (k p)
  | .mark m k => m = .noRoom ∧ NoSys p k
  | .halt h => okHalt h = true

theorem NoSys.bind {p : Program} {α β : Type} {s : Sem α} {f : α → Sem β} (hs : NoSys p s) (hf : ∀ a, NoSys p (f a)) : NoSys p (s.bind f) := by
  induction s with
  | pure a => exact hf a
  | load m a k ih => exact fun v => ih v (hs v)
  | store m a v k ih => exact ih hs
  | new o k ih => exact fun v => ih v (hs v)
  | shape r k ih => exact fun v => ih v (hs v)
  | freeze a n k ih => exact ih hs
  | frozen a k ih => exact fun v => ih v (hs v)
  | getObj r k ih => exact fun v => ih v (hs v)
  | setObj r o k ih => exact hs.elim
  | choose q k ih => exact fun v => ih v (hs v)
  | sys c k ih => exact hs.elim
  | program k ih => exact ih p hs
  | mark m k ih => exact ⟨hs.1, ih hs.2⟩
  | halt h => exact hs

/-- .. and every value that it comes to is as Q says. -/
def Lf (p : Program) {α : Type} (Q : α → Prop) : Sem α → Prop
  | .pure a => Q a
  | .load _ _ k => ∀ v, Lf p Q (k v)
  | .store _ _ _ k => Lf p Q k
  | .new _ k => ∀ r, Lf p Q (k r)
  | .shape _ k => ∀ s, Lf p Q (k s)
  | .freeze _ _ k => Lf p Q k
  | .frozen _ k => ∀ b, Lf p Q (k b)
  | .getObj _ k => ∀ o, Lf p Q (k o)
  | .setObj _ _ _ => False
  | .choose _ k => ∀ n, Lf p Q (k n)
  | .sys _ _ => False
  | .program k => Lf p Q (k p)
  | .mark m k => m = .noRoom ∧ Lf p Q k
  | .halt h => okHalt h = true

theorem Lf.bind {p : Program} {α β : Type} {Q : β → Prop} {s : Sem α} {f : α → Sem β} (hs : NoSys p s) (hf : ∀ a, Lf p Q (f a)) : Lf p Q (s.bind f) := by
  induction s with
  | pure a => exact hf a
  | load m a k ih => exact fun v => ih v (hs v)
  | store m a v k ih => exact ih hs
  | new o k ih => exact fun v => ih v (hs v)
  | shape r k ih => exact fun v => ih v (hs v)
  | freeze a n k ih => exact ih hs
  | frozen a k ih => exact fun v => ih v (hs v)
  | getObj r k ih => exact fun v => ih v (hs v)
  | setObj r o k ih => exact hs.elim
  | choose q k ih => exact fun v => ih v (hs v)
  | sys c k ih => exact hs.elim
  | program k ih => exact ih p hs
  | mark m k ih => exact ⟨hs.1, ih hs.2⟩
  | halt h => exact hs
theorem Lf.noSys {p : Program} {α : Type} {Q : α → Prop} {s : Sem α} (hs : Lf p Q s) : NoSys p s := by
  induction s with
  | pure a => trivial
  | load m a k ih => exact fun v => ih v (hs v)
  | store m a v k ih => exact ih hs
  | new o k ih => exact fun v => ih v (hs v)
  | shape r k ih => exact fun v => ih v (hs v)
  | freeze a n k ih => exact ih hs
  | frozen a k ih => exact fun v => ih v (hs v)
  | getObj r k ih => exact fun v => ih v (hs v)
  | setObj r o k ih => exact hs.elim
  | choose q k ih => exact fun v => ih v (hs v)
  | sys c k ih => exact hs.elim
  | program k ih => exact ih p hs
  | mark m k ih => exact ⟨hs.1, ih hs.2⟩
  | halt h => exact hs

/-- The same world on another tape. -/
def rt (T : Nat → Question → Nat) (d : Nat) (w : World) : World := { w with tape := T, drawn := d }

def wof {α : Type} : Result α → World
  | .ok _ w => w
  | .halt _ w => w
def mapW {α : Type} (f : World → World) : Result α → Result α
  | .ok a w => .ok a (f w)
  | .halt h w => .halt h (f w)

theorem seen_rt (p : Program) (T : Nat → Question → Nat) (d : Nat) (w : World) (at_ : Addr) (u : TypeId) (k : Addr) (at2 : Bool) : (rt T d w).seen p at_ u k at2 = w.seen p at_ u k at2 := rfl
theorem farLoad_rt (p : Program) (T : Nat → Question → Nat) (d : Nat) (w : World) (a : Addr) (at2 : Bool) : (rt T d w).farLoad p a at2 = w.farLoad p a at2 := rfl

/-- What a far store leaves is the world but for the heap; on another tape it is the same. -/
theorem viewStore_rt (p : Program) (w : World) (at_ : Addr) (u : TypeId) (k : Addr) (v : Value) (at2 : Bool) :
    (∃ e, w.viewStore p at_ u k v at2 = .error e ∧ ∀ T d, (rt T d w).viewStore p at_ u k v at2 = .error e) ∨
    (∃ H l, w.viewStore p at_ u k v at2 = .ok ({ w with heap := H }, l) ∧ ∀ T d, (rt T d w).viewStore p at_ u k v at2 = .ok (rt T d { w with heap := H }, l)) := by
  unfold World.viewStore
  simp only [seen_rt]
  cases ht : (!tight p p.depth u) with
  | true => exact .inl ⟨_, rfl, fun T d => rfl⟩
  | false =>
    simp only [Bool.false_eq_true, if_false, Bind.bind, Except.bind, pure, Except.pure]
    cases hs : w.seen p at_ u k at2 with
    | error e => exact .inl ⟨_, rfl, fun T d => rfl⟩
    | ok x =>
      obtain ⟨c, e, frozen, first, like, cells⟩ := x
      dsimp only
      cases hb : v.bytes? with
      | none => exact .inl ⟨_, rfl, fun T d => rfl⟩
      | some bytes =>
        dsimp only
        split
        · exact .inl ⟨_, rfl, fun T d => rfl⟩
        · split
          · exact .inl ⟨_, rfl, fun T d => rfl⟩
          · exact .inr ⟨_, _, rfl, fun T d => rfl⟩

theorem farStore_rt (p : Program) (w : World) (a : Addr) (v : Value) (at2 : Bool) :
    (∃ e, w.farStore p a v at2 = .error e ∧ ∀ T d, (rt T d w).farStore p a v at2 = .error e) ∨
    (∃ H l, w.farStore p a v at2 = .ok ({ w with heap := H }, l) ∧ ∀ T d, (rt T d w).farStore p a v at2 = .ok (rt T d { w with heap := H }, l)) := by
  unfold World.farStore
  cases hh : w.heap[a.block]? with
  | none =>
    refine .inl ⟨w.noCell a "store: no such cell", by simp only [hh], fun T d => ?_⟩
    have : (rt T d w).heap[a.block]? = none := hh
    simp only [this]
    rfl
  | some o =>
    have e2 : ∀ T d, (rt T d w).heap[a.block]? = some o := fun T d => hh
    cases o with
    | view at_ u =>
      rcases viewStore_rt p w at_ u a v at2 with ⟨e, h1, h2⟩ | ⟨H, l, h1, h2⟩
      · exact .inl ⟨.unsupported (.unsafePointer e), by simp only [hh, h1], fun T d => by simp only [e2, h2]⟩
      · exact .inr ⟨H, l, by simp only [hh, h1], fun T d => by simp only [e2, h2]⟩
    | _ => exact .inl ⟨w.noCell a "store: no such cell", by simp only [hh], fun T d => by simp only [e2]; rfl⟩

theorem runT_store {α : Type} (p : Program) (m : Mode) (a : Addr) {v : Value} (k : Sem α) (w : World) (es : Array Event) (h1 : ∀ c, v ≠ .agg c) (h2 : ∀ c, v ≠ .tuple c) :
    (Sem.store m a v k).runT p w es = (match w.cell? a with
    | some _ =>
      if w.frozen? a then (.halt (.unsupported (.unsafePointer "a write to bytes that a string shares")) w, es)
      else k.runT p (w.setCell a v) (es.push ⟨.cell a, true, m == .atomic⟩)
    | none => match w.farStore p a v (m == .atomic) with
      | .ok (w, touched) => k.runT p w (es ++ touched.toArray.map (⟨.cell ·, true, m == .atomic⟩))
      | .error h => (.halt h w, es)) := by
  cases v <;> first | exact absurd rfl (h1 _) | exact absurd rfl (h2 _) | rfl

/-- The tape stays, the draws only grow. -/
theorem run_grows {α : Type} (p : Program) {s : Sem α} (hs : NoSys p s) : ∀ (w : World) (es : Array Event), w.drawn ≤ (wof (s.runT p w es).1).drawn ∧ (wof (s.runT p w es).1).tape = w.tape := by
  induction s with
  | pure a => exact fun w es => ⟨Nat.le_refl _, rfl⟩
  | load m a k ih =>
    intro w es
    simp only [Sem.runT]
    split
    · exact ih _ (hs _) _ _
    · split
      · exact ih _ (hs _) _ _
      · exact ⟨Nat.le_refl _, rfl⟩
  | store m a v k ih =>
    intro w es
    by_cases h1 : ∃ c, v = .agg c
    · obtain ⟨c, rfl⟩ := h1; exact ⟨Nat.le_refl _, rfl⟩
    by_cases h2 : ∃ c, v = .tuple c
    · obtain ⟨c, rfl⟩ := h2; exact ⟨Nat.le_refl _, rfl⟩
    rw [runT_store p m a k w es (fun c e => h1 ⟨c, e⟩) (fun c e => h2 ⟨c, e⟩)]
    split
    · split
      · exact ⟨Nat.le_refl _, rfl⟩
      · exact ih hs (w.setCell a v) _
    · rcases farStore_rt p w a v (m == .atomic) with ⟨e, h1, _⟩ | ⟨H, l, h1, _⟩
      · rw [h1]; exact ⟨Nat.le_refl _, rfl⟩
      · rw [h1]; exact ih hs { w with heap := H } _
  | new o k ih => exact fun w es => ih w.heap.size (hs _) { w with heap := w.heap.push o } es
  | shape r k ih => exact fun w es => ih _ (hs _) _ _
  | freeze a n k ih =>
    intro w es
    simp only [Sem.runT]
    have := ih hs (w.freeze a n) es
    have e1 : (w.freeze a n).drawn = w.drawn := by unfold World.freeze; split <;> rfl
    have e2 : (w.freeze a n).tape = w.tape := by unfold World.freeze; split <;> rfl
    rw [e1, e2] at this
    exact this
  | frozen a k ih => exact fun w es => ih _ (hs _) _ _
  | getObj r k ih =>
    intro w es
    simp only [Sem.runT]
    split
    · exact ⟨Nat.le_refl _, rfl⟩
    · exact ih _ (hs _) _ _
    · exact ⟨Nat.le_refl _, rfl⟩
  | setObj r o k ih => exact hs.elim
  | choose q k ih =>
    intro w es
    simp only [Sem.runT]
    split
    · exact ih _ (hs _) _ _
    · have := ih (q.cut (w.tape w.drawn q)) (hs _) { w with drawn := w.drawn + 1 } es
      exact ⟨Nat.le_trans (Nat.le_succ _) this.1, this.2⟩
  | sys c k ih => exact hs.elim
  | program k ih => exact fun w es => ih p hs _ _
  | mark m k ih => exact fun w es => ih hs.2 _ _
  | halt h => exact fun w es => ⟨Nat.le_refl _, rfl⟩

/-- THE SAME RUN ON ANOTHER TAPE: where the answers that it uses up are the same, all is the same. -/
theorem run_rt {α : Type} (p : Program) {s : Sem α} (hs : NoSys p s) : ∀ (w : World) (es : Array Event) (T : Nat → Question → Nat) (d : Nat),
    (∀ k, w.drawn + k < (wof (s.runT p w es).1).drawn → T (d + k) = w.tape (w.drawn + k)) →
    s.runT p (rt T d w) es = (mapW (fun w' => rt T (d + (w'.drawn - w.drawn)) w') (s.runT p w es).1, (s.runT p w es).2) := by
  induction s with
  | pure a => intro w es T d h; simp [Sem.runT, mapW, rt]
  | load m a k ih =>
    intro w es T d h
    simp only [Sem.runT] at h ⊢
    have ec : (rt T d w).cell? a = w.cell? a := rfl
    rw [ec, farLoad_rt]
    split at h
    · exact ih _ (hs _) _ _ _ _ h
    · split at h
      · exact ih _ (hs _) _ _ _ _ h
      · simp [mapW, rt]
  | store m a v k ih =>
    intro w es T d h
    by_cases h1 : ∃ c, v = .agg c
    · obtain ⟨c, rfl⟩ := h1; simp [Sem.runT, mapW, rt]
    by_cases h2 : ∃ c, v = .tuple c
    · obtain ⟨c, rfl⟩ := h2; simp [Sem.runT, mapW, rt]
    rw [runT_store p m a k w es (fun c e => h1 ⟨c, e⟩) (fun c e => h2 ⟨c, e⟩)] at h ⊢
    rw [runT_store p m a k _ es (fun c e => h1 ⟨c, e⟩) (fun c e => h2 ⟨c, e⟩)]
    have ec : (rt T d w).cell? a = w.cell? a := rfl
    have ef : (rt T d w).frozen? a = w.frozen? a := rfl
    rw [ec, ef]
    cases hc : w.cell? a with
    | some x =>
      simp only [hc] at h ⊢
      by_cases hf : w.frozen? a = true
      · simp [hf, mapW, rt]
      · simp only [hf, if_false, Bool.false_eq_true] at h ⊢
        exact ih hs (w.setCell a v) _ T d h
    | none =>
      simp only [hc] at h ⊢
      rcases farStore_rt p w a v (m == .atomic) with ⟨e, h1, h2⟩ | ⟨H, l, h1, h2⟩
      · simp only [h1, h2]; simp [mapW, rt]
      · simp only [h1, h2] at h ⊢
        exact ih hs { w with heap := H } _ T d h
  | new o k ih => exact fun w es T d h => ih w.heap.size (hs _) { w with heap := w.heap.push o } es T d h
  | shape r k ih => exact fun w es T d h => ih _ (hs _) _ _ T d h
  | freeze a n k ih =>
    intro w es T d h
    simp only [Sem.runT] at h ⊢
    have e1 : (w.freeze a n).drawn = w.drawn := by unfold World.freeze; split <;> rfl
    have e2 : (w.freeze a n).tape = w.tape := by unfold World.freeze; split <;> rfl
    have e3 : (rt T d w).freeze a n = rt T d (w.freeze a n) := by unfold World.freeze; split <;> rfl
    have := ih hs (w.freeze a n) es T d (by rw [e1, e2]; exact h)
    rw [e1] at this
    rw [e3]
    exact this
  | frozen a k ih => exact fun w es T d h => ih _ (hs _) _ _ T d h
  | getObj r k ih =>
    intro w es T d h
    simp only [Sem.runT] at h ⊢
    have eh : (rt T d w).heap = w.heap := rfl
    rw [eh]
    split at h
    · simp [mapW, rt]
    · exact ih _ (hs _) _ _ T d h
    · simp [mapW, rt]
  | setObj r o k ih => exact hs.elim
  | choose q k ih =>
    intro w es T d h
    simp only [Sem.runT] at h ⊢
    split
    · rename_i hq
      simp only [hq, if_true] at h
      exact ih _ (hs _) _ _ T d h
    · rename_i hq
      simp only [hq, if_false, Bool.false_eq_true] at h
      have hg := (run_grows p (hs (q.cut (w.tape w.drawn q))) { w with drawn := w.drawn + 1 } es).1
      have h0 : T d = w.tape w.drawn := h 0 hg
      have e : (rt T d w).tape (rt T d w).drawn q = w.tape w.drawn q := congrFun h0 q
      rw [e]
      have := ih (q.cut (w.tape w.drawn q)) (hs _) { w with drawn := w.drawn + 1 } es T (d + 1) (fun j hj => by
        have := h (j + 1) (by simp only at hj ⊢; omega)
        rw [show d + 1 + j = d + (j + 1) by omega, this]
        show w.tape (w.drawn + (j + 1)) = w.tape (w.drawn + 1 + j)
        rw [show w.drawn + (j + 1) = w.drawn + 1 + j by omega])
      refine this.trans ?_
      congr 1
      cases hr : ((k (q.cut (w.tape w.drawn q))).runT p { w with drawn := w.drawn + 1 } es).1 with
      | ok x w' =>
        rw [hr] at hg
        simp only [mapW, wof] at hg ⊢
        rw [show d + 1 + (w'.drawn - (w.drawn + 1)) = d + (w'.drawn - w.drawn) by first | omega | (simp only at hg; omega)]
      | halt x w' =>
        rw [hr] at hg
        simp only [mapW, wof] at hg ⊢
        rw [show d + 1 + (w'.drawn - (w.drawn + 1)) = d + (w'.drawn - w.drawn) by first | omega | (simp only at hg; omega)]
  | sys c k ih => exact hs.elim
  | program k ih => exact fun w es T d h => ih p hs _ _ T d h
  | mark m k ih => exact fun w es T d h => ih hs.2 _ _ T d h
  | halt h => intro w es T d h; simp [Sem.runT, mapW, rt]

/-- What an ordinary step may list: no word of the library's, no write to a whole block. -/
def EvZ (e : Event) : Prop := (∀ m, e.loc = .mark m → m = .noRoom) ∧ ∀ r, e.loc = .obj r → e.write = false
theorem evz_cell (a : Addr) (x y : Bool) : EvZ ⟨.cell a, x, y⟩ := ⟨fun m h => by simp at h, fun r h => by simp at h⟩
theorem evz_push {es : Array Event} {e : Event} (h : ∀ e ∈ es, EvZ e) (he : EvZ e) : ∀ x ∈ es.push e, EvZ x := fun x hx => by
  rcases Array.mem_push.1 hx with hx | rfl
  · exact h x hx
  · exact he
theorem evz_cells {es : Array Event} (h : ∀ e ∈ es, EvZ e) (l : List Addr) (x y : Bool) : ∀ e ∈ es ++ l.toArray.map (⟨.cell ·, x, y⟩), EvZ e := fun e he => by
  rcases Array.mem_append.1 he with he | he
  · exact h e he
  · obtain ⟨a, _, rfl⟩ := Array.mem_map.1 he
    exact evz_cell a x y
theorem run_evs {α : Type} (p : Program) {s : Sem α} (hs : NoSys p s) : ∀ (w : World) (es : Array Event), (∀ e ∈ es, EvZ e) → ∀ e ∈ (s.runT p w es).2, EvZ e := by
  induction s with
  | pure a => exact fun w es h => h
  | load m a k ih =>
    intro w es h
    simp only [Sem.runT]
    split
    · exact ih _ (hs _) _ _ (evz_push h (evz_cell _ _ _))
    · split
      · exact ih _ (hs _) _ _ (evz_cells h _ _ _)
      · exact h
  | store m a v k ih =>
    intro w es h
    by_cases h1 : ∃ c, v = .agg c
    · obtain ⟨c, rfl⟩ := h1; exact h
    by_cases h2 : ∃ c, v = .tuple c
    · obtain ⟨c, rfl⟩ := h2; exact h
    rw [runT_store p m a k w es (fun c e => h1 ⟨c, e⟩) (fun c e => h2 ⟨c, e⟩)]
    split
    · split
      · exact h
      · exact ih hs (w.setCell a v) _ (evz_push h (evz_cell _ _ _))
    · split
      · exact ih hs _ _ (evz_cells h _ _ _)
      · exact h
  | new o k ih => exact fun w es h => ih w.heap.size (hs _) { w with heap := w.heap.push o } es h
  | shape r k ih => exact fun w es h => ih _ (hs _) _ _ h
  | freeze a n k ih => exact fun w es h => ih hs _ _ h
  | frozen a k ih => exact fun w es h => ih _ (hs _) _ _ h
  | getObj r k ih =>
    intro w es h
    simp only [Sem.runT]
    split
    · exact h
    · exact ih _ (hs _) _ _ (evz_push h ⟨fun m h => by simp at h, fun r h => rfl⟩)
    · exact h
  | setObj r o k ih => exact hs.elim
  | choose q k ih =>
    intro w es h
    simp only [Sem.runT]
    split
    · exact ih _ (hs _) _ _ h
    · exact ih (q.cut (w.tape w.drawn q)) (hs _) { w with drawn := w.drawn + 1 } es h
  | sys c k ih => exact hs.elim
  | program k ih => exact fun w es h => ih p hs _ _ h
  | mark m k ih => exact fun w es h => ih hs.2 _ _ (evz_push h ⟨fun m' h => by simp at h; rw [← h]; exact hs.1, fun r h => by simp at h⟩)
  | halt x => exact fun w es h => h
end Go.Proofs.Ytpmmimcafkillaa.Br

set_option linter.unusedVariables false
set_option linter.unusedSimpArgs false
namespace Go.Proofs.Ytpmmimcafkillaa.Br
open Go Go.Conc
variable {p : Program}

/-- How a step's own access may halt it: ordinarily, or at a variable that waits for its initialiser. -/
def HaltOk (w : World) (h : Halt) : Prop := okHalt h = true ∨ ∃ g c t, h = .unsupported (.initOrder g) ∧ w.heap[g]? = some (.pending c t)

theorem noCell_ok (w : World) (a : Addr) (s : String) : HaltOk w (w.noCell a s) := by
  unfold World.noCell
  cases h : w.heap[a.block]? with
  | none => exact .inl rfl
  | some o =>
    cases o with
    | pending c t => exact .inr ⟨_, c, t, rfl, h⟩
    | _ => exact .inl rfl
theorem farLoad_ok {w : World} {a : Addr} {b : Bool} {h : Halt} (e : w.farLoad p a b = .error h) : HaltOk w h := by
  unfold World.farLoad at e
  split at e
  · split at e
    · cases e
    · cases e; exact .inl rfl
  · cases e; exact noCell_ok _ _ _
theorem farStore_ok {w : World} {a : Addr} {v : Value} {b : Bool} {h : Halt} (e : w.farStore p a v b = .error h) : HaltOk w h := by
  unfold World.farStore at e
  split at e
  · split at e
    · cases e
    · cases e; exact .inl rfl
  · cases e; exact noCell_ok _ _ _

def Came {α : Type} (Q : α → Prop) : Result α → Prop
  | .ok a _ => Q a
  | .halt h w => HaltOk w h

/-- WHAT AN ORDINARY RUN COMES TO. -/
theorem run_leaf {α : Type} {Q : α → Prop} {s : Sem α} (hs : Lf p Q s) : ∀ (w : World) (es : Array Event), Came Q (s.runT p w es).1 := by
  induction s with
  | pure a => exact fun w es => hs
  | load m a k ih =>
    intro w es
    simp only [Sem.runT]
    split
    · exact ih _ (hs _) _ _
    · split
      · exact ih _ (hs _) _ _
      · rename_i e; exact farLoad_ok e
  | store m a v k ih =>
    intro w es
    by_cases h1 : ∃ c, v = .agg c
    · obtain ⟨c, rfl⟩ := h1; exact .inl rfl
    by_cases h2 : ∃ c, v = .tuple c
    · obtain ⟨c, rfl⟩ := h2; exact .inl rfl
    rw [runT_store p m a k w es (fun c e => h1 ⟨c, e⟩) (fun c e => h2 ⟨c, e⟩)]
    split
    · split
      · exact .inl rfl
      · exact ih hs (w.setCell a v) _
    · split
      · exact ih hs _ _
      · rename_i e; exact farStore_ok e
  | new o k ih => exact fun w es => ih w.heap.size (hs _) { w with heap := w.heap.push o } es
  | shape r k ih => exact fun w es => ih _ (hs _) _ _
  | freeze a n k ih => exact fun w es => ih hs _ _
  | frozen a k ih => exact fun w es => ih _ (hs _) _ _
  | getObj r k ih =>
    intro w es
    simp only [Sem.runT]
    split
    · exact .inl rfl
    · exact ih _ (hs _) _ _
    · exact .inl rfl
  | setObj r o k ih => exact hs.elim
  | choose q k ih =>
    intro w es
    simp only [Sem.runT]
    split
    · exact ih _ (hs _) _ _
    · exact ih (q.cut (w.tape w.drawn q)) (hs _) { w with drawn := w.drawn + 1 } es
  | sys c k ih => exact hs.elim
  | program k ih => exact fun w es => ih p hs _ _
  | mark m k ih => exact fun w es => ih hs.2 _ _
  | halt h => exact fun w es => .inl hs

/-- Block g is a row of cells. -/
def CellsAt (w : World) (g : Nat) : Prop := ∃ c t f, w.heap[g]? = some (.cells c t f)

theorem cellsAt_lt {w : World} {g : Nat} (h : CellsAt w g) : g < w.heap.size := by
  obtain ⟨c, t, f, h⟩ := h
  exact (Array.getElem?_eq_some_iff.1 h).1
theorem cellsAt_setCell {w : World} {g : Nat} (h : CellsAt w g) (a : Addr) (v : Value) : CellsAt (w.setCell a v) g := by
  obtain ⟨c, t, f, h⟩ := h
  unfold CellsAt World.setCell
  simp only [Array.getElem?_modify, h]
  split
  · exact ⟨_, _, _, rfl⟩
  · exact ⟨_, _, _, rfl⟩
theorem cellsAt_freeze {w : World} {g : Nat} (h : CellsAt w g) (a : Addr) (n : Nat) : CellsAt (w.freeze a n) g := by
  unfold World.freeze
  split
  · exact h
  · obtain ⟨c, t, f, h⟩ := h
    unfold CellsAt
    simp only [Array.getElem?_modify, h]
    split
    · obtain ⟨lo, hi⟩ := f
      exact ⟨_, _, _, rfl⟩
    · exact ⟨_, _, _, rfl⟩
theorem cellsAt_viewStore {w w' : World} {g : Nat} (h : CellsAt w g) {at_ : Addr} {u : TypeId} {k : Addr} {v : Value} {b : Bool} {l : List Addr} (e : w.viewStore p at_ u k v b = .ok (w', l)) : CellsAt w' g := by
  have key : ∀ o : Obj, (∃ c t f, o = .cells c t f) → CellsAt { w with heap := w.heap.setIfInBounds at_.block o } g := by
    rintro o ⟨c, t, f, rfl⟩
    by_cases hg : at_.block = g
    · subst hg
      exact ⟨c, t, f, by simp [cellsAt_lt h]⟩
    · obtain ⟨c', t', f', h⟩ := h
      exact ⟨c', t', f', by simp [hg, h]⟩
  unfold World.viewStore at e
  cases ht : (!tight p p.depth u) with
  | true => rw [ht] at e; cases e
  | false =>
    simp only [ht, Bool.false_eq_true, if_false, Bind.bind, Except.bind, pure, Except.pure] at e
    cases hs : w.seen p at_ u k b with
    | error x => rw [hs] at e; cases e
    | ok x =>
      obtain ⟨c, e', frozen, first, like, cells⟩ := x
      rw [hs] at e
      dsimp only at e
      cases hb : v.bytes? with
      | none => rw [hb] at e; cases e
      | some bytes =>
        rw [hb] at e
        dsimp only at e
        split at e
        · cases e
        · split at e
          · cases e
          · cases e
            exact key _ ⟨_, _, _, rfl⟩
theorem cellsAt_farStore {w w' : World} {g : Nat} (h : CellsAt w g) {a : Addr} {v : Value} {b : Bool} {l : List Addr} (e : w.farStore p a v b = .ok (w', l)) : CellsAt w' g := by
  unfold World.farStore at e
  split at e
  · split at e
    · rename_i hv; cases e; exact cellsAt_viewStore h hv
    · cases e
  · cases e

/-- A ROW OF CELLS STAYS ONE. -/
theorem run_cells {α : Type} {s : Sem α} (hs : NoSys p s) {g : Nat} : ∀ (w : World) (es : Array Event), CellsAt w g → CellsAt (wof (s.runT p w es).1) g := by
  induction s with
  | pure a => exact fun w es h => h
  | load m a k ih =>
    intro w es h
    simp only [Sem.runT]
    split
    · exact ih _ (hs _) _ _ h
    · split
      · exact ih _ (hs _) _ _ h
      · exact h
  | store m a v k ih =>
    intro w es h
    by_cases h1 : ∃ c, v = .agg c
    · obtain ⟨c, rfl⟩ := h1; exact h
    by_cases h2 : ∃ c, v = .tuple c
    · obtain ⟨c, rfl⟩ := h2; exact h
    rw [runT_store p m a k w es (fun c e => h1 ⟨c, e⟩) (fun c e => h2 ⟨c, e⟩)]
    split
    · split
      · exact h
      · exact ih hs (w.setCell a v) _ (cellsAt_setCell h _ _)
    · split
      · rename_i e; exact ih hs _ _ (cellsAt_farStore h e)
      · exact h
  | new o k ih =>
    intro w es h
    refine ih w.heap.size (hs _) { w with heap := w.heap.push o } es ?_
    have := cellsAt_lt h
    obtain ⟨c, t, f, h⟩ := h
    exact ⟨c, t, f, by simp [Array.getElem?_push, h, Nat.ne_of_lt this]⟩
  | shape r k ih => exact fun w es h => ih _ (hs _) _ _ h
  | freeze a n k ih => exact fun w es h => ih hs _ _ (cellsAt_freeze h _ _)
  | frozen a k ih => exact fun w es h => ih _ (hs _) _ _ h
  | getObj r k ih =>
    intro w es h
    simp only [Sem.runT]
    split
    · exact h
    · exact ih _ (hs _) _ _ h
    · exact h
  | setObj r o k ih => exact hs.elim
  | choose q k ih =>
    intro w es h
    simp only [Sem.runT]
    split
    · exact ih _ (hs _) _ _ h
    · exact ih (q.cut (w.tape w.drawn q)) (hs _) { w with drawn := w.drawn + 1 } es h
  | sys c k ih => exact hs.elim
  | program k ih => exact fun w es h => ih p hs _ _ h
  | mark m k ih => exact fun w es h => ih hs.2 _ _ h
  | halt x => exact fun w es h => h
end Go.Proofs.Ytpmmimcafkillaa.Br

set_option linter.unusedVariables false
set_option linter.unusedSimpArgs false
namespace Go.Proofs.Ytpmmimcafkillaa.Br
open Go Go.Conc
variable {p : Program} {S : Nat → Prop}

/-- W is w, but that in w the blocks of S are emptied. -/
structure Hid (S : Nat → Prop) (w W : World) : Prop where
  tape : W.tape = w.tape
  drawn : W.drawn = w.drawn
  os : W.os = w.os
  output : W.output = w.output
  size : W.heap.size = w.heap.size
  out : ∀ b, ¬ S b → W.heap[b]? = w.heap[b]?
  inn : ∀ b, S b → ∃ c e, w.heap[b]? = some (.cells #[] e (0, 0)) ∧ W.heap[b]? = some (.cells c e (0, 0))
def Pz (w : World) (b : Nat) : Prop := ∃ e, w.heap[b]? = some (.cells #[] e (0, 0))
def Em (w : World) (b : Nat) : Prop := ∃ e f, w.heap[b]? = some (.cells #[] e f)
/-- an emptied block was marked: then nothing is said -/
def Lost (S : Nat → Prop) (w : World) : Prop := ∃ b, S b ∧ b < w.heap.size ∧ ¬ Pz w b

theorem Pz.em {w : World} {b : Nat} (h : Pz w b) : Em w b := let ⟨e, h⟩ := h; ⟨e, _, h⟩
theorem Hid.pz {w W : World} (h : Hid S w W) {b : Nat} (hb : S b) : Pz w b := let ⟨_, e, h, _⟩ := h.inn b hb; ⟨e, h⟩
theorem Hid.lt {w W : World} (h : Hid S w W) {b : Nat} (hb : S b) : b < w.heap.size := by
  obtain ⟨_, e, h, _⟩ := h.inn b hb
  exact (Array.getElem?_eq_some_iff.1 h).1
theorem Hid.not_lost {w W : World} (h : Hid S w W) : ¬ Lost S w := fun ⟨_, hb, _, hn⟩ => hn (h.pz hb)

def Rs {α : Type} (S : Nat → Prop) (x y : Result α × Array Event) : Prop :=
  match x.1 with
  | .ok a w' => Lost S w' ∨ ∃ W', y = (.ok a W', x.2) ∧ Hid S w' W'
  | .halt h w' => (∀ v, h ≠ .panic v) ∨ Lost S w' ∨ ∃ W', y = (.halt h W', x.2) ∧ Hid S w' W'

/-! what is marked stays marked -/
theorem back_setCell {w : World} {a : Addr} {v : Value} {b : Nat} (h : Pz (w.setCell a v) b) : Pz w b := by
  obtain ⟨e, h⟩ := h
  unfold World.setCell at h
  simp only [Array.getElem?_modify] at h
  split at h
  · cases hb : w.heap[b]? with
    | none => rw [hb] at h; cases h
    | some o =>
      rw [hb] at h
      cases o with
      | cells c t f =>
        simp only [Option.map_some, Option.some.injEq, Obj.cells.injEq] at h
        obtain ⟨h1, rfl, rfl⟩ := h
        refine ⟨t, ?_⟩
        split at h1
        · rw [h1] at hb; exact hb
        · have : c = #[] := by
            have := congrArg Array.size h1
            simp at this
            exact this
          rw [this] at hb; exact hb
      | _ => simp at h
  · exact ⟨e, h⟩
theorem back_freeze {w : World} {a : Addr} {n : Nat} {b : Nat} (h : Pz (w.freeze a n) b) : Pz w b ∧ (n ≠ 0 → a.block ≠ b) := by
  obtain ⟨e, h⟩ := h
  unfold World.freeze at h
  split at h
  · rename_i h0; exact ⟨⟨e, h⟩, fun x => absurd h0 x⟩
  · rename_i h0
    simp only [Array.getElem?_modify] at h
    split at h
    · exfalso
      cases hb : w.heap[b]? with
      | none => rw [hb] at h; cases h
      | some o =>
        rw [hb] at h
        cases o with
        | cells c t f =>
          obtain ⟨lo, hi⟩ := f
          simp only [Option.map_some, Option.some.injEq, Obj.cells.injEq] at h
          obtain ⟨_, _, h2⟩ := h
          split at h2
          · simp only [Prod.mk.injEq] at h2; omega
          · simp only [Prod.mk.injEq] at h2; omega
        | _ => simp at h
    · rename_i hne; exact ⟨⟨e, h⟩, fun _ => hne⟩

theorem foldlM_size {α : Type} (f : Array Value → α → Except String (Array Value)) (hf : ∀ c x c', f c x = .ok c' → c'.size = c.size) : ∀ (l : List α) (c c' : Array Value), l.foldlM f c = .ok c' → c'.size = c.size := by
  intro l
  induction l with
  | nil => intro c c' h; cases h; rfl
  | cons x l ih =>
    intro c c' h
    rw [List.foldlM_cons] at h
    cases hx : f c x with
    | error e => rw [hx] at h; cases h
    | ok c1 => rw [hx] at h; rw [ih c1 c' h, hf c x c1 hx]

/-- What a far store leaves. -/
theorem viewStore_ok {w w' : World} {at_ : Addr} {u : TypeId} {k : Addr} {v : Value} {b : Bool} {l : List Addr} (h : w.viewStore p at_ u k v b = .ok (w', l)) :
    ∃ c e fr first like cells c', w.seen p at_ u k b = .ok (c, e, fr, first, like, cells) ∧ w' = { w with heap := w.heap.setIfInBounds at_.block (.cells c' e fr) } ∧ c'.size = c.size ∧ l = cells.map (fun x => { block := at_.block, off := x.1 }) := by
  unfold World.viewStore at h
  cases ht : (!tight p p.depth u) with
  | true => rw [ht] at h; cases h
  | false =>
    simp only [ht, Bool.false_eq_true, if_false, Bind.bind, Except.bind, pure, Except.pure] at h
    cases hs : w.seen p at_ u k b with
    | error x => rw [hs] at h; cases h
    | ok x =>
      obtain ⟨c, e', frozen, first, like, cells⟩ := x
      rw [hs] at h
      dsimp only at h
      cases hb : v.bytes? with
      | none => rw [hb] at h; cases h
      | some bytes =>
        rw [hb] at h
        dsimp only at h
        split at h
        · cases h
        · split at h
          · cases h
          · rename_i c' hc
            cases h
            refine ⟨c, e', frozen, first, like, cells, c', rfl, rfl, foldlM_size _ (fun c x c' hx => ?_) cells c c' hc, rfl⟩
            obtain ⟨i, s, bs⟩ := x
            dsimp only at hx
            repeat' (first | (cases hx; done) | split at hx)
            all_goals (first | (cases hx; simp; done) | (cases hx))
end Go.Proofs.Ytpmmimcafkillaa.Br
