/-
  Which functions of the model run alike where blocks are emptied (3). It names no program; no conditions.
-/
import Derived.Test.YtpmmimcafkillaaZHw
set_option linter.unusedVariables false
set_option linter.unusedSimpArgs false
namespace Go.Proofs.Ytpmmimcafkillaa.Br
open Go Go.Conc
variable {p : Program}

theorem sm_ite {α : Type} {c : Prop} [Decidable c] {s t : Sem α} (hs : Sm p s) (ht : Sm p t) : Sm p (if c then s else t) := by
  split
  · exact hs
  · exact ht
theorem sm_binOp (op : BinOp) (t : TypeId) (x y : Value) : Sm p (binOp op t x y) := by
  unfold binOp
  split
  all_goals (try (exact sm_movedNumber _ _ _))
  all_goals (try (exact sm_bind (sm_underlying _) fun d => sm_ite (sm_movedPointer _ _ _) (sm_movedNumber _ _ _)))
  all_goals (repeat' (first | with_reducible exact sm_pure _ | ((with_reducible refine sm_unsupported _ ?_) <;> rfl) | with_reducible (first | exact sm_complexOp _ _ _ _ _ _ | exact sm_equal _ _ _ | exact sm_addrSub _ _ _ | exact sm_addrCmp _ _ _ | exact sm_addrMod _ _ _ | exact sm_movedNumber _ _ _ | exact sm_movedPointer _ _ _ | exact sm_behindNumber _ | exact sm_intArith _ _ _ _ | exact sm_intDiv _ _ _ _ | exact sm_intBits _ _ _ _ | exact sm_shift _ _ _ _ _ | exact sm_intCmp _ _ _ | exact sm_floatArith _ _ _ _ | exact sm_floatCmp _ _ _ _ | exact sm_stringOp _ _ _ | exact sm_underlying _ | exact sm_stuck _ | assumption) | (refine sm_bind ?_ (fun _ => ?_)) | (intro _) | split | dsimp only))

theorem sm_lenOf (x : Value) : Sm p (Builtin.lenOf x) := by unfold Builtin.lenOf; (repeat' (first | with_reducible exact sm_pure _ | ((with_reducible refine sm_unsupported _ ?_) <;> rfl) | with_reducible (first | exact sm_stuck _ | assumption) | (intro _) | split | dsimp only))
theorem sm_firstCells (s n : Nat) (x : Value) : Sm p (Builtin.firstCells s n x) := by unfold Builtin.firstCells; (repeat' (first | with_reducible exact sm_pure _ | ((with_reducible refine sm_unsupported _ ?_) <;> rfl) | with_reducible (first | exact sm_loadCells _ _ | exact sm_stuck _ | assumption) | (intro _) | split | dsimp only))
theorem sm_cap (a : Array TypeId) (t : TypeId) (args : Array Value) : Sm p (Builtin.cap_ a t args) := by unfold Builtin.cap_; (repeat' (first | with_reducible exact sm_pure _ | ((with_reducible refine sm_unsupported _ ?_) <;> rfl) | with_reducible (first | exact sm_underlying _ | exact sm_getObj _ | exact sm_stuck _ | assumption) | (refine sm_bind ?_ (fun _ => ?_)) | (intro _) | split | dsimp only))
theorem sm_len (a : Array TypeId) (t : TypeId) (args : Array Value) : Sm p (Builtin.len_ a t args) := by unfold Builtin.len_; (repeat' (first | with_reducible exact sm_pure _ | ((with_reducible refine sm_unsupported _ ?_) <;> rfl) | with_reducible (first | exact sm_underlying _ | exact sm_getObj _ | exact sm_stuck _ | assumption) | (refine sm_bind ?_ (fun _ => ?_)) | (intro _) | split | dsimp only))
theorem sm_copy (a : Array TypeId) (t : TypeId) (args : Array Value) : Sm p (Builtin.copy_ a t args) := by unfold Builtin.copy_; (repeat' (first | with_reducible exact sm_pure _ | ((with_reducible refine sm_unsupported _ ?_) <;> rfl) | with_reducible (first | exact sm_lenOf _ | exact sm_firstCells _ _ _ | exact sm_storeCells _ _ _ | exact sm_sizeOf _ | exact sm_underlying _ | exact sm_stuck _ | assumption) | (refine sm_bind ?_ (fun _ => ?_)) | (intro _) | split | dsimp only))
theorem sm_max2 (x y : Value) : Sm p (Builtin.max2 x y) := by unfold Builtin.max2; (repeat' (first | with_reducible exact sm_pure _ | ((with_reducible refine sm_unsupported _ ?_) <;> rfl) | with_reducible (first | exact sm_stringOp _ _ _ | exact sm_asBool _ | exact sm_choose _ | exact sm_stuck _ | assumption) | (refine sm_bind ?_ (fun _ => ?_)) | (intro _) | split | dsimp only))
theorem sm_min2 (x y : Value) : Sm p (Builtin.min2 x y) := by unfold Builtin.min2; (repeat' (first | with_reducible exact sm_pure _ | ((with_reducible refine sm_unsupported _ ?_) <;> rfl) | with_reducible (first | exact sm_stringOp _ _ _ | exact sm_asBool _ | exact sm_choose _ | exact sm_stuck _ | assumption) | (refine sm_bind ?_ (fun _ => ?_)) | (intro _) | split | dsimp only))
theorem sm_max (a : Array TypeId) (t : TypeId) (args : Array Value) : Sm p (Builtin.max_ a t args) := by unfold Builtin.max_; (repeat' (first | with_reducible exact sm_pure _ | ((with_reducible refine sm_unsupported _ ?_) <;> rfl) | with_reducible (first | exact sm_max2 _ _ | (refine sm_foldlM_list _ (fun _ _ => ?_) _ _) | exact sm_stuck _ | assumption) | (intro _) | split | dsimp only))
theorem sm_min (a : Array TypeId) (t : TypeId) (args : Array Value) : Sm p (Builtin.min_ a t args) := by unfold Builtin.min_; (repeat' (first | with_reducible exact sm_pure _ | ((with_reducible refine sm_unsupported _ ?_) <;> rfl) | with_reducible (first | exact sm_min2 _ _ | (refine sm_foldlM_list _ (fun _ _ => ?_) _ _) | exact sm_stuck _ | assumption) | (intro _) | split | dsimp only))
/-- it never panics -/
def Np (p : Program) {α : Type} : Sem α → Prop
  | .pure _ => True
  | .load _ _ k => ∀ v, Np p (k v)
  | .store _ _ _ k => Np p k
  | .new _ k => ∀ r, Np p (k r)
  | .shape _ k => ∀ s, Np p (k s)
  | .freeze _ _ k => Np p k
  | .frozen _ k => ∀ b, Np p (k b)
  | .getObj _ k => ∀ o, Np p (k o)
  | .setObj _ _ k => Np p k
  | .choose _ k => ∀ n, Np p (k n)
  | .sys _ k => ∀ r, Np p (k r)
  | .program k => Np p (k p)
  | .mark _ k => Np p k
  | .halt h => ∀ v, h ≠ .panic v
theorem np_bind {α β : Type} {s : Sem α} {f : α → Sem β} (hs : Np p s) (hf : ∀ a, Np p (f a)) : Np p (s >>= f) := by
  show Np p (s.bind f)
  induction s with
  | pure a => exact hf a
  | load m a k ih => exact fun v => ih v (hs v)
  | store m a v k ih => exact ih hs
  | new o k ih => exact fun v => ih v (hs v)
  | shape r k ih => exact fun v => ih v (hs v)
  | freeze a n k ih => exact ih hs
  | frozen a k ih => exact fun v => ih v (hs v)
  | getObj r k ih => exact fun v => ih v (hs v)
  | setObj r o k ih => exact ih hs
  | choose q k ih => exact fun v => ih v (hs v)
  | sys c k ih => exact fun v => ih v (hs v)
  | program k ih => exact ih p hs
  | mark m k ih => exact ih hs
  | halt h => exact hs
theorem noCell_np (w : World) (a : Addr) (s : String) (v : Value) : w.noCell a s ≠ .panic v := by
  unfold World.noCell
  split <;> simp
theorem farLoad_np {w : World} {a : Addr} {b : Bool} {h : Halt} (e : w.farLoad p a b = .error h) (v : Value) : h ≠ .panic v := by
  rintro rfl
  unfold World.farLoad at e
  split at e
  · split at e <;> cases e
  · exact noCell_np _ _ _ _ (Except.error.inj e)
theorem farStore_np {w : World} {a : Addr} {x : Value} {b : Bool} {h : Halt} (e : w.farStore p a x b = .error h) (v : Value) : h ≠ .panic v := by
  rintro rfl
  unfold World.farStore at e
  split at e
  · split at e <;> cases e
  · exact noCell_np _ _ _ _ (Except.error.inj e)
theorem run_np {α : Type} {s : Sem α} (hs : Np p s) : ∀ (w : World) (es : Array Event) (h : Halt) (w' : World), (s.runT p w es).1 = .halt h w' → ∀ v, h ≠ .panic v := by
  induction s with
  | pure a => intro w es h w' e; cases e
  | load m a k ih =>
    intro w es h w' e
    simp only [Sem.runT] at e
    split at e
    · exact ih _ (hs _) _ _ _ _ e
    · split at e
      · exact ih _ (hs _) _ _ _ _ e
      · rename_i hf; cases e; exact farLoad_np hf
  | store m a v k ih =>
    intro w es h w' e
    by_cases h1 : ∃ c, v = .agg c
    · obtain ⟨c, rfl⟩ := h1; cases e; simp
    by_cases h2 : ∃ c, v = .tuple c
    · obtain ⟨c, rfl⟩ := h2; cases e; simp
    rw [runT_store p m a k w es (fun c e => h1 ⟨c, e⟩) (fun c e => h2 ⟨c, e⟩)] at e
    split at e
    · split at e
      · cases e; simp
      · exact ih hs _ _ _ _ e
    · split at e
      · exact ih hs _ _ _ _ e
      · rename_i hf; cases e; exact farStore_np hf
  | new o k ih => exact fun w es h w' e => ih _ (hs _) _ _ _ _ e
  | shape r k ih => exact fun w es h w' e => ih _ (hs _) _ _ _ _ e
  | freeze a n k ih => exact fun w es h w' e => ih hs _ _ _ _ e
  | frozen a k ih => exact fun w es h w' e => ih _ (hs _) _ _ _ _ e
  | getObj r k ih =>
    intro w es h w' e
    simp only [Sem.runT] at e
    split at e
    · cases e; simp
    · exact ih _ (hs _) _ _ _ _ e
    · cases e; simp
  | setObj r o k ih =>
    intro w es h w' e
    simp only [Sem.runT] at e
    split at e
    · cases e; simp
    · exact ih hs _ _ _ _ e
    · cases e; simp
  | choose q k ih =>
    intro w es h w' e
    simp only [Sem.runT] at e
    split at e
    · exact ih _ (hs _) _ _ _ _ e
    · exact ih _ (hs _) _ _ _ _ e
  | sys c k ih => exact fun w es h w' e => ih _ (hs _) _ _ _ _ e
  | program k ih => exact fun w es h w' e => ih _ hs _ _ _ _ e
  | mark m k ih => exact fun w es h w' e => ih hs _ _ _ _ e
  | halt x => intro w es h w' e; cases e; exact hs
theorem np_holdsCells (a : Addr) (n : Nat) : Np p (Builtin.holdsCells a n) := by
  unfold Builtin.holdsCells
  refine np_bind (fun _ => trivial) fun s => ?_
  split <;> trivial
theorem np_mayShare (s l n : Nat) (b : Option Addr) (x : Value) : Np p (Builtin.mayShare s l n b x) := by
  unfold Builtin.mayShare
  (repeat' (first | exact trivial | exact np_holdsCells _ _ | (refine np_bind ?_ (fun _ => ?_)) | (intro _) | split | dsimp only))
theorem nb_holdsCells (a : Addr) (n : Nat) : NoSys p (Builtin.holdsCells a n) := by
  unfold Builtin.holdsCells
  refine NoSys.bind (fun _ => trivial) fun s => ?_
  split <;> trivial
theorem nb_bind {α β : Type} {s : Sem α} {f : α → Sem β} (hs : NoSys p s) (hf : ∀ a, NoSys p (f a)) : NoSys p (s >>= f) := NoSys.bind hs hf
theorem ns_mayShare (s l n : Nat) (b : Option Addr) (x : Value) : NoSys p (Builtin.mayShare s l n b x) := by
  unfold Builtin.mayShare
  (repeat' (first | exact trivial | exact nb_holdsCells _ _ | (refine nb_bind ?_ (fun _ => ?_)) | (intro _) | split | dsimp only))
/-- where no memory bears it, the run halts whatever is asked first -/
theorem sm_never {α β : Type} {s : Sem α} {k : α → Sem β} (h1 : NoSys p s) (h2 : Np p s) (hns : ∀ r, NoSys p (k r)) (hk : ∀ r w es, ∃ u w' es', (k r).runT p w es = (.halt (.unsupported u) w', es')) : Sm p (s >>= k) := by
  refine ⟨NoSys.bind h1 hns, fun S w W es h => ?_⟩
  show Rs S (Sem.runT p (s.bind k) w es) _
  rw [Sem.runT_bind']
  have hn := run_np h2 w es
  cases hr : s.runT p w es with
  | mk r es1 =>
    rw [hr] at hn
    cases r with
    | ok a w' =>
      obtain ⟨u, w2, es2, hu⟩ := hk a w' es1
      simp only [hu]
      exact .inl fun v e => by cases e
    | halt x w' => exact .inl (hn x w' rfl)
end Go.Proofs.Ytpmmimcafkillaa.Br
