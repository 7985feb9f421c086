/-
  The starter's own functions and the group's: what each operation of theirs may come to.
-/
import Derived.Test.YtpdnceeniokemaaZFi
set_option linter.unusedVariables false
set_option linter.unusedSimpArgs false
namespace Go.Proofs.Ytpdnceeniokemaa.Ct
open Go Go.Conc
section
variable {p : Program} {α β : Type}
theorem lv_lf {Q : α → Prop} {s : Sem α} (h : Br.Lf p Q s) : Lv p Q s := by
  induction s with
  | pure a => exact h
  | load m a k ih => exact fun v => ih v (h v)
  | store m a v k ih => exact ih h
  | new o k ih => exact fun v => ih v (h v)
  | shape r k ih => exact fun v => ih v (h v)
  | freeze a n k ih => exact ih h
  | frozen a k ih => exact fun v => ih v (h v)
  | getObj r k ih => exact fun v => ih v (h v)
  | setObj r o k ih => exact h.elim
  | choose q k ih => exact fun v => ih v (h v)
  | sys c k ih => exact h.elim
  | program k ih => exact ih p h
  | mark m k ih => exact ih h.2
  | halt h' => intro g e; subst e; exact absurd (show Br.okHalt _ = true from h) (by simp [Br.okHalt])
theorem lv_ns {s : Sem α} (h : Br.NoSys p s) : Lv p (fun _ => True) s := by
  induction s with
  | pure a => trivial
  | load m a k ih => exact fun v => ih v (h v)
  | store m a v k ih => exact ih h
  | new o k ih => exact fun v => ih v (h v)
  | shape r k ih => exact fun v => ih v (h v)
  | freeze a n k ih => exact ih h
  | frozen a k ih => exact fun v => ih v (h v)
  | getObj r k ih => exact fun v => ih v (h v)
  | setObj r o k ih => exact h.elim
  | choose q k ih => exact fun v => ih v (h v)
  | sys c k ih => exact h.elim
  | program k ih => exact ih p h
  | mark m k ih => exact ih h.2
  | halt h' => intro g e; subst e; exact absurd (show Br.okHalt _ = true from h) (by simp [Br.okHalt])
theorem lv_bind {Q : β → Prop} {s : Sem α} {f : α → Sem β} (h : Lv p (fun _ => True) s) (hf : ∀ a, Lv p Q (f a)) : Lv p Q (s >>= f) := Lv.bind (h.mono fun a _ => hf a)
theorem lv_val {s : Sem Value} {F : FuncId → Prop} (h : Lv p (fun _ => True) s) : Lv p (Cm p F) (do pure (.value (← s)) : Sem Next) := lv_bind h fun _ => trivial
theorem lv_stuck {Q : α → Prop} (s : String) : Lv p Q (stuck s : Sem α) := fun g e => by cases e
theorem lv_uns {Q : α → Prop} (u : Unsupported) (h : ∀ g, u ≠ .initOrder g) : Lv p Q (unsupported u : Sem α) := fun g e => h g (by cases e; rfl)
theorem lv_load (a : Addr) (m : Mode) : Lv p (fun _ => True) (load a m) := fun _ => trivial
theorem lv_store (a : Addr) (v : Value) (m : Mode) : Lv p (fun _ => True) (store a v m) := trivial
theorem lv_mark (m : Mark) : Lv p (fun _ => True) (mark m) := trivial
theorem lv_new (o : Obj) : Lv p (fun _ => True) (newObj o) := fun _ => trivial
theorem lv_shape (r : Nat) : Lv p (fun _ => True) (shape r) := fun _ => trivial
theorem lv_pure (a : α) : Lv p (fun _ => True) (pure a : Sem α) := trivial
theorem lt_asAddr (v : Value) : Lv p (fun _ => True) (asAddr v) := lv_ns (Br.sm_asAddr v).1
theorem lt_asInt (v : Value) : Lv p (fun _ => True) (asInt v) := lv_ns (Br.sm_asInt v).1
theorem lt_intArith (o : BinOp) (k : IntKind) (x y : Int) : Lv p (fun _ => True) (Op.intArith o k x y) := lv_ns (Br.sm_intArith o k x y).1
theorem lt_intBits (o : BinOp) (k : IntKind) (x y : Int) : Lv p (fun _ => True) (Op.intBits o k x y) := lv_ns (Br.sm_intBits o k x y).1
theorem lt_viewAt (r : Nat) : Lv p (fun _ => True) (viewAt r) := lv_ns (Br.sm_viewAt r).1
theorem lt_typeInfo (t : TypeId) : Lv p (fun _ => True) (typeInfo t) := lv_ns (Br.sm_typeInfo t).1
theorem lt_underlying (t : TypeId) : Lv p (fun _ => True) (underlying t) := lv_ns (Br.sm_underlying t).1
theorem lt_sizeOf (t : TypeId) : Lv p (fun _ => True) (Go.sizeOf t) := lv_ns (Br.sm_sizeOf t).1
theorem lt_samePointer (a b : Option Addr) : Lv p (fun _ => True) (samePointer a b) := lv_ns (Br.sm_samePointer a b).1
theorem lt_frozen (a : Addr) : Lv p (fun _ => True) (frozen a) := lv_ns (Br.sm_frozen a).1
theorem lt_getObj (r : Nat) : Lv p (fun _ => True) (getObj r) := lv_ns (Br.sm_getObj r).1
theorem lt_program : Lv p (fun _ => True) program := lv_ns Br.sm_program.1
theorem lt_rtp (e : RuntimeError) : Lv p (fun _ => True) (runtimePanic e : Sem α) := lv_ns (Br.sm_runtimePanic e).1
theorem lt_gop (v : Value) : Lv p (fun _ => True) (goPanic v : Sem α) := lv_ns (Br.sm_goPanic v).1
theorem lv_any {γ : Type} (l : List γ) (f : γ → Sem Bool) (h : ∀ x, Lv p (fun _ => True) (f x)) : Lv p (fun _ => True) (l.anyM f) := by
  induction l with
  | nil => trivial
  | cons x l ih =>
    show Lv p _ ((f x) >>= fun b => _)
    refine lv_bind (h x) fun b => ?_
    cases b
    · exact ih
    · trivial
end
section
variable {p : Program}
theorem lv_read (t : Extern.Atomic.T) (a : Addr) : Lv p (fun _ => True) (Extern.Atomic.read t a) := by
  unfold Extern.Atomic.read
  repeat' (first | with_reducible exact lv_stuck _ | ((with_reducible refine lv_uns _ (fun g => ?_)) <;> simp) | with_reducible exact lv_load _ _ | with_reducible exact lv_store _ _ _ | with_reducible exact lv_mark _ | with_reducible exact lv_new _ | with_reducible exact lv_shape _ | with_reducible exact lv_pure _ | with_reducible exact lt_asAddr _ | with_reducible exact lt_asInt _ | with_reducible exact lt_intArith _ _ _ _ | with_reducible exact lt_intBits _ _ _ _ | with_reducible exact lt_viewAt _ | with_reducible exact lt_typeInfo _ | with_reducible exact lt_underlying _ | with_reducible exact lt_sizeOf _ | with_reducible exact lt_samePointer _ _ | with_reducible exact lt_frozen _ | with_reducible exact lt_getObj _ | with_reducible exact lt_program | with_reducible exact lt_rtp _ | with_reducible exact lt_gop _ | exact True.intro | assumption | (refine lv_bind ?_ (fun _ => ?_)) | (intro _) | split | dsimp only)
theorem lv_touches (a : Addr) : Lv p (fun _ => True) (Extern.Atomic.touchesFrozen a) := by
  unfold Extern.Atomic.touchesFrozen
  repeat' (first | exact lv_any _ _ (fun _ _ => trivial) | first | with_reducible exact lv_stuck _ | ((with_reducible refine lv_uns _ (fun g => ?_)) <;> simp) | with_reducible exact lv_load _ _ | with_reducible exact lv_store _ _ _ | with_reducible exact lv_mark _ | with_reducible exact lv_new _ | with_reducible exact lv_shape _ | with_reducible exact lv_pure _ | with_reducible exact lt_asAddr _ | with_reducible exact lt_asInt _ | with_reducible exact lt_intArith _ _ _ _ | with_reducible exact lt_intBits _ _ _ _ | with_reducible exact lt_viewAt _ | with_reducible exact lt_typeInfo _ | with_reducible exact lt_underlying _ | with_reducible exact lt_sizeOf _ | with_reducible exact lt_samePointer _ _ | with_reducible exact lt_frozen _ | with_reducible exact lt_getObj _ | with_reducible exact lt_program | with_reducible exact lt_rtp _ | with_reducible exact lt_gop _ | exact True.intro | assumption | (refine lv_bind ?_ (fun _ => ?_)) | (intro _) | split | dsimp only)
theorem lv_loadT (t : Extern.Atomic.T) (args : Array Value) : Lv p (fun _ => True) (Extern.Atomic.loadT t args) := by
  rcases args with ⟨_ | ⟨a, _ | ⟨b, _ | ⟨c, _ | ⟨d, l⟩⟩⟩⟩⟩
  all_goals unfold Extern.Atomic.loadT
  all_goals try exact lv_stuck _
  all_goals try dsimp only
  repeat' (first | exact lv_read _ _ | first | with_reducible exact lv_stuck _ | ((with_reducible refine lv_uns _ (fun g => ?_)) <;> simp) | with_reducible exact lv_load _ _ | with_reducible exact lv_store _ _ _ | with_reducible exact lv_mark _ | with_reducible exact lv_new _ | with_reducible exact lv_shape _ | with_reducible exact lv_pure _ | with_reducible exact lt_asAddr _ | with_reducible exact lt_asInt _ | with_reducible exact lt_intArith _ _ _ _ | with_reducible exact lt_intBits _ _ _ _ | with_reducible exact lt_viewAt _ | with_reducible exact lt_typeInfo _ | with_reducible exact lt_underlying _ | with_reducible exact lt_sizeOf _ | with_reducible exact lt_samePointer _ _ | with_reducible exact lt_frozen _ | with_reducible exact lt_getObj _ | with_reducible exact lt_program | with_reducible exact lt_rtp _ | with_reducible exact lt_gop _ | exact True.intro | assumption | (refine lv_bind ?_ (fun _ => ?_)) | (intro _) | split | dsimp only)
theorem lv_storeT (args : Array Value) : Lv p (fun _ => True) (Extern.Atomic.storeT args) := by
  rcases args with ⟨_ | ⟨a, _ | ⟨b, _ | ⟨c, _ | ⟨d, l⟩⟩⟩⟩⟩
  all_goals unfold Extern.Atomic.storeT
  all_goals try exact lv_stuck _
  all_goals try dsimp only
  repeat' (first | with_reducible exact lv_stuck _ | ((with_reducible refine lv_uns _ (fun g => ?_)) <;> simp) | with_reducible exact lv_load _ _ | with_reducible exact lv_store _ _ _ | with_reducible exact lv_mark _ | with_reducible exact lv_new _ | with_reducible exact lv_shape _ | with_reducible exact lv_pure _ | with_reducible exact lt_asAddr _ | with_reducible exact lt_asInt _ | with_reducible exact lt_intArith _ _ _ _ | with_reducible exact lt_intBits _ _ _ _ | with_reducible exact lt_viewAt _ | with_reducible exact lt_typeInfo _ | with_reducible exact lt_underlying _ | with_reducible exact lt_sizeOf _ | with_reducible exact lt_samePointer _ _ | with_reducible exact lt_frozen _ | with_reducible exact lt_getObj _ | with_reducible exact lt_program | with_reducible exact lt_rtp _ | with_reducible exact lt_gop _ | exact True.intro | assumption | (refine lv_bind ?_ (fun _ => ?_)) | (intro _) | split | dsimp only)
theorem lv_casT (t : Extern.Atomic.T) (args : Array Value) : Lv p (fun _ => True) (Extern.Atomic.casT t args) := by
  rcases args with ⟨_ | ⟨a, _ | ⟨b, _ | ⟨c, _ | ⟨d, l⟩⟩⟩⟩⟩
  all_goals unfold Extern.Atomic.casT
  all_goals try exact lv_stuck _
  all_goals try dsimp only
  repeat' (first | exact lv_read _ _ | exact lv_touches _ | first | with_reducible exact lv_stuck _ | ((with_reducible refine lv_uns _ (fun g => ?_)) <;> simp) | with_reducible exact lv_load _ _ | with_reducible exact lv_store _ _ _ | with_reducible exact lv_mark _ | with_reducible exact lv_new _ | with_reducible exact lv_shape _ | with_reducible exact lv_pure _ | with_reducible exact lt_asAddr _ | with_reducible exact lt_asInt _ | with_reducible exact lt_intArith _ _ _ _ | with_reducible exact lt_intBits _ _ _ _ | with_reducible exact lt_viewAt _ | with_reducible exact lt_typeInfo _ | with_reducible exact lt_underlying _ | with_reducible exact lt_sizeOf _ | with_reducible exact lt_samePointer _ _ | with_reducible exact lt_frozen _ | with_reducible exact lt_getObj _ | with_reducible exact lt_program | with_reducible exact lt_rtp _ | with_reducible exact lt_gop _ | exact True.intro | assumption | (refine lv_bind ?_ (fun _ => ?_)) | (intro _) | split | dsimp only)
theorem lv_update {op : IntKind → Int → Int → Sem Value} (ho : ∀ k x y, Lv p (fun _ => True) (op k x y)) (k : IntKind) (b : Bool) (args : Array Value) : Lv p (fun _ => True) (Extern.Atomic.update op k b args) := by
  rcases args with ⟨_ | ⟨a, _ | ⟨b, _ | ⟨c, l⟩⟩⟩⟩
  all_goals unfold Extern.Atomic.update
  all_goals try exact lv_stuck _
  all_goals try dsimp only
  repeat' (first | exact lv_read _ _ | exact ho _ _ _ | first | with_reducible exact lv_stuck _ | ((with_reducible refine lv_uns _ (fun g => ?_)) <;> simp) | with_reducible exact lv_load _ _ | with_reducible exact lv_store _ _ _ | with_reducible exact lv_mark _ | with_reducible exact lv_new _ | with_reducible exact lv_shape _ | with_reducible exact lv_pure _ | with_reducible exact lt_asAddr _ | with_reducible exact lt_asInt _ | with_reducible exact lt_intArith _ _ _ _ | with_reducible exact lt_intBits _ _ _ _ | with_reducible exact lt_viewAt _ | with_reducible exact lt_typeInfo _ | with_reducible exact lt_underlying _ | with_reducible exact lt_sizeOf _ | with_reducible exact lt_samePointer _ _ | with_reducible exact lt_frozen _ | with_reducible exact lt_getObj _ | with_reducible exact lt_program | with_reducible exact lt_rtp _ | with_reducible exact lt_gop _ | exact True.intro | assumption | (refine lv_bind ?_ (fun _ => ?_)) | (intro _) | split | dsimp only)
theorem lv_marked (m : Addr → Mark) (args : Array Value) : Lv p (fun _ => True) (Extern.Race.marked m args) := by
  unfold Extern.Race.marked Extern.Race.at_
  repeat' (first | with_reducible exact lv_stuck _ | ((with_reducible refine lv_uns _ (fun g => ?_)) <;> simp) | with_reducible exact lv_load _ _ | with_reducible exact lv_store _ _ _ | with_reducible exact lv_mark _ | with_reducible exact lv_new _ | with_reducible exact lv_shape _ | with_reducible exact lv_pure _ | with_reducible exact lt_asAddr _ | with_reducible exact lt_asInt _ | with_reducible exact lt_intArith _ _ _ _ | with_reducible exact lt_intBits _ _ _ _ | with_reducible exact lt_viewAt _ | with_reducible exact lt_typeInfo _ | with_reducible exact lt_underlying _ | with_reducible exact lt_sizeOf _ | with_reducible exact lt_samePointer _ _ | with_reducible exact lt_frozen _ | with_reducible exact lt_getObj _ | with_reducible exact lt_program | with_reducible exact lt_rtp _ | with_reducible exact lt_gop _ | exact True.intro | assumption | (refine lv_bind ?_ (fun _ => ?_)) | (intro _) | split | dsimp only)
theorem lv_count (args : Array Value) : Lv p (fun _ => True) (Extern.Sync.count args) := by
  unfold Extern.Sync.count
  repeat' (first | with_reducible exact lv_stuck _ | ((with_reducible refine lv_uns _ (fun g => ?_)) <;> simp) | with_reducible exact lv_load _ _ | with_reducible exact lv_store _ _ _ | with_reducible exact lv_mark _ | with_reducible exact lv_new _ | with_reducible exact lv_shape _ | with_reducible exact lv_pure _ | with_reducible exact lt_asAddr _ | with_reducible exact lt_asInt _ | with_reducible exact lt_intArith _ _ _ _ | with_reducible exact lt_intBits _ _ _ _ | with_reducible exact lt_viewAt _ | with_reducible exact lt_typeInfo _ | with_reducible exact lt_underlying _ | with_reducible exact lt_sizeOf _ | with_reducible exact lt_samePointer _ _ | with_reducible exact lt_frozen _ | with_reducible exact lt_getObj _ | with_reducible exact lt_program | with_reducible exact lt_rtp _ | with_reducible exact lt_gop _ | exact True.intro | assumption | (refine lv_bind ?_ (fun _ => ?_)) | (intro _) | split | dsimp only)
theorem lv_semrel (args : Array Value) : Lv p (fun _ => True) (Extern.Sync.semrelease args) := by
  unfold Extern.Sync.semrelease
  repeat' (first | exact lv_count _ | first | with_reducible exact lv_stuck _ | ((with_reducible refine lv_uns _ (fun g => ?_)) <;> simp) | with_reducible exact lv_load _ _ | with_reducible exact lv_store _ _ _ | with_reducible exact lv_mark _ | with_reducible exact lv_new _ | with_reducible exact lv_shape _ | with_reducible exact lv_pure _ | with_reducible exact lt_asAddr _ | with_reducible exact lt_asInt _ | with_reducible exact lt_intArith _ _ _ _ | with_reducible exact lt_intBits _ _ _ _ | with_reducible exact lt_viewAt _ | with_reducible exact lt_typeInfo _ | with_reducible exact lt_underlying _ | with_reducible exact lt_sizeOf _ | with_reducible exact lt_samePointer _ _ | with_reducible exact lt_frozen _ | with_reducible exact lt_getObj _ | with_reducible exact lt_program | with_reducible exact lt_rtp _ | with_reducible exact lt_gop _ | exact True.intro | assumption | (refine lv_bind ?_ (fun _ => ?_)) | (intro _) | split | dsimp only)
theorem lv_semacq (args : Array Value) : Lv p (fun _ => True) (Extern.Sync.semacquire args) := by
  unfold Extern.Sync.semacquire
  repeat' (first | exact lv_count _ | exact (fun g e => by cases e) | first | with_reducible exact lv_stuck _ | ((with_reducible refine lv_uns _ (fun g => ?_)) <;> simp) | with_reducible exact lv_load _ _ | with_reducible exact lv_store _ _ _ | with_reducible exact lv_mark _ | with_reducible exact lv_new _ | with_reducible exact lv_shape _ | with_reducible exact lv_pure _ | with_reducible exact lt_asAddr _ | with_reducible exact lt_asInt _ | with_reducible exact lt_intArith _ _ _ _ | with_reducible exact lt_intBits _ _ _ _ | with_reducible exact lt_viewAt _ | with_reducible exact lt_typeInfo _ | with_reducible exact lt_underlying _ | with_reducible exact lt_sizeOf _ | with_reducible exact lt_samePointer _ _ | with_reducible exact lt_frozen _ | with_reducible exact lt_getObj _ | with_reducible exact lt_program | with_reducible exact lt_rtp _ | with_reducible exact lt_gop _ | exact True.intro | assumption | (refine lv_bind ?_ (fun _ => ?_)) | (intro _) | split | dsimp only)
theorem lv_fatal (args : Array Value) : Lv p (fun _ => True) (Extern.Sync.die .fatal args) := by
  rcases args with ⟨_ | ⟨a, _ | ⟨b, l⟩⟩⟩
  · exact lv_stuck _
  · cases a <;> first | exact lv_stuck _ | skip
    rename_i s
    show Lv p _ (match String.fromUTF8? s with | some m => _ | none => _)
    split
    · exact fun g e => by cases e
    · exact lv_uns _ (by simp)
  · exact lv_stuck _
theorem lv_seenAt (a : Addr) : Lv p (fun _ => True) (Conv.seenAt a) := by
  unfold Conv.seenAt
  repeat' (first | with_reducible exact lv_stuck _ | ((with_reducible refine lv_uns _ (fun g => ?_)) <;> simp) | with_reducible exact lv_load _ _ | with_reducible exact lv_store _ _ _ | with_reducible exact lv_mark _ | with_reducible exact lv_new _ | with_reducible exact lv_shape _ | with_reducible exact lv_pure _ | with_reducible exact lt_asAddr _ | with_reducible exact lt_asInt _ | with_reducible exact lt_intArith _ _ _ _ | with_reducible exact lt_intBits _ _ _ _ | with_reducible exact lt_viewAt _ | with_reducible exact lt_typeInfo _ | with_reducible exact lt_underlying _ | with_reducible exact lt_sizeOf _ | with_reducible exact lt_samePointer _ _ | with_reducible exact lt_frozen _ | with_reducible exact lt_getObj _ | with_reducible exact lt_program | with_reducible exact lt_rtp _ | with_reducible exact lt_gop _ | exact True.intro | assumption | (refine lv_bind ?_ (fun _ => ?_)) | (intro _) | split | dsimp only)
theorem lv_cellsIn (r : Nat) : Lv p (fun _ => True) (cellsIn r) := by
  unfold cellsIn
  repeat' (first | with_reducible exact lv_stuck _ | ((with_reducible refine lv_uns _ (fun g => ?_)) <;> simp) | with_reducible exact lv_load _ _ | with_reducible exact lv_store _ _ _ | with_reducible exact lv_mark _ | with_reducible exact lv_new _ | with_reducible exact lv_shape _ | with_reducible exact lv_pure _ | with_reducible exact lt_asAddr _ | with_reducible exact lt_asInt _ | with_reducible exact lt_intArith _ _ _ _ | with_reducible exact lt_intBits _ _ _ _ | with_reducible exact lt_viewAt _ | with_reducible exact lt_typeInfo _ | with_reducible exact lt_underlying _ | with_reducible exact lt_sizeOf _ | with_reducible exact lt_samePointer _ _ | with_reducible exact lt_frozen _ | with_reducible exact lt_getObj _ | with_reducible exact lt_program | with_reducible exact lt_rtp _ | with_reducible exact lt_gop _ | exact True.intro | assumption | (refine lv_bind ?_ (fun _ => ?_)) | (intro _) | split | dsimp only)
theorem lv_panicI (x : Value) : Lv p (fun _ => True) (Instr.panic x) := by
  unfold Instr.panic Instr.panicnil
  repeat' (first | exact (fun _ => trivial) | first | with_reducible exact lv_stuck _ | ((with_reducible refine lv_uns _ (fun g => ?_)) <;> simp) | with_reducible exact lv_load _ _ | with_reducible exact lv_store _ _ _ | with_reducible exact lv_mark _ | with_reducible exact lv_new _ | with_reducible exact lv_shape _ | with_reducible exact lv_pure _ | with_reducible exact lt_asAddr _ | with_reducible exact lt_asInt _ | with_reducible exact lt_intArith _ _ _ _ | with_reducible exact lt_intBits _ _ _ _ | with_reducible exact lt_viewAt _ | with_reducible exact lt_typeInfo _ | with_reducible exact lt_underlying _ | with_reducible exact lt_sizeOf _ | with_reducible exact lt_samePointer _ _ | with_reducible exact lt_frozen _ | with_reducible exact lt_getObj _ | with_reducible exact lt_program | with_reducible exact lt_rtp _ | with_reducible exact lt_gop _ | exact True.intro | assumption | (refine lv_bind ?_ (fun _ => ?_)) | (intro _) | split | dsimp only)
end
theorem lv_callExt {P : Program} {f : FuncId} {fn : Func} {e : Array Value → Sem Value} (h1 : P.funcs[f]? = some fn) (h2 : (fn.name == "runtime.NumGoroutine") = false) (h3 : fn.body.isNone = true) (h4 : Extern.findNext fn = none) (h5 : Extern.find fn = some e) (h6 : ∀ args, Lv P (fun _ => True) (e args)) (args : Array Value) :
    Lv P (fun n => ∃ v, n = .value v) (callFunc f args) := by
  unfold callFunc
  show Lv P _ (match P.funcs[f]? with | none => _ | some fn => _)
  rw [h1]
  simp only [h2, h3, h4, h5, if_true, Bool.false_eq_true, if_false]
  refine lv_bind (lv_mark _) fun _ => ?_
  exact lv_bind (h6 _) fun _ => ⟨_, rfl⟩
def exL : List Nat := [88, 89, 90, 91, 92, 93, 96, 99, 100, 101, 102, 104, 105, 118, 119, 120, 121, 122]
set_option maxRecDepth 100000 in
theorem ext88 (args : Array Value) : Lv Try.prog (fun n => ∃ v, n = .value v) (callFunc 88 args) := lv_callExt (f := 88) (fn := Try.f88) (e := Extern.Race.marked .releaseMerge) Try.func88 (by kernel_rfl) (by kernel_rfl) (by kernel_rfl) (by kernel_rfl) (lv_marked _) args
set_option maxRecDepth 100000 in
theorem ext89 (args : Array Value) : Lv Try.prog (fun n => ∃ v, n = .value v) (callFunc 89 args) := lv_callExt (f := 89) (fn := Try.f89) (e := fun _ => do mark .disable; pure Extern.Race.none_) Try.func89 (by kernel_rfl) (by kernel_rfl) (by kernel_rfl) (by kernel_rfl) (fun _ => trivial) args
set_option maxRecDepth 100000 in
theorem ext90 (args : Array Value) : Lv Try.prog (fun n => ∃ v, n = .value v) (callFunc 90 args) := lv_callExt (f := 90) (fn := Try.f90) (e := fun _ => do mark .enable; pure Extern.Race.none_) Try.func90 (by kernel_rfl) (by kernel_rfl) (by kernel_rfl) (by kernel_rfl) (fun _ => trivial) args
set_option maxRecDepth 100000 in
theorem ext91 (args : Array Value) : Lv Try.prog (fun n => ∃ v, n = .value v) (callFunc 91 args) := lv_callExt (f := 91) (fn := Try.f91) (e := fun _ => pure (.bool false)) Try.func91 (by kernel_rfl) (by kernel_rfl) (by kernel_rfl) (by kernel_rfl) (fun _ => trivial) args
set_option maxRecDepth 100000 in
theorem ext92 (args : Array Value) : Lv Try.prog (fun n => ∃ v, n = .value v) (callFunc 92 args) := lv_callExt (f := 92) (fn := Try.f92) (e := Extern.Synctest.none_) Try.func92 (by kernel_rfl) (by kernel_rfl) (by kernel_rfl) (by kernel_rfl) (fun _ => lv_uns _ (by simp)) args
set_option maxRecDepth 100000 in
theorem ext93 (args : Array Value) : Lv Try.prog (fun n => ∃ v, n = .value v) (callFunc 93 args) := lv_callExt (f := 93) (fn := Try.f93) (e := Extern.Sync.die .fatal) Try.func93 (by kernel_rfl) (by kernel_rfl) (by kernel_rfl) (by kernel_rfl) (lv_fatal) args
set_option maxRecDepth 100000 in
theorem ext96 (args : Array Value) : Lv Try.prog (fun n => ∃ v, n = .value v) (callFunc 96 args) := lv_callExt (f := 96) (fn := Try.f96) (e := Extern.Race.marked .read) Try.func96 (by kernel_rfl) (by kernel_rfl) (by kernel_rfl) (by kernel_rfl) (lv_marked _) args
set_option maxRecDepth 100000 in
theorem ext99 (args : Array Value) : Lv Try.prog (fun n => ∃ v, n = .value v) (callFunc 99 args) := lv_callExt (f := 99) (fn := Try.f99) (e := Extern.Synctest.none_) Try.func99 (by kernel_rfl) (by kernel_rfl) (by kernel_rfl) (by kernel_rfl) (fun _ => lv_uns _ (by simp)) args
set_option maxRecDepth 100000 in
theorem ext100 (args : Array Value) : Lv Try.prog (fun n => ∃ v, n = .value v) (callFunc 100 args) := lv_callExt (f := 100) (fn := Try.f100) (e := Extern.Sync.semrelease) Try.func100 (by kernel_rfl) (by kernel_rfl) (by kernel_rfl) (by kernel_rfl) (lv_semrel) args
set_option maxRecDepth 100000 in
theorem ext101 (args : Array Value) : Lv Try.prog (fun n => ∃ v, n = .value v) (callFunc 101 args) := lv_callExt (f := 101) (fn := Try.f101) (e := Extern.Race.marked .acquire) Try.func101 (by kernel_rfl) (by kernel_rfl) (by kernel_rfl) (by kernel_rfl) (lv_marked _) args
set_option maxRecDepth 100000 in
theorem ext102 (args : Array Value) : Lv Try.prog (fun n => ∃ v, n = .value v) (callFunc 102 args) := lv_callExt (f := 102) (fn := Try.f102) (e := Extern.Synctest.none_) Try.func102 (by kernel_rfl) (by kernel_rfl) (by kernel_rfl) (by kernel_rfl) (fun _ => lv_uns _ (by simp)) args
set_option maxRecDepth 100000 in
theorem ext104 (args : Array Value) : Lv Try.prog (fun n => ∃ v, n = .value v) (callFunc 104 args) := lv_callExt (f := 104) (fn := Try.f104) (e := Extern.Race.marked .write) Try.func104 (by kernel_rfl) (by kernel_rfl) (by kernel_rfl) (by kernel_rfl) (lv_marked _) args
set_option maxRecDepth 100000 in
theorem ext105 (args : Array Value) : Lv Try.prog (fun n => ∃ v, n = .value v) (callFunc 105 args) := lv_callExt (f := 105) (fn := Try.f105) (e := Extern.Sync.semacquire) Try.func105 (by kernel_rfl) (by kernel_rfl) (by kernel_rfl) (by kernel_rfl) (lv_semacq) args
set_option maxRecDepth 100000 in
theorem ext118 (args : Array Value) : Lv Try.prog (fun n => ∃ v, n = .value v) (callFunc 118 args) := lv_callExt (f := 118) (fn := Try.f118) (e := Extern.Atomic.update (Op.intBits .or) .u64 false) Try.func118 (by kernel_rfl) (by kernel_rfl) (by kernel_rfl) (by kernel_rfl) (lv_update (fun k x y => lt_intBits _ k x y) _ _) args
set_option maxRecDepth 100000 in
theorem ext119 (args : Array Value) : Lv Try.prog (fun n => ∃ v, n = .value v) (callFunc 119 args) := lv_callExt (f := 119) (fn := Try.f119) (e := Extern.Atomic.update (Op.intArith .add) .u64 true) Try.func119 (by kernel_rfl) (by kernel_rfl) (by kernel_rfl) (by kernel_rfl) (lv_update (fun k x y => lt_intArith _ k x y) _ _) args
set_option maxRecDepth 100000 in
theorem ext120 (args : Array Value) : Lv Try.prog (fun n => ∃ v, n = .value v) (callFunc 120 args) := lv_callExt (f := 120) (fn := Try.f120) (e := Extern.Atomic.loadT (.int .u64)) Try.func120 (by kernel_rfl) (by kernel_rfl) (by kernel_rfl) (by kernel_rfl) (lv_loadT _) args
set_option maxRecDepth 100000 in
theorem ext121 (args : Array Value) : Lv Try.prog (fun n => ∃ v, n = .value v) (callFunc 121 args) := lv_callExt (f := 121) (fn := Try.f121) (e := Extern.Atomic.storeT) Try.func121 (by kernel_rfl) (by kernel_rfl) (by kernel_rfl) (by kernel_rfl) (lv_storeT) args
set_option maxRecDepth 100000 in
theorem ext122 (args : Array Value) : Lv Try.prog (fun n => ∃ v, n = .value v) (callFunc 122 args) := lv_callExt (f := 122) (fn := Try.f122) (e := Extern.Atomic.casT (.int .u64)) Try.func122 (by kernel_rfl) (by kernel_rfl) (by kernel_rfl) (by kernel_rfl) (lv_casT _) args
set_option maxRecDepth 100000 in
theorem ext_all {f : Nat} (h : exL.contains f = true) (args : Array Value) : Lv Try.prog (fun n => ∃ v, n = .value v) (callFunc f args) := by
  have h' : f ∈ exL := by simpa using h
  simp only [exL, List.mem_cons, List.not_mem_nil, or_false] at h'
  rcases h' with rfl | rfl | rfl | rfl | rfl | rfl | rfl | rfl | rfl | rfl | rfl | rfl | rfl | rfl | rfl | rfl | rfl | rfl
  · exact ext88 args
  · exact ext89 args
  · exact ext90 args
  · exact ext91 args
  · exact ext92 args
  · exact ext93 args
  · exact ext96 args
  · exact ext99 args
  · exact ext100 args
  · exact ext101 args
  · exact ext102 args
  · exact ext104 args
  · exact ext105 args
  · exact ext118 args
  · exact ext119 args
  · exact ext120 args
  · exact ext121 args
  · exact ext122 args

end Go.Proofs.Ytpdnceeniokemaa.Ct
