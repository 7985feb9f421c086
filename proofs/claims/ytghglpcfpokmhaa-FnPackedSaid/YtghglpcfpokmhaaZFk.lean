/-
  The starter's own functions and the group's: what each operation of theirs may come to.
  The starter's own functions and the group's are of ordinary code.
-/
import Derived.Test.YtghglpcfpokmhaaZFi
set_option linter.unusedVariables false
set_option linter.unusedSimpArgs false
namespace Go.Proofs.Ytghglpcfpokmhaa.Ct
open Go Go.Conc
section
variable {p : Program} {α β : Type}
theorem lv_lf {Q : α → Prop} {s : Sem α} (h : Br.Lf p Q s) : Lv p Q s := by
  induction s with
  | pure a => exact h
  | load m a k ih => exact fun v => ih v (h v)
  | store m a v k ih => exact ih h
  | new o k ih => exact fun v => ih v (h v)
  | shape r k ih => exact fun v => ih v (h v)
  | freeze a n k ih => exact ih h
  | frozen a k ih => exact fun v => ih v (h v)
  | getObj r k ih => exact fun v => ih v (h v)
  | setObj r o k ih => exact h.elim
  | choose q k ih => exact fun v => ih v (h v)
  | sys c k ih => exact h.elim
  | program k ih => exact ih p h
  | mark m k ih => exact ih h.2
  | halt h' => intro g e; subst e; exact absurd (show Br.okHalt _ = true from h) (by simp [Br.okHalt])
theorem lv_ns {s : Sem α} (h : Br.NoSys p s) : Lv p (fun _ => True) s := by
  induction s with
  | pure a => trivial
  | load m a k ih => exact fun v => ih v (h v)
  | store m a v k ih => exact ih h
  | new o k ih => exact fun v => ih v (h v)
  | shape r k ih => exact fun v => ih v (h v)
  | freeze a n k ih => exact ih h
  | frozen a k ih => exact fun v => ih v (h v)
  | getObj r k ih => exact fun v => ih v (h v)
  | setObj r o k ih => exact h.elim
  | choose q k ih => exact fun v => ih v (h v)
  | sys c k ih => exact h.elim
  | program k ih => exact ih p h
  | mark m k ih => exact ih h.2
  | halt h' => intro g e; subst e; exact absurd (show Br.okHalt _ = true from h) (by simp [Br.okHalt])
theorem lv_bind {Q : β → Prop} {s : Sem α} {f : α → Sem β} (h : Lv p (fun _ => True) s) (hf : ∀ a, Lv p Q (f a)) : Lv p Q (s >>= f) := Lv.bind (h.mono fun a _ => hf a)
theorem lv_val {s : Sem Value} {F : FuncId → Prop} (h : Lv p (fun _ => True) s) : Lv p (Cm p F) (do pure (.value (← s)) : Sem Next) := lv_bind h fun _ => trivial
theorem lv_stuck {Q : α → Prop} (s : String) : Lv p Q (stuck s : Sem α) := fun g e => by cases e
theorem lv_uns {Q : α → Prop} (u : Unsupported) (h : ∀ g, u ≠ .initOrder g) : Lv p Q (unsupported u : Sem α) := fun g e => h g (by cases e; rfl)
theorem lv_load (a : Addr) (m : Mode) : Lv p (fun _ => True) (load a m) := fun _ => trivial
theorem lv_store (a : Addr) (v : Value) (m : Mode) : Lv p (fun _ => True) (store a v m) := trivial
theorem lv_mark (m : Mark) : Lv p (fun _ => True) (mark m) := trivial
theorem lv_new (o : Obj) : Lv p (fun _ => True) (newObj o) := fun _ => trivial
theorem lv_shape (r : Nat) : Lv p (fun _ => True) (shape r) := fun _ => trivial
theorem lv_pure (a : α) : Lv p (fun _ => True) (pure a : Sem α) := trivial
theorem lt_asAddr (v : Value) : Lv p (fun _ => True) (asAddr v) := lv_ns (Br.sm_asAddr v).1
theorem lt_asInt (v : Value) : Lv p (fun _ => True) (asInt v) := lv_ns (Br.sm_asInt v).1
theorem lt_intArith (o : BinOp) (k : IntKind) (x y : Int) : Lv p (fun _ => True) (Op.intArith o k x y) := lv_ns (Br.sm_intArith o k x y).1
theorem lt_intBits (o : BinOp) (k : IntKind) (x y : Int) : Lv p (fun _ => True) (Op.intBits o k x y) := lv_ns (Br.sm_intBits o k x y).1
theorem lt_viewAt (r : Nat) : Lv p (fun _ => True) (viewAt r) := lv_ns (Br.sm_viewAt r).1
theorem lt_typeInfo (t : TypeId) : Lv p (fun _ => True) (typeInfo t) := lv_ns (Br.sm_typeInfo t).1
theorem lt_underlying (t : TypeId) : Lv p (fun _ => True) (underlying t) := lv_ns (Br.sm_underlying t).1
theorem lt_sizeOf (t : TypeId) : Lv p (fun _ => True) (Go.sizeOf t) := lv_ns (Br.sm_sizeOf t).1
theorem lt_samePointer (a b : Option Addr) : Lv p (fun _ => True) (samePointer a b) := lv_ns (Br.sm_samePointer a b).1
theorem lt_frozen (a : Addr) : Lv p (fun _ => True) (frozen a) := lv_ns (Br.sm_frozen a).1
theorem lt_getObj (r : Nat) : Lv p (fun _ => True) (getObj r) := lv_ns (Br.sm_getObj r).1
theorem lt_program : Lv p (fun _ => True) program := lv_ns Br.sm_program.1
theorem lt_rtp (e : RuntimeError) : Lv p (fun _ => True) (runtimePanic e : Sem α) := lv_ns (Br.sm_runtimePanic e).1
theorem lt_gop (v : Value) : Lv p (fun _ => True) (goPanic v : Sem α) := lv_ns (Br.sm_goPanic v).1
theorem lv_any {γ : Type} (l : List γ) (f : γ → Sem Bool) (h : ∀ x, Lv p (fun _ => True) (f x)) : Lv p (fun _ => True) (l.anyM f) := by
  induction l with
  | nil => trivial
  | cons x l ih =>
    show Lv p _ ((f x) >>= fun b => _)
    refine lv_bind (h x) fun b => ?_
    cases b
    · exact ih
    · trivial
end
section
variable {p : Program}
theorem lv_read (t : Extern.Atomic.T) (a : Addr) : Lv p (fun _ => True) (Extern.Atomic.read t a) := by
  unfold Extern.Atomic.read
  repeat' (first | with_reducible exact lv_stuck _ | ((with_reducible refine lv_uns _ (fun g => ?_)) <;> simp) | with_reducible exact lv_load _ _ | with_reducible exact lv_store _ _ _ | with_reducible exact lv_mark _ | with_reducible exact lv_new _ | with_reducible exact lv_shape _ | with_reducible exact lv_pure _ | with_reducible exact lt_asAddr _ | with_reducible exact lt_asInt _ | with_reducible exact lt_intArith _ _ _ _ | with_reducible exact lt_intBits _ _ _ _ | with_reducible exact lt_viewAt _ | with_reducible exact lt_typeInfo _ | with_reducible exact lt_underlying _ | with_reducible exact lt_sizeOf _ | with_reducible exact lt_samePointer _ _ | with_reducible exact lt_frozen _ | with_reducible exact lt_getObj _ | with_reducible exact lt_program | with_reducible exact lt_rtp _ | with_reducible exact lt_gop _ | exact True.intro | assumption | (refine lv_bind ?_ (fun _ => ?_)) | (intro _) | split | dsimp only)
theorem lv_touches (a : Addr) : Lv p (fun _ => True) (Extern.Atomic.touchesFrozen a) := by
  unfold Extern.Atomic.touchesFrozen
  repeat' (first | exact lv_any _ _ (fun _ _ => trivial) | first | with_reducible exact lv_stuck _ | ((with_reducible refine lv_uns _ (fun g => ?_)) <;> simp) | with_reducible exact lv_load _ _ | with_reducible exact lv_store _ _ _ | with_reducible exact lv_mark _ | with_reducible exact lv_new _ | with_reducible exact lv_shape _ | with_reducible exact lv_pure _ | with_reducible exact lt_asAddr _ | with_reducible exact lt_asInt _ | with_reducible exact lt_intArith _ _ _ _ | with_reducible exact lt_intBits _ _ _ _ | with_reducible exact lt_viewAt _ | with_reducible exact lt_typeInfo _ | with_reducible exact lt_underlying _ | with_reducible exact lt_sizeOf _ | with_reducible exact lt_samePointer _ _ | with_reducible exact lt_frozen _ | with_reducible exact lt_getObj _ | with_reducible exact lt_program | with_reducible exact lt_rtp _ | with_reducible exact lt_gop _ | exact True.intro | assumption | (refine lv_bind ?_ (fun _ => ?_)) | (intro _) | split | dsimp only)
theorem lv_loadT (t : Extern.Atomic.T) (args : Array Value) : Lv p (fun _ => True) (Extern.Atomic.loadT t args) := by
  rcases args with ⟨_ | ⟨a, _ | ⟨b, _ | ⟨c, _ | ⟨d, l⟩⟩⟩⟩⟩
  all_goals unfold Extern.Atomic.loadT
  all_goals try exact lv_stuck _
  all_goals try dsimp only
  repeat' (first | exact lv_read _ _ | first | with_reducible exact lv_stuck _ | ((with_reducible refine lv_uns _ (fun g => ?_)) <;> simp) | with_reducible exact lv_load _ _ | with_reducible exact lv_store _ _ _ | with_reducible exact lv_mark _ | with_reducible exact lv_new _ | with_reducible exact lv_shape _ | with_reducible exact lv_pure _ | with_reducible exact lt_asAddr _ | with_reducible exact lt_asInt _ | with_reducible exact lt_intArith _ _ _ _ | with_reducible exact lt_intBits _ _ _ _ | with_reducible exact lt_viewAt _ | with_reducible exact lt_typeInfo _ | with_reducible exact lt_underlying _ | with_reducible exact lt_sizeOf _ | with_reducible exact lt_samePointer _ _ | with_reducible exact lt_frozen _ | with_reducible exact lt_getObj _ | with_reducible exact lt_program | with_reducible exact lt_rtp _ | with_reducible exact lt_gop _ | exact True.intro | assumption | (refine lv_bind ?_ (fun _ => ?_)) | (intro _) | split | dsimp only)
theorem lv_storeT (args : Array Value) : Lv p (fun _ => True) (Extern.Atomic.storeT args) := by
  rcases args with ⟨_ | ⟨a, _ | ⟨b, _ | ⟨c, _ | ⟨d, l⟩⟩⟩⟩⟩
  all_goals unfold Extern.Atomic.storeT
  all_goals try exact lv_stuck _
  all_goals try dsimp only
  repeat' (first | with_reducible exact lv_stuck _ | ((with_reducible refine lv_uns _ (fun g => ?_)) <;> simp) | with_reducible exact lv_load _ _ | with_reducible exact lv_store _ _ _ | with_reducible exact lv_mark _ | with_reducible exact lv_new _ | with_reducible exact lv_shape _ | with_reducible exact lv_pure _ | with_reducible exact lt_asAddr _ | with_reducible exact lt_asInt _ | with_reducible exact lt_intArith _ _ _ _ | with_reducible exact lt_intBits _ _ _ _ | with_reducible exact lt_viewAt _ | with_reducible exact lt_typeInfo _ | with_reducible exact lt_underlying _ | with_reducible exact lt_sizeOf _ | with_reducible exact lt_samePointer _ _ | with_reducible exact lt_frozen _ | with_reducible exact lt_getObj _ | with_reducible exact lt_program | with_reducible exact lt_rtp _ | with_reducible exact lt_gop _ | exact True.intro | assumption | (refine lv_bind ?_ (fun _ => ?_)) | (intro _) | split | dsimp only)
theorem lv_casT (t : Extern.Atomic.T) (args : Array Value) : Lv p (fun _ => True) (Extern.Atomic.casT t args) := by
  rcases args with ⟨_ | ⟨a, _ | ⟨b, _ | ⟨c, _ | ⟨d, l⟩⟩⟩⟩⟩
  all_goals unfold Extern.Atomic.casT
  all_goals try exact lv_stuck _
  all_goals try dsimp only
  repeat' (first | exact lv_read _ _ | exact lv_touches _ | first | with_reducible exact lv_stuck _ | ((with_reducible refine lv_uns _ (fun g => ?_)) <;> simp) | with_reducible exact lv_load _ _ | with_reducible exact lv_store _ _ _ | with_reducible exact lv_mark _ | with_reducible exact lv_new _ | with_reducible exact lv_shape _ | with_reducible exact lv_pure _ | with_reducible exact lt_asAddr _ | with_reducible exact lt_asInt _ | with_reducible exact lt_intArith _ _ _ _ | with_reducible exact lt_intBits _ _ _ _ | with_reducible exact lt_viewAt _ | with_reducible exact lt_typeInfo _ | with_reducible exact lt_underlying _ | with_reducible exact lt_sizeOf _ | with_reducible exact lt_samePointer _ _ | with_reducible exact lt_frozen _ | with_reducible exact lt_getObj _ | with_reducible exact lt_program | with_reducible exact lt_rtp _ | with_reducible exact lt_gop _ | exact True.intro | assumption | (refine lv_bind ?_ (fun _ => ?_)) | (intro _) | split | dsimp only)
theorem lv_update {op : IntKind → Int → Int → Sem Value} (ho : ∀ k x y, Lv p (fun _ => True) (op k x y)) (k : IntKind) (b : Bool) (args : Array Value) : Lv p (fun _ => True) (Extern.Atomic.update op k b args) := by
  rcases args with ⟨_ | ⟨a, _ | ⟨b, _ | ⟨c, l⟩⟩⟩⟩
  all_goals unfold Extern.Atomic.update
  all_goals try exact lv_stuck _
  all_goals try dsimp only
  repeat' (first | exact lv_read _ _ | exact ho _ _ _ | first | with_reducible exact lv_stuck _ | ((with_reducible refine lv_uns _ (fun g => ?_)) <;> simp) | with_reducible exact lv_load _ _ | with_reducible exact lv_store _ _ _ | with_reducible exact lv_mark _ | with_reducible exact lv_new _ | with_reducible exact lv_shape _ | with_reducible exact lv_pure _ | with_reducible exact lt_asAddr _ | with_reducible exact lt_asInt _ | with_reducible exact lt_intArith _ _ _ _ | with_reducible exact lt_intBits _ _ _ _ | with_reducible exact lt_viewAt _ | with_reducible exact lt_typeInfo _ | with_reducible exact lt_underlying _ | with_reducible exact lt_sizeOf _ | with_reducible exact lt_samePointer _ _ | with_reducible exact lt_frozen _ | with_reducible exact lt_getObj _ | with_reducible exact lt_program | with_reducible exact lt_rtp _ | with_reducible exact lt_gop _ | exact True.intro | assumption | (refine lv_bind ?_ (fun _ => ?_)) | (intro _) | split | dsimp only)
theorem lv_marked (m : Addr → Mark) (args : Array Value) : Lv p (fun _ => True) (Extern.Race.marked m args) := by
  unfold Extern.Race.marked Extern.Race.at_
  repeat' (first | with_reducible exact lv_stuck _ | ((with_reducible refine lv_uns _ (fun g => ?_)) <;> simp) | with_reducible exact lv_load _ _ | with_reducible exact lv_store _ _ _ | with_reducible exact lv_mark _ | with_reducible exact lv_new _ | with_reducible exact lv_shape _ | with_reducible exact lv_pure _ | with_reducible exact lt_asAddr _ | with_reducible exact lt_asInt _ | with_reducible exact lt_intArith _ _ _ _ | with_reducible exact lt_intBits _ _ _ _ | with_reducible exact lt_viewAt _ | with_reducible exact lt_typeInfo _ | with_reducible exact lt_underlying _ | with_reducible exact lt_sizeOf _ | with_reducible exact lt_samePointer _ _ | with_reducible exact lt_frozen _ | with_reducible exact lt_getObj _ | with_reducible exact lt_program | with_reducible exact lt_rtp _ | with_reducible exact lt_gop _ | exact True.intro | assumption | (refine lv_bind ?_ (fun _ => ?_)) | (intro _) | split | dsimp only)
theorem lv_count (args : Array Value) : Lv p (fun _ => True) (Extern.Sync.count args) := by
  unfold Extern.Sync.count
  repeat' (first | with_reducible exact lv_stuck _ | ((with_reducible refine lv_uns _ (fun g => ?_)) <;> simp) | with_reducible exact lv_load _ _ | with_reducible exact lv_store _ _ _ | with_reducible exact lv_mark _ | with_reducible exact lv_new _ | with_reducible exact lv_shape _ | with_reducible exact lv_pure _ | with_reducible exact lt_asAddr _ | with_reducible exact lt_asInt _ | with_reducible exact lt_intArith _ _ _ _ | with_reducible exact lt_intBits _ _ _ _ | with_reducible exact lt_viewAt _ | with_reducible exact lt_typeInfo _ | with_reducible exact lt_underlying _ | with_reducible exact lt_sizeOf _ | with_reducible exact lt_samePointer _ _ | with_reducible exact lt_frozen _ | with_reducible exact lt_getObj _ | with_reducible exact lt_program | with_reducible exact lt_rtp _ | with_reducible exact lt_gop _ | exact True.intro | assumption | (refine lv_bind ?_ (fun _ => ?_)) | (intro _) | split | dsimp only)
theorem lv_semrel (args : Array Value) : Lv p (fun _ => True) (Extern.Sync.semrelease args) := by
  unfold Extern.Sync.semrelease
  repeat' (first | exact lv_count _ | first | with_reducible exact lv_stuck _ | ((with_reducible refine lv_uns _ (fun g => ?_)) <;> simp) | with_reducible exact lv_load _ _ | with_reducible exact lv_store _ _ _ | with_reducible exact lv_mark _ | with_reducible exact lv_new _ | with_reducible exact lv_shape _ | with_reducible exact lv_pure _ | with_reducible exact lt_asAddr _ | with_reducible exact lt_asInt _ | with_reducible exact lt_intArith _ _ _ _ | with_reducible exact lt_intBits _ _ _ _ | with_reducible exact lt_viewAt _ | with_reducible exact lt_typeInfo _ | with_reducible exact lt_underlying _ | with_reducible exact lt_sizeOf _ | with_reducible exact lt_samePointer _ _ | with_reducible exact lt_frozen _ | with_reducible exact lt_getObj _ | with_reducible exact lt_program | with_reducible exact lt_rtp _ | with_reducible exact lt_gop _ | exact True.intro | assumption | (refine lv_bind ?_ (fun _ => ?_)) | (intro _) | split | dsimp only)
theorem lv_semacq (args : Array Value) : Lv p (fun _ => True) (Extern.Sync.semacquire args) := by
  unfold Extern.Sync.semacquire
  repeat' (first | exact lv_count _ | exact (fun g e => by cases e) | first | with_reducible exact lv_stuck _ | ((with_reducible refine lv_uns _ (fun g => ?_)) <;> simp) | with_reducible exact lv_load _ _ | with_reducible exact lv_store _ _ _ | with_reducible exact lv_mark _ | with_reducible exact lv_new _ | with_reducible exact lv_shape _ | with_reducible exact lv_pure _ | with_reducible exact lt_asAddr _ | with_reducible exact lt_asInt _ | with_reducible exact lt_intArith _ _ _ _ | with_reducible exact lt_intBits _ _ _ _ | with_reducible exact lt_viewAt _ | with_reducible exact lt_typeInfo _ | with_reducible exact lt_underlying _ | with_reducible exact lt_sizeOf _ | with_reducible exact lt_samePointer _ _ | with_reducible exact lt_frozen _ | with_reducible exact lt_getObj _ | with_reducible exact lt_program | with_reducible exact lt_rtp _ | with_reducible exact lt_gop _ | exact True.intro | assumption | (refine lv_bind ?_ (fun _ => ?_)) | (intro _) | split | dsimp only)
theorem lv_fatal (args : Array Value) : Lv p (fun _ => True) (Extern.Sync.die .fatal args) := by
  rcases args with ⟨_ | ⟨a, _ | ⟨b, l⟩⟩⟩
  · exact lv_stuck _
  · cases a <;> first | exact lv_stuck _ | skip
    rename_i s
    show Lv p _ (match String.fromUTF8? s with | some m => _ | none => _)
    split
    · exact fun g e => by cases e
    · exact lv_uns _ (by simp)
  · exact lv_stuck _
theorem lv_seenAt (a : Addr) : Lv p (fun _ => True) (Conv.seenAt a) := by
  unfold Conv.seenAt
  repeat' (first | with_reducible exact lv_stuck _ | ((with_reducible refine lv_uns _ (fun g => ?_)) <;> simp) | with_reducible exact lv_load _ _ | with_reducible exact lv_store _ _ _ | with_reducible exact lv_mark _ | with_reducible exact lv_new _ | with_reducible exact lv_shape _ | with_reducible exact lv_pure _ | with_reducible exact lt_asAddr _ | with_reducible exact lt_asInt _ | with_reducible exact lt_intArith _ _ _ _ | with_reducible exact lt_intBits _ _ _ _ | with_reducible exact lt_viewAt _ | with_reducible exact lt_typeInfo _ | with_reducible exact lt_underlying _ | with_reducible exact lt_sizeOf _ | with_reducible exact lt_samePointer _ _ | with_reducible exact lt_frozen _ | with_reducible exact lt_getObj _ | with_reducible exact lt_program | with_reducible exact lt_rtp _ | with_reducible exact lt_gop _ | exact True.intro | assumption | (refine lv_bind ?_ (fun _ => ?_)) | (intro _) | split | dsimp only)
theorem lv_cellsIn (r : Nat) : Lv p (fun _ => True) (cellsIn r) := by
  unfold cellsIn
  repeat' (first | with_reducible exact lv_stuck _ | ((with_reducible refine lv_uns _ (fun g => ?_)) <;> simp) | with_reducible exact lv_load _ _ | with_reducible exact lv_store _ _ _ | with_reducible exact lv_mark _ | with_reducible exact lv_new _ | with_reducible exact lv_shape _ | with_reducible exact lv_pure _ | with_reducible exact lt_asAddr _ | with_reducible exact lt_asInt _ | with_reducible exact lt_intArith _ _ _ _ | with_reducible exact lt_intBits _ _ _ _ | with_reducible exact lt_viewAt _ | with_reducible exact lt_typeInfo _ | with_reducible exact lt_underlying _ | with_reducible exact lt_sizeOf _ | with_reducible exact lt_samePointer _ _ | with_reducible exact lt_frozen _ | with_reducible exact lt_getObj _ | with_reducible exact lt_program | with_reducible exact lt_rtp _ | with_reducible exact lt_gop _ | exact True.intro | assumption | (refine lv_bind ?_ (fun _ => ?_)) | (intro _) | split | dsimp only)
theorem lv_panicI (x : Value) : Lv p (fun _ => True) (Instr.panic x) := by
  unfold Instr.panic Instr.panicnil
  repeat' (first | exact (fun _ => trivial) | first | with_reducible exact lv_stuck _ | ((with_reducible refine lv_uns _ (fun g => ?_)) <;> simp) | with_reducible exact lv_load _ _ | with_reducible exact lv_store _ _ _ | with_reducible exact lv_mark _ | with_reducible exact lv_new _ | with_reducible exact lv_shape _ | with_reducible exact lv_pure _ | with_reducible exact lt_asAddr _ | with_reducible exact lt_asInt _ | with_reducible exact lt_intArith _ _ _ _ | with_reducible exact lt_intBits _ _ _ _ | with_reducible exact lt_viewAt _ | with_reducible exact lt_typeInfo _ | with_reducible exact lt_underlying _ | with_reducible exact lt_sizeOf _ | with_reducible exact lt_samePointer _ _ | with_reducible exact lt_frozen _ | with_reducible exact lt_getObj _ | with_reducible exact lt_program | with_reducible exact lt_rtp _ | with_reducible exact lt_gop _ | exact True.intro | assumption | (refine lv_bind ?_ (fun _ => ?_)) | (intro _) | split | dsimp only)
end
theorem lv_callExt {P : Program} {f : FuncId} {fn : Func} {e : Array Value → Sem Value} (h1 : P.funcs[f]? = some fn) (h2 : (fn.name == "runtime.NumGoroutine") = false) (h3 : fn.body.isNone = true) (h4 : Extern.findNext fn = none) (h5 : Extern.find fn = some e) (h6 : ∀ args, Lv P (fun _ => True) (e args)) (args : Array Value) :
    Lv P (fun n => ∃ v, n = .value v) (callFunc f args) := by
  unfold callFunc
  show Lv P _ (match P.funcs[f]? with | none => _ | some fn => _)
  rw [h1]
  simp only [h2, h3, h4, h5, if_true, Bool.false_eq_true, if_false]
  refine lv_bind (lv_mark _) fun _ => ?_
  exact lv_bind (h6 _) fun _ => ⟨_, rfl⟩
def exL : List Nat := [41, 42, 43, 44, 45, 46, 49, 52, 53, 54, 55, 57, 58, 72, 73, 74, 75, 76]
set_option maxRecDepth 100000 in
theorem ext88 (args : Array Value) : Lv Try.prog (fun n => ∃ v, n = .value v) (callFunc 41 args) := lv_callExt (f := 41) (fn := Try.f41) (e := Extern.Race.marked .releaseMerge) Try.func41 (by kernel_rfl) (by kernel_rfl) (by kernel_rfl) (by kernel_rfl) (lv_marked _) args
set_option maxRecDepth 100000 in
theorem ext89 (args : Array Value) : Lv Try.prog (fun n => ∃ v, n = .value v) (callFunc 42 args) := lv_callExt (f := 42) (fn := Try.f42) (e := fun _ => do mark .disable; pure Extern.Race.none_) Try.func42 (by kernel_rfl) (by kernel_rfl) (by kernel_rfl) (by kernel_rfl) (fun _ => trivial) args
set_option maxRecDepth 100000 in
theorem ext90 (args : Array Value) : Lv Try.prog (fun n => ∃ v, n = .value v) (callFunc 43 args) := lv_callExt (f := 43) (fn := Try.f43) (e := fun _ => do mark .enable; pure Extern.Race.none_) Try.func43 (by kernel_rfl) (by kernel_rfl) (by kernel_rfl) (by kernel_rfl) (fun _ => trivial) args
set_option maxRecDepth 100000 in
theorem ext91 (args : Array Value) : Lv Try.prog (fun n => ∃ v, n = .value v) (callFunc 44 args) := lv_callExt (f := 44) (fn := Try.f44) (e := fun _ => pure (.bool false)) Try.func44 (by kernel_rfl) (by kernel_rfl) (by kernel_rfl) (by kernel_rfl) (fun _ => trivial) args
set_option maxRecDepth 100000 in
theorem ext92 (args : Array Value) : Lv Try.prog (fun n => ∃ v, n = .value v) (callFunc 45 args) := lv_callExt (f := 45) (fn := Try.f45) (e := Extern.Synctest.none_) Try.func45 (by kernel_rfl) (by kernel_rfl) (by kernel_rfl) (by kernel_rfl) (fun _ => lv_uns _ (by simp)) args
set_option maxRecDepth 100000 in
theorem ext93 (args : Array Value) : Lv Try.prog (fun n => ∃ v, n = .value v) (callFunc 46 args) := lv_callExt (f := 46) (fn := Try.f46) (e := Extern.Sync.die .fatal) Try.func46 (by kernel_rfl) (by kernel_rfl) (by kernel_rfl) (by kernel_rfl) (lv_fatal) args
set_option maxRecDepth 100000 in
theorem ext96 (args : Array Value) : Lv Try.prog (fun n => ∃ v, n = .value v) (callFunc 49 args) := lv_callExt (f := 49) (fn := Try.f49) (e := Extern.Race.marked .read) Try.func49 (by kernel_rfl) (by kernel_rfl) (by kernel_rfl) (by kernel_rfl) (lv_marked _) args
set_option maxRecDepth 100000 in
theorem ext99 (args : Array Value) : Lv Try.prog (fun n => ∃ v, n = .value v) (callFunc 52 args) := lv_callExt (f := 52) (fn := Try.f52) (e := Extern.Synctest.none_) Try.func52 (by kernel_rfl) (by kernel_rfl) (by kernel_rfl) (by kernel_rfl) (fun _ => lv_uns _ (by simp)) args
set_option maxRecDepth 100000 in
theorem ext100 (args : Array Value) : Lv Try.prog (fun n => ∃ v, n = .value v) (callFunc 53 args) := lv_callExt (f := 53) (fn := Try.f53) (e := Extern.Sync.semrelease) Try.func53 (by kernel_rfl) (by kernel_rfl) (by kernel_rfl) (by kernel_rfl) (lv_semrel) args
set_option maxRecDepth 100000 in
theorem ext101 (args : Array Value) : Lv Try.prog (fun n => ∃ v, n = .value v) (callFunc 54 args) := lv_callExt (f := 54) (fn := Try.f54) (e := Extern.Race.marked .acquire) Try.func54 (by kernel_rfl) (by kernel_rfl) (by kernel_rfl) (by kernel_rfl) (lv_marked _) args
set_option maxRecDepth 100000 in
theorem ext102 (args : Array Value) : Lv Try.prog (fun n => ∃ v, n = .value v) (callFunc 55 args) := lv_callExt (f := 55) (fn := Try.f55) (e := Extern.Synctest.none_) Try.func55 (by kernel_rfl) (by kernel_rfl) (by kernel_rfl) (by kernel_rfl) (fun _ => lv_uns _ (by simp)) args
set_option maxRecDepth 100000 in
theorem ext104 (args : Array Value) : Lv Try.prog (fun n => ∃ v, n = .value v) (callFunc 57 args) := lv_callExt (f := 57) (fn := Try.f57) (e := Extern.Race.marked .write) Try.func57 (by kernel_rfl) (by kernel_rfl) (by kernel_rfl) (by kernel_rfl) (lv_marked _) args
set_option maxRecDepth 100000 in
theorem ext105 (args : Array Value) : Lv Try.prog (fun n => ∃ v, n = .value v) (callFunc 58 args) := lv_callExt (f := 58) (fn := Try.f58) (e := Extern.Sync.semacquire) Try.func58 (by kernel_rfl) (by kernel_rfl) (by kernel_rfl) (by kernel_rfl) (lv_semacq) args
set_option maxRecDepth 100000 in
theorem ext118 (args : Array Value) : Lv Try.prog (fun n => ∃ v, n = .value v) (callFunc 72 args) := lv_callExt (f := 72) (fn := Try.f72) (e := Extern.Atomic.update (Op.intBits .or) .u64 false) Try.func72 (by kernel_rfl) (by kernel_rfl) (by kernel_rfl) (by kernel_rfl) (lv_update (fun k x y => lt_intBits _ k x y) _ _) args
set_option maxRecDepth 100000 in
theorem ext119 (args : Array Value) : Lv Try.prog (fun n => ∃ v, n = .value v) (callFunc 73 args) := lv_callExt (f := 73) (fn := Try.f73) (e := Extern.Atomic.update (Op.intArith .add) .u64 true) Try.func73 (by kernel_rfl) (by kernel_rfl) (by kernel_rfl) (by kernel_rfl) (lv_update (fun k x y => lt_intArith _ k x y) _ _) args
set_option maxRecDepth 100000 in
theorem ext120 (args : Array Value) : Lv Try.prog (fun n => ∃ v, n = .value v) (callFunc 74 args) := lv_callExt (f := 74) (fn := Try.f74) (e := Extern.Atomic.loadT (.int .u64)) Try.func74 (by kernel_rfl) (by kernel_rfl) (by kernel_rfl) (by kernel_rfl) (lv_loadT _) args
set_option maxRecDepth 100000 in
theorem ext121 (args : Array Value) : Lv Try.prog (fun n => ∃ v, n = .value v) (callFunc 75 args) := lv_callExt (f := 75) (fn := Try.f75) (e := Extern.Atomic.storeT) Try.func75 (by kernel_rfl) (by kernel_rfl) (by kernel_rfl) (by kernel_rfl) (lv_storeT) args
set_option maxRecDepth 100000 in
theorem ext122 (args : Array Value) : Lv Try.prog (fun n => ∃ v, n = .value v) (callFunc 76 args) := lv_callExt (f := 76) (fn := Try.f76) (e := Extern.Atomic.casT (.int .u64)) Try.func76 (by kernel_rfl) (by kernel_rfl) (by kernel_rfl) (by kernel_rfl) (lv_casT _) args
set_option maxRecDepth 100000 in
theorem ext_all {f : Nat} (h : exL.contains f = true) (args : Array Value) : Lv Try.prog (fun n => ∃ v, n = .value v) (callFunc f args) := by
  have h' : f ∈ exL := by simpa using h
  simp only [exL, List.mem_cons, List.not_mem_nil, or_false] at h'
  rcases h' with rfl | rfl | rfl | rfl | rfl | rfl | rfl | rfl | rfl | rfl | rfl | rfl | rfl | rfl | rfl | rfl | rfl | rfl
  · exact ext88 args
  · exact ext89 args
  · exact ext90 args
  · exact ext91 args
  · exact ext92 args
  · exact ext93 args
  · exact ext96 args
  · exact ext99 args
  · exact ext100 args
  · exact ext101 args
  · exact ext102 args
  · exact ext104 args
  · exact ext105 args
  · exact ext118 args
  · exact ext119 args
  · exact ext120 args
  · exact ext121 args
  · exact ext122 args

end Go.Proofs.Ytghglpcfpokmhaa.Ct

set_option linter.unusedVariables false
set_option linter.unusedSimpArgs false
namespace Go.Proofs.Ytghglpcfpokmhaa.Ct
open Go Go.Conc
theorem lv_und {P : Program} (t : TypeId) : Lv P (fun u => P.underlying t = some u) (underlying t) := by
  unfold underlying
  show Lv P _ (match P.underlying t with | some d => pure d | none => stuck "no such type")
  cases P.underlying t with
  | none => exact lv_stuck _
  | some d => exact rfl
theorem lv_conv {P : Program} {s d u : TypeId} (hs : P.underlying s = some (.pointer u)) (hd : P.underlying d = some .unsafePointer) (x : Value) : Lv P (fun _ => True) (convert s d x) := by
  unfold convert
  refine Lv.bind ((lv_und s).mono fun a ha => ?_)
  rw [hs] at ha
  cases ha
  refine Lv.bind ((lv_und d).mono fun a ha => ?_)
  rw [hd] at ha
  cases ha
  show Lv P _ (Conv.unsafePointer s d x)
  unfold Conv.unsafePointer
  refine Lv.bind ((lv_und s).mono fun a ha => ?_)
  rw [hs] at ha
  cases ha
  refine Lv.bind ((lv_und d).mono fun a ha => ?_)
  rw [hd] at ha
  cases ha
  repeat' (first | contradiction | exact lv_seenAt _ | exact lv_cellsIn _ | with_reducible exact lv_stuck _ | with_reducible exact lv_new _ | with_reducible exact lt_sizeOf _ | exact True.intro | (refine lv_bind ?_ (fun _ => ?_)) | split | dsimp only)

def FS : FuncId → Bool := fun f => [17, 30, 34, 47, 48, 50, 51, 56].contains f
def FP (f : FuncId) : Prop := FS f = true
def Zs : Br.Sig := ⟨FS, fun _ => [], 20⟩
theorem bodS : Br.Bodied Try.prog FS := by
  intro f hf
  have h' : f ∈ [17, 30, 34, 47, 48, 50, 51, 56] := by simpa [FS] using hf
  simp only [List.mem_cons, List.not_mem_nil, or_false] at h'
  rcases h' with rfl | rfl | rfl | rfl | rfl | rfl | rfl | rfl
  · exact ⟨Try.f17, Try.f17.body.getD .skip, Try.func17, by kernel_rfl, rfl⟩
  · exact ⟨Try.f30, Try.f30.body.getD .skip, Try.func30, by kernel_rfl, rfl⟩
  · exact ⟨Try.f34, Try.f34.body.getD .skip, Try.func34, by kernel_rfl, rfl⟩
  · exact ⟨Try.f47, Try.f47.body.getD .skip, Try.func47, by kernel_rfl, rfl⟩
  · exact ⟨Try.f48, Try.f48.body.getD .skip, Try.func48, by kernel_rfl, rfl⟩
  · exact ⟨Try.f50, Try.f50.body.getD .skip, Try.func50, by kernel_rfl, rfl⟩
  · exact ⟨Try.f51, Try.f51.body.getD .skip, Try.func51, by kernel_rfl, rfl⟩
  · exact ⟨Try.f56, Try.f56.body.getD .skip, Try.func56, by kernel_rfl, rfl⟩
noncomputable def okS (o : Oper) : Bool := Br.okOp Zs Try.prog [] o || match o.op with
  | .panic _ => true
  | .makeFunc .. => true
  | .go c => (match c.callee with | .value _ => true | _ => false)
  | .defer c => (match c.callee with | .value (.func f) => exL.contains f | _ => false)
  | .convert s d _ => (s == 77 || s == 85) && d == 79
  | .call c => (match c.callee with | .value (.func f) => exL.contains f | _ => false)
  | _ => false
set_option maxRecDepth 100000 in
theorem okS_ok {o : Oper} (h : okS o = true) : OkO Try.prog FP o := by
  intro fr
  unfold okS at h
  rw [Bool.or_eq_true] at h
  rcases h with h | h
  · have := (Br.op_execOp (p := Try.prog) (G := Zs) bodS (K := []) (ρ := fr.eval) (fun f => rfl) (fun t ht => by cases ht) h).1
    refine (lv_lf this).mono fun n hn => ?_
    cases n <;> first | trivial | exact hn.1 | exact hn.elim
  · obtain ⟨dst, op, ty, pos, aft, gd⟩ := o
    simp only at h
    unfold execOp
    cases op <;> simp only at h ⊢ <;> try (first | exact absurd h Bool.false_ne_true | (exact h.elim))
    case panic x => exact lv_val (lv_panicI _)
    case makeFunc => exact lv_val (lv_pure _)
    case convert s d x =>
      simp only [Bool.and_eq_true, Bool.or_eq_true, beq_iff_eq] at h
      obtain ⟨h1 | h1, rfl⟩ := h
      · subst h1; exact lv_val (lv_conv Try.underlying77 Try.underlying79 _)
      · subst h1; exact lv_val (lv_conv Try.underlying85 Try.underlying79 _)
    case go c =>
      refine lv_bind (s := resolve fr.eval c ty) ?_ fun _ => trivial
      unfold resolve Deferred.ofValue
      split
      · exact True.intro
      · exact True.intro
      · split <;> first | exact True.intro | exact lv_stuck _
    case defer c =>
      obtain ⟨cal, ars, ats⟩ := c
      cases cal <;> simp only at h <;> try (first | exact absurd h Bool.false_ne_true | cases h)
      rename_i f
      cases f <;> simp only at h <;> try (first | exact absurd h Bool.false_ne_true | cases h)
      rename_i f
      refine ⟨fun r e => (by cases e), ?_⟩
      refine Lv.mono (fun n hn => ?_) (ext_all h _)
      obtain ⟨v, rfl⟩ := hn
      trivial
    case call c =>
      obtain ⟨cal, ars, ats⟩ := c
      cases cal <;> simp only at h <;> try (first | exact absurd h Bool.false_ne_true | cases h)
      rename_i f
      cases f <;> simp only at h <;> try (first | exact absurd h Bool.false_ne_true | cases h)
      rename_i f
      refine Lv.mono (fun n hn => ?_) (ext_all h _)
      obtain ⟨v, rfl⟩ := hn
      trivial
noncomputable def cOk : Code → Bool
  | .skip | .label _ | .exit _ | .goto _ | .ret | .refuse _ => true
  | .region _ ops _ => ops.toList.all okS
  | .seq a b => cOk a && cOk b
  | .cond _ a b => cOk a && cOk b
  | .block _ b => cOk b
  | .loop b => cOk b
  | .scope b => cOk b
  | .rangeFunc .. => false
theorem ops_ok {ops : Array Oper} (h : ops.toList.all okS = true) : ∀ o ∈ ops, OkO Try.prog FP o := fun o ho => okS_ok (List.all_eq_true.1 h o (Array.mem_toList_iff.2 ho))
theorem cOk_ok : ∀ {c : Code}, cOk c = true → okC Try.prog FP c
  | .skip, _ | .label _, _ | .exit _, _ | .goto _, _ | .ret, _ | .refuse _, _ => trivial
  | .region _ ops _, h => ops_ok h
  | .seq a b, h => by simp only [cOk, Bool.and_eq_true] at h; exact ⟨cOk_ok h.1, cOk_ok h.2⟩
  | .cond _ a b, h => by simp only [cOk, Bool.and_eq_true] at h; exact ⟨cOk_ok h.1, cOk_ok h.2⟩
  | .block _ b, h => cOk_ok (c := b) h
  | .loop b, h => cOk_ok (c := b) h
  | .scope b, h => cOk_ok (c := b) h
set_option maxRecDepth 100000 in
theorem setS : SetOk Try.prog FP := by
  have h' : ∀ f, FP f → f ∈ [17, 30, 34, 47, 48, 50, 51, 56] := fun f hf => by simpa [FP, FS] using hf
  refine ⟨fun f hf => ?_, fun f hf => ?_⟩
  · have := h' f hf
    simp only [List.mem_cons, List.not_mem_nil, or_false] at this
    rcases this with rfl | rfl | rfl | rfl | rfl | rfl | rfl | rfl
    · exact ⟨Try.f17, Try.f17.body.getD .skip, Try.func17, rfl, cOk_ok (by kernel_rfl)⟩
    · exact ⟨Try.f30, Try.f30.body.getD .skip, Try.func30, rfl, cOk_ok (by kernel_rfl)⟩
    · exact ⟨Try.f34, Try.f34.body.getD .skip, Try.func34, rfl, cOk_ok (by kernel_rfl)⟩
    · exact ⟨Try.f47, Try.f47.body.getD .skip, Try.func47, rfl, cOk_ok (by kernel_rfl)⟩
    · exact ⟨Try.f48, Try.f48.body.getD .skip, Try.func48, rfl, cOk_ok (by kernel_rfl)⟩
    · exact ⟨Try.f50, Try.f50.body.getD .skip, Try.func50, rfl, cOk_ok (by kernel_rfl)⟩
    · exact ⟨Try.f51, Try.f51.body.getD .skip, Try.func51, rfl, cOk_ok (by kernel_rfl)⟩
    · exact ⟨Try.f56, Try.f56.body.getD .skip, Try.func56, rfl, cOk_ok (by kernel_rfl)⟩
  · have := h' f hf
    simp only [List.mem_cons, List.not_mem_nil, or_false] at this
    rcases this with rfl | rfl | rfl | rfl | rfl | rfl | rfl | rfl
    · have h : Try.prog.inits.idxOf? 17 = none := by kernel_rfl
      exact h
    · have h : Try.prog.inits.idxOf? 30 = none := by kernel_rfl
      exact h
    · have h : Try.prog.inits.idxOf? 34 = none := by kernel_rfl
      exact h
    · have h : Try.prog.inits.idxOf? 47 = none := by kernel_rfl
      exact h
    · have h : Try.prog.inits.idxOf? 48 = none := by kernel_rfl
      exact h
    · have h : Try.prog.inits.idxOf? 50 = none := by kernel_rfl
      exact h
    · have h : Try.prog.inits.idxOf? 51 = none := by kernel_rfl
      exact h
    · have h : Try.prog.inits.idxOf? 56 = none := by kernel_rfl
      exact h
theorem lateS : Late Try.prog := ⟨late_of (by decide +kernel), by kernel_rfl⟩
end Go.Proofs.Ytghglpcfpokmhaa.Ct
