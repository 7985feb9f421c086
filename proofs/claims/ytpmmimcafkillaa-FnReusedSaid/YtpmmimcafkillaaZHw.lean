/-
  Which functions of the model run alike where blocks are emptied (2). It names no program; no conditions.
-/
import Derived.Test.YtpmmimcafkillaaZHv
set_option linter.unusedVariables false
set_option linter.unusedSimpArgs false
namespace Go.Proofs.Ytpmmimcafkillaa.Br
open Go Go.Conc
variable {p : Program}

theorem sm_forIn_list {α β : Type} : ∀ (l : List α) (b : β) (f : α → β → Sem (ForInStep β)), (∀ a b, Sm p (f a b)) → Sm p (forIn l b f)
  | [], b, f, h => by rw [List.forIn_nil]; exact sm_pure _
  | a :: l, b, f, h => by
    rw [List.forIn_cons]
    refine sm_bind (h a b) fun r => ?_
    split
    · exact sm_pure _
    · exact sm_forIn_list l _ f h
theorem sm_forIn_array {α β : Type} (l : Array α) (b : β) (f : α → β → Sem (ForInStep β)) (h : ∀ a b, Sm p (f a b)) : Sm p (forIn l b f) := by
  rw [← Array.forIn_toList]
  exact sm_forIn_list _ _ _ h
theorem sm_forIn_range {β : Type} (r : Std.Legacy.Range) (b : β) (f : Nat → β → Sem (ForInStep β)) (h : ∀ a b, Sm p (f a b)) : Sm p (forIn r b f) := by
  rw [Std.Legacy.Range.forIn_eq_forIn_range']
  exact sm_forIn_list _ _ _ h
theorem sm_mapM_list {α β : Type} (f : α → Sem β) (h : ∀ a, Sm p (f a)) : ∀ (l : List α), Sm p (l.mapM f)
  | [] => by rw [List.mapM_nil]; exact sm_pure _
  | a :: l => by
    rw [List.mapM_cons]
    exact sm_bind (h a) fun _ => sm_bind (sm_mapM_list f h l) fun _ => sm_pure _
theorem sm_foldlM_list {α β : Type} (f : β → α → Sem β) (h : ∀ b a, Sm p (f b a)) : ∀ (l : List α) (b : β), Sm p (l.foldlM f b)
  | [], b => by rw [List.foldlM_nil]; exact sm_pure _
  | a :: l, b => by
    rw [List.foldlM_cons]
    exact sm_bind (h b a) fun _ => sm_foldlM_list f h l _

theorem sm_viewAt (r : Nat) : Sm p (viewAt r) := by
  unfold viewAt
  refine sm_shapeC r _ (fun s => ?_) (fun e n => rfl)
  (repeat' (first | with_reducible exact sm_pure _ | ((with_reducible refine sm_unsupported _ ?_) <;> rfl) | with_reducible (first | exact sm_getObj _ | assumption) | (refine sm_bind ?_ (fun _ => ?_)) | (intro _) | split | dsimp only))
theorem sm_numberAt (r : Nat) : Sm p (numberAt r) := by
  unfold numberAt
  refine sm_shapeC r _ (fun s => ?_) (fun e n => rfl)
  (repeat' (first | with_reducible exact sm_pure _ | ((with_reducible refine sm_unsupported _ ?_) <;> rfl) | with_reducible (first | exact sm_getObj _ | assumption) | (refine sm_bind ?_ (fun _ => ?_)) | (intro _) | split | dsimp only))
theorem sm_asNumber (a : Addr) (b : Bool) : Sm p (asNumber a b) := by unfold asNumber; (repeat' (first | with_reducible exact sm_pure _ | ((with_reducible refine sm_unsupported _ ?_) <;> rfl) | with_reducible (first | exact sm_newObj _ | assumption) | (refine sm_bind ?_ (fun _ => ?_)) | (intro _) | split | dsimp only))
theorem sm_behindNumber (a : Addr) : Sm p (behindNumber a) := by unfold behindNumber; (repeat' (first | with_reducible exact sm_pure _ | ((with_reducible refine sm_unsupported _ ?_) <;> rfl) | with_reducible (first | exact sm_numberAt _ | assumption) | (refine sm_bind ?_ (fun _ => ?_)) | (intro _) | split | dsimp only))
theorem sm_noView (a : Addr) : Sm p (noView a) := by unfold noView; (repeat' (first | with_reducible exact sm_pure _ | ((with_reducible refine sm_unsupported _ ?_) <;> rfl) | with_reducible (first | exact sm_viewAt _ | assumption) | (refine sm_bind ?_ (fun _ => ?_)) | (intro _) | split | dsimp only))
theorem sm_markStringish (a : Addr) : Sm p (markStringish a) := by
  unfold markStringish
  refine sm_shapeK a.block _ (fun s => ?_) (fun S w W es e n h hr => ?_)
  · (repeat' (first | with_reducible exact sm_pure _ | ((with_reducible refine sm_unsupported _ ?_) <;> rfl) | with_reducible (first | exact sm_freeze _ _ | assumption) | (intro _) | split | dsimp only))
  · refine .inl ⟨a.block, hr, ?_, fun hp => ((back_freeze hp).2 (by omega)) rfl⟩
    rw [freeze_size]; exact h.lt hr
theorem frozen_hid {S : Nat → Prop} {w W : World} (h : Hid S w W) {b : Nat} (hb : S b) (n : Nat) (x : Option Nat) : w.frozen? ⟨b, n, x⟩ = false ∧ W.frozen? ⟨b, n, x⟩ = false := by
  obtain ⟨c, e, h1, h2⟩ := h.inn _ hb
  unfold World.frozen?
  rw [h1, h2]
  simp
theorem sm_stringish (a : Addr) : Sm p (stringish a) := by
  unfold stringish
  refine sm_bind (sm_frozen _) fun b => ?_
  cases b with
  | true => exact sm_pure _
  | false =>
    refine sm_shapeK a.block _ (fun s => ?_) (fun S w W es e n h hr => ?_)
    · (repeat' (first | with_reducible exact sm_pure _ | ((with_reducible refine sm_unsupported _ ?_) <;> rfl) | with_reducible (first | exact sm_frozen _ | assumption) | (refine sm_bind ?_ (fun _ => ?_)) | (intro _) | split | dsimp only))
    · obtain ⟨h1, _⟩ := frozen_hid h hr 0 none
      obtain ⟨_, h2⟩ := frozen_hid h hr n none
      show Rs S (Sem.runT p (.frozen { block := a.block, off := 0 } .pure) w es) (Sem.runT p (.frozen { block := a.block, off := n } .pure) W es)
      simp only [Sem.runT, h1, h2]
      exact .inr ⟨W, rfl, h⟩
def Str (w : World) (a : Addr) : Bool := w.frozen? a || (match w.shape? a.block with | some (_, n) => w.frozen? { block := a.block, off := n } | none => false)
theorem run_stringish (a : Addr) (w : World) (es : Array Event) : (stringish a).runT p w es = (.ok (Str w a) w, es) := by
  unfold stringish Str
  show Sem.runT p (.frozen a fun b => _) w es = _
  simp only [Sem.runT]
  cases h : w.frozen? a with
  | true => rfl
  | false =>
    show Sem.runT p (.shape a.block fun s => _) w es = _
    simp only [Sem.runT]
    cases hs : w.shape? a.block with
    | none => rfl
    | some x => rfl
def Nn (w : World) (a : Addr) : Bool := w.shape? a.block matches some (_, 0)
theorem run_mayBeOne (a b : Addr) (w : World) (es : Array Event) : (mayBeOne a b).runT p w es = (.ok ((Str w a && Str w b) || (Str w a && Nn w a) || (Str w b && Nn w b)) w, es) := by
  unfold mayBeOne
  dsimp only
  show Sem.runT p (Sem.bind (stringish a) fun sa => Sem.bind (stringish b) fun sb => _) w es = _
  rw [Sem.runT_bind', run_stringish]
  dsimp only
  rw [Sem.runT_bind', run_stringish]
  rfl
theorem str_hid {S : Nat → Prop} {w W : World} (h : Hid S w W) (a : Addr) : Str W a = Str w a ∧ (S a.block → Str w a = false) := by
  by_cases ha : S a.block
  · obtain ⟨e, n, h1, h2⟩ := h.shapes ha
    obtain ⟨g1, _⟩ := frozen_hid h ha 0 none
    obtain ⟨_, g2⟩ := frozen_hid h ha n none
    obtain ⟨g3, g4⟩ := frozen_hid h ha a.off a.spot
    have e1 : w.frozen? a = false := g3
    have e2 : W.frozen? a = false := g4
    unfold Str
    simp [h1, h2, g1, g2, e1, e2]
  · refine ⟨?_, fun x => absurd x ha⟩
    unfold Str
    rw [h.shape ha, h.frozen]
    cases w.shape? a.block with
    | none => rfl
    | some x => simp only [h.frozen]
theorem sm_mayBeOne (a b : Addr) : Sm p (mayBeOne a b) := by
  refine ⟨?_, fun S w W es h => ?_⟩
  · unfold mayBeOne
    exact NoSys.bind (sm_stringish a).1 fun _ => NoSys.bind (sm_stringish b).1 fun _ => NoSys.bind (NoSys.bind (fun _ => trivial) fun _ => trivial) fun _ => NoSys.bind (NoSys.bind (fun _ => trivial) fun _ => trivial) fun _ => trivial
  · rw [run_mayBeOne, run_mayBeOne]
    obtain ⟨a1, a2⟩ := str_hid h a
    obtain ⟨b1, b2⟩ := str_hid h b
    have hn : ∀ x, ¬ S x.block → Nn W x = Nn w x := fun x hx => by unfold Nn; rw [h.shape hx]
    have e : ((Str W a && Str W b) || (Str W a && Nn W a) || (Str W b && Nn W b)) = ((Str w a && Str w b) || (Str w a && Nn w a) || (Str w b && Nn w b)) := by
      rw [a1, b1]
      by_cases ha : S a.block
      · rw [a2 ha]
        by_cases hb : S b.block
        · rw [b2 hb]; simp
        · rw [hn b hb]; simp
      · rw [hn a ha]
        by_cases hb : S b.block
        · rw [b2 hb]; simp
        · rw [hn b hb]
    rw [e]
    exact .inr ⟨W, rfl, h⟩
theorem sm_sameAddr (a b : Addr) : Sm p (sameAddr a b) := by unfold sameAddr; (repeat' (first | with_reducible exact sm_pure _ | ((with_reducible refine sm_unsupported _ ?_) <;> rfl) | with_reducible (first | exact sm_mayBeOne _ _ | exact sm_noView _ | exact sm_frozen _ | exact sm_choose _ | assumption) | (refine sm_bind ?_ (fun _ => ?_)) | (intro _) | split | dsimp only))
theorem sm_samePointer (a b : Option Addr) : Sm p (samePointer a b) := by unfold samePointer; (repeat' (first | with_reducible exact sm_pure _ | ((with_reducible refine sm_unsupported _ ?_) <;> rfl) | with_reducible (first | exact sm_sameAddr _ _ | assumption) | (intro _) | split | dsimp only))
theorem sm_typeStr (t : TypeId) : Sm p (typeStr t) := by unfold typeStr; (repeat' (first | with_reducible exact sm_pure _ | ((with_reducible refine sm_unsupported _ ?_) <;> rfl) | with_reducible (first | exact sm_typeInfo _ | assumption) | (refine sm_bind ?_ (fun _ => ?_)) | (intro _) | split | dsimp only))
theorem sm_byteOf (a : Addr) : Sm p (byteOf a) := by
  unfold byteOf
  split
  · exact sm_pure _
  · refine sm_bind sm_program fun q => sm_bind (sm_noView _) fun _ => sm_shapeC a.block _ (fun s => ?_) (fun e n => rfl)
    (repeat' (first | with_reducible exact sm_pure _ | ((with_reducible refine sm_unsupported _ ?_) <;> rfl) | with_reducible (first | exact sm_noView _ | exact sm_program | exact sm_stuck _ | assumption) | (refine sm_bind ?_ (fun _ => ?_)) | (intro _) | split | dsimp only))
theorem sm_partAt (a : Addr) (c b : Nat) : Sm p (partAt a c b) := by unfold partAt; (repeat' (first | with_reducible exact sm_pure _ | ((with_reducible refine sm_unsupported _ ?_) <;> rfl) | with_reducible (first | exact sm_byteOf _ | assumption) | (refine sm_bind ?_ (fun _ => ?_)) | (intro _) | split | dsimp only))
theorem sm_fieldPlace (a : Addr) (f : Field) : Sm p (fieldPlace a f) := by unfold fieldPlace; (repeat' (first | with_reducible exact sm_pure _ | ((with_reducible refine sm_unsupported _ ?_) <;> rfl) | with_reducible (first | exact sm_partAt _ _ _ | exact sm_sizeOf _ | assumption) | (refine sm_bind ?_ (fun _ => ?_)) | (intro _) | split | dsimp only))
theorem sm_fieldAt (t : TypeId) (x : Value) (f : Nat) : Sm p (Instr.fieldAt t x f) := by unfold Instr.fieldAt; (repeat' (first | with_reducible exact sm_pure _ | ((with_reducible refine sm_unsupported _ ?_) <;> rfl) | with_reducible (first | exact sm_fieldPlace _ _ | exact sm_sureAddr _ | exact sm_underlying _ | exact sm_stuck _ | assumption) | (refine sm_bind ?_ (fun _ => ?_)) | (intro _) | split | dsimp only))
theorem sm_waits (g : Nat) : Sm p (Instr.waits g) := by
  unfold Instr.waits
  exact sm_shapeC g _ (fun s => sm_pure _) (fun e n => rfl)
theorem sm_makeChan (t : TypeId) (s : Value) : Sm p (Instr.makeChan t s) := by unfold Instr.makeChan; (repeat' (first | with_reducible exact sm_pure _ | ((with_reducible refine sm_unsupported _ ?_) <;> rfl) | with_reducible (first | exact sm_asInt _ | exact sm_runtimePanic _ | exact sm_typeInfo _ | exact sm_underlying _ | exact sm_newObj _ | exact sm_stuck _ | assumption) | (refine sm_bind ?_ (fun _ => ?_)) | (intro _) | split | dsimp only))
theorem sm_makeInterface (t : TypeId) (s : Value) : Sm p (Instr.makeInterface t s) := by unfold Instr.makeInterface; (repeat' (first | with_reducible exact sm_pure _ | ((with_reducible refine sm_unsupported _ ?_) <;> rfl) | with_reducible (first | exact sm_underlying _ | exact sm_stuck _ | assumption) | (refine sm_bind ?_ (fun _ => ?_)) | (intro _) | split | dsimp only))
theorem sm_buildSlice (t : TypeId) (n : Nat) (ps : Array (Nat × Value)) : Sm p (Instr.buildSlice t n ps) := by unfold Instr.buildSlice; (repeat' (first | with_reducible exact sm_pure _ | ((with_reducible refine sm_unsupported _ ?_) <;> rfl) | with_reducible (first | exact sm_newRow _ _ | exact sm_zeroValue _ | exact sm_sizeOf _ | exact sm_underlying _ | exact sm_stuck _ | assumption) | (refine sm_bind ?_ (fun _ => ?_)) | (intro _) | split | dsimp only))

theorem cab_zero (d : Nat) (e : TypeId) (off : Nat) (n : Int) : cellAtBytes p d e 0 off n = none := by
  unfold cellAtBytes
  (repeat' (first | rfl | split)) <;> simp_all <;> omega
theorem sm_unsafeAdd (a : Array TypeId) (t : TypeId) (args : Array Value) : Sm p (Builtin.unsafeAdd_ a t args) := by
  obtain ⟨l⟩ := args
  unfold Builtin.unsafeAdd_
  rcases l with _ | ⟨x, _ | ⟨y, _ | ⟨z, l⟩⟩⟩
  · exact sm_stuck _
  · cases x <;> exact sm_stuck _
  · cases x with
    | pointer q =>
      have key : ∀ (a : Addr) (m : Int), Sm p (do
          let some (e, cells) ← Go.shape a.block | unsupported (.unsafePointer "Add")
          let p ← program
          match cellAtBytes p p.depth e (cells / p.cellsOf e) a.off m with
          | some off => pure (.pointer (some { a with off }))
          | none => unsupported (.unsafePointer "Add") : Sem Value) := fun a m => by
        refine sm_shapeK a.block _ (fun s => ?_) (fun S w W es e n h hr => ?_)
        · (repeat' (first | with_reducible exact sm_pure _ | ((with_reducible refine sm_unsupported _ ?_) <;> rfl) | with_reducible (first | exact sm_viewAt _ | exact sm_asInt _ | exact sm_program | exact sm_stuck _ | assumption) | (refine sm_bind ?_ (fun _ => ?_)) | (intro _) | split | dsimp only))
        · have : (Sem.runT p (do
            let p ← program
            match cellAtBytes p p.depth e (0 / p.cellsOf e) a.off m with
            | some off => pure (.pointer (some { a with off }))
            | none => unsupported (.unsafePointer "Add") : Sem Value) w es) = (.halt (.unsupported (.unsafePointer "Add")) w, es) := by
            show Sem.runT p (match cellAtBytes p p.depth e (0 / p.cellsOf e) a.off m with | some off => _ | none => _) w es = _
            rw [Nat.zero_div, cab_zero]
            rfl
          refine Eq.mpr (congrArg (fun x => Rs S x _) this) ?_
          exact .inl fun v e => by cases e
      refine sm_bind (s := asInt y) (sm_asInt _) (fun m => ?_)
      dsimp only
      have key2 := fun a => key a m
      (repeat' (first | with_reducible exact sm_pure _ | ((with_reducible refine sm_unsupported _ ?_) <;> rfl) | exact key2 _ | with_reducible (first | exact sm_viewAt _ | exact sm_asInt _ | exact sm_program | exact sm_stuck _ | assumption) | (refine sm_bind ?_ (fun _ => ?_)) | (intro _) | split | dsimp only))
    | _ => exact sm_stuck _
  · cases x <;> exact sm_stuck _
theorem sm_movedNumber (t : TypeId) (x y : Value) : Sm p (movedNumber t x y) := by unfold movedNumber; (repeat' (first | with_reducible exact sm_pure _ | ((with_reducible refine sm_unsupported _ ?_) <;> rfl) | with_reducible (first | exact sm_unsafeAdd _ _ _ | exact sm_asNumber _ _ | exact sm_behindNumber _ | exact sm_underlying _ | assumption) | (refine sm_bind ?_ (fun _ => ?_)) | (intro _) | split | dsimp only))
theorem sm_movedPointer (t : TypeId) (x y : Value) : Sm p (movedPointer t x y) := by unfold movedPointer; (repeat' (first | with_reducible exact sm_pure _ | ((with_reducible refine sm_unsupported _ ?_) <;> rfl) | with_reducible (first | exact sm_unsafeAdd _ _ _ | exact sm_numberAt _ | assumption) | (refine sm_bind ?_ (fun _ => ?_)) | (intro _) | split | dsimp only))
theorem sm_twoPlaces (a b : Addr) : Sm p (Op.twoPlaces a b) := by unfold Op.twoPlaces; (repeat' (first | with_reducible exact sm_pure _ | ((with_reducible refine sm_unsupported _ ?_) <;> rfl) | with_reducible (first | exact sm_byteOf _ | exact sm_program | assumption) | (refine sm_bind ?_ (fun _ => ?_)) | (intro _) | split | dsimp only))
theorem sm_addrSub (k : IntKind) (a b : Addr) : Sm p (Op.addrSub k a b) := by unfold Op.addrSub; (repeat' (first | with_reducible exact sm_pure _ | ((with_reducible refine sm_unsupported _ ?_) <;> rfl) | with_reducible (first | exact sm_twoPlaces _ _ | assumption) | (refine sm_bind ?_ (fun _ => ?_)) | (intro _) | split | dsimp only))
theorem sm_addrCmp (k : BinOp) (a b : Addr) : Sm p (Op.addrCmp k a b) := by unfold Op.addrCmp; (repeat' (first | with_reducible exact sm_pure _ | ((with_reducible refine sm_unsupported _ ?_) <;> rfl) | with_reducible (first | exact sm_twoPlaces _ _ | assumption) | (refine sm_bind ?_ (fun _ => ?_)) | (intro _) | split | dsimp only))
theorem sm_addrMod (k : IntKind) (a : Addr) (n : Int) : Sm p (Op.addrMod k a n) := by
  unfold Op.addrMod
  refine sm_shapeC a.block _ (fun s => ?_) (fun e n => rfl)
  (repeat' (first | with_reducible exact sm_pure _ | ((with_reducible refine sm_unsupported _ ?_) <;> rfl) | with_reducible (first | exact sm_byteOf _ | exact sm_typeInfo _ | assumption) | (refine sm_bind ?_ (fun _ => ?_)) | (intro _) | split | dsimp only))

theorem sm_floatToFloat (s : FloatKind) (b : Nat) (d : FloatKind) : Sm p (Conv.floatToFloat s b d) := by unfold Conv.floatToFloat; (repeat' (first | with_reducible exact sm_pure _ | ((with_reducible refine sm_unsupported _ ?_) <;> rfl) | with_reducible (first | exact sm_choose _ | assumption) | (refine sm_bind ?_ (fun _ => ?_)) | (intro _) | split | dsimp only))
theorem sm_floatToInt (s : FloatKind) (b : Nat) (d : IntKind) : Sm p (Conv.floatToInt s b d) := by unfold Conv.floatToInt; (repeat' (first | with_reducible exact sm_pure _ | ((with_reducible refine sm_unsupported _ ?_) <;> rfl) | with_reducible (first | exact sm_choose _ | assumption) | (refine sm_bind ?_ (fun _ => ?_)) | (intro _) | split | dsimp only))
theorem sm_intToInt (d : IntKind) (n : Int) : Sm p (Conv.intToInt d n) := sm_pure _
theorem sm_intToFloat (d : FloatKind) (n : Int) : Sm p (Conv.intToFloat d n) := sm_pure _
theorem sm_intToString (n : Int) : Sm p (Conv.intToString n) := sm_pure _
theorem sm_complexToComplex (s : FloatKind) (a b : Nat) (d : FloatKind) : Sm p (Conv.complexToComplex s a b d) := by unfold Conv.complexToComplex; (repeat' (first | with_reducible exact sm_pure _ | ((with_reducible refine sm_unsupported _ ?_) <;> rfl) | with_reducible (first | exact sm_floatToFloat _ _ _ | exact sm_stuck _ | assumption) | (refine sm_bind ?_ (fun _ => ?_)) | (intro _) | split | dsimp only))
theorem sm_stringToBytes (t : TypeId) (s : ByteArray) : Sm p (Conv.stringToBytes t s) := by unfold Conv.stringToBytes; (repeat' (first | with_reducible exact sm_pure _ | ((with_reducible refine sm_unsupported _ ?_) <;> rfl) | with_reducible (first | exact sm_markStringish _ | exact sm_newRow _ _ | exact sm_choose _ | assumption) | (refine sm_bind ?_ (fun _ => ?_)) | (intro _) | split | dsimp only))
theorem sm_stringToRunes (t : TypeId) (s : ByteArray) : Sm p (Conv.stringToRunes t s) := by unfold Conv.stringToRunes; (repeat' (first | with_reducible exact sm_pure _ | ((with_reducible refine sm_unsupported _ ?_) <;> rfl) | with_reducible (first | exact sm_newRow _ _ | exact sm_choose _ | assumption) | (refine sm_bind ?_ (fun _ => ?_)) | (intro _) | split | dsimp only))
theorem sm_bytesToString (x : Value) : Sm p (Conv.bytesToString x) := by unfold Conv.bytesToString; (repeat' (first | with_reducible exact sm_pure _ | ((with_reducible refine sm_unsupported _ ?_) <;> rfl) | with_reducible (first | (refine sm_forIn_array _ _ _ (fun _ _ => ?_)) | exact sm_loadCells _ _ | exact sm_stuck _ | assumption) | (refine sm_bind ?_ (fun _ => ?_)) | (intro _) | split | dsimp only))
theorem sm_runesToString (x : Value) : Sm p (Conv.runesToString x) := by unfold Conv.runesToString; (repeat' (first | with_reducible exact sm_pure _ | ((with_reducible refine sm_unsupported _ ?_) <;> rfl) | with_reducible (first | (refine sm_forIn_array _ _ _ (fun _ _ => ?_)) | exact sm_loadCells _ _ | exact sm_stuck _ | assumption) | (refine sm_bind ?_ (fun _ => ?_)) | (intro _) | split | dsimp only))

theorem sm_equalIn : ∀ (d : Nat) (t : TypeId) (x y : Value), Sm p (Op.equalIn d t x y)
  | 0, _, _, _ => by unfold Op.equalIn; (repeat' (first | with_reducible exact sm_pure _ | ((with_reducible refine sm_unsupported _ ?_) <;> rfl) | with_reducible (first | exact sm_floatToFloat _ _ _ | exact sm_floatToInt _ _ _ | exact sm_intToInt _ _ | exact sm_intToFloat _ _ | exact sm_intToString _ | exact sm_addrSub _ _ _ | exact sm_addrCmp _ _ _ | exact sm_addrMod _ _ _ | exact sm_movedNumber _ _ _ | exact sm_movedPointer _ _ _ | exact sm_twoPlaces _ _ | exact sm_unsafeAdd _ _ _ | exact sm_fieldPlace _ _ | exact sm_partAt _ _ _ | exact sm_samePointer _ _ | exact sm_typeStr _ | exact sm_byteOf _ | exact sm_sameAddr _ _ | exact sm_mayBeOne _ _ | exact sm_asNumber _ _ | exact sm_behindNumber _ | exact sm_noView _ | exact sm_markStringish _ | exact sm_stringish _ | exact sm_viewAt _ | exact sm_numberAt _ | (refine sm_forIn_array _ _ _ (fun _ _ => ?_)) | (refine sm_forIn_range _ _ _ (fun _ _ => ?_)) | (refine sm_foldlM_list _ (fun _ _ => ?_) _ _) | exact sm_intArith _ _ _ _ | exact sm_intDiv _ _ _ _ | exact sm_intBits _ _ _ _ | exact sm_shift _ _ _ _ _ | exact sm_intCmp _ _ _ | exact sm_floatArith _ _ _ _ | exact sm_floatCmp _ _ _ _ | exact sm_stringOp _ _ _ | exact sm_slice _ _ _ _ _ | exact sm_sliceBounds _ _ _ _ _ _ | exact sm_sliceBound _ _ _ | exact sm_alloc _ _ _ | exact sm_box _ _ | exact sm_makeSlice _ _ _ | exact sm_asInt _ | exact sm_asBool _ | exact sm_asString _ | exact sm_asAgg _ | exact sm_asAddr _ | exact sm_sureAddr _ | exact sm_boundsPanic _ _ _ _ | exact sm_asIntOf _ | exact sm_runtimePanic _ | exact sm_newVar _ _ | exact sm_elemOf _ | exact sm_part _ _ _ | exact sm_loadVar _ _ | exact sm_storeVar _ _ _ | exact sm_newRow _ _ | exact sm_loadCells _ _ | exact sm_storeCells _ _ _ | exact sm_zeroValue _ | exact sm_sizeOf _ | exact sm_isAgg _ | exact sm_askRoom _ | exact sm_typeInfo _ | exact sm_underlying _ | exact sm_load _ _ | exact sm_store _ _ _ | exact sm_newObj _ | exact sm_freeze _ _ | exact sm_frozen _ | exact sm_getObj _ | exact sm_choose _ | exact sm_program | exact sm_mark | exact sm_stuck _ | exact sm_goPanic _ | assumption) | (with_reducible refine sm_map _ ?_) | (refine sm_bind ?_ (fun _ => ?_)) | (intro _) | split | dsimp only))
  | d + 1, t, x, y => by
    have ih := sm_equalIn d
    unfold Op.equalIn
    repeat' (first | with_reducible exact sm_pure _ | ((with_reducible refine sm_unsupported _ ?_) <;> rfl) | with_reducible exact ih _ _ _ | with_reducible (first | exact sm_floatToFloat _ _ _ | exact sm_floatToInt _ _ _ | exact sm_intToInt _ _ | exact sm_intToFloat _ _ | exact sm_intToString _ | exact sm_addrSub _ _ _ | exact sm_addrCmp _ _ _ | exact sm_addrMod _ _ _ | exact sm_movedNumber _ _ _ | exact sm_movedPointer _ _ _ | exact sm_twoPlaces _ _ | exact sm_unsafeAdd _ _ _ | exact sm_fieldPlace _ _ | exact sm_partAt _ _ _ | exact sm_samePointer _ _ | exact sm_typeStr _ | exact sm_byteOf _ | exact sm_sameAddr _ _ | exact sm_mayBeOne _ _ | exact sm_asNumber _ _ | exact sm_behindNumber _ | exact sm_noView _ | exact sm_markStringish _ | exact sm_stringish _ | exact sm_viewAt _ | exact sm_numberAt _ | (refine sm_forIn_array _ _ _ (fun _ _ => ?_)) | (refine sm_forIn_range _ _ _ (fun _ _ => ?_)) | (refine sm_foldlM_list _ (fun _ _ => ?_) _ _) | exact sm_intArith _ _ _ _ | exact sm_intDiv _ _ _ _ | exact sm_intBits _ _ _ _ | exact sm_shift _ _ _ _ _ | exact sm_intCmp _ _ _ | exact sm_floatArith _ _ _ _ | exact sm_floatCmp _ _ _ _ | exact sm_stringOp _ _ _ | exact sm_slice _ _ _ _ _ | exact sm_sliceBounds _ _ _ _ _ _ | exact sm_sliceBound _ _ _ | exact sm_alloc _ _ _ | exact sm_box _ _ | exact sm_makeSlice _ _ _ | exact sm_asInt _ | exact sm_asBool _ | exact sm_asString _ | exact sm_asAgg _ | exact sm_asAddr _ | exact sm_sureAddr _ | exact sm_boundsPanic _ _ _ _ | exact sm_asIntOf _ | exact sm_runtimePanic _ | exact sm_newVar _ _ | exact sm_elemOf _ | exact sm_part _ _ _ | exact sm_loadVar _ _ | exact sm_storeVar _ _ _ | exact sm_newRow _ _ | exact sm_loadCells _ _ | exact sm_storeCells _ _ _ | exact sm_zeroValue _ | exact sm_sizeOf _ | exact sm_isAgg _ | exact sm_askRoom _ | exact sm_typeInfo _ | exact sm_underlying _ | exact sm_load _ _ | exact sm_store _ _ _ | exact sm_newObj _ | exact sm_freeze _ _ | exact sm_frozen _ | exact sm_getObj _ | exact sm_choose _ | exact sm_program | exact sm_mark | exact sm_stuck _ | exact sm_goPanic _ | assumption) | (with_reducible refine sm_map _ ?_) | (refine sm_bind ?_ (fun _ => ?_)) | (intro _) | split | dsimp only)
theorem sm_eqGuardIn : ∀ (d : Nat) (t : TypeId) (x y : Value), Sm p (Op.eqGuardIn d t x y)
  | 0, _, _, _ => by unfold Op.eqGuardIn; (repeat' (first | with_reducible exact sm_pure _ | ((with_reducible refine sm_unsupported _ ?_) <;> rfl) | with_reducible (first | exact sm_equalIn _ _ _ _ | exact sm_floatToFloat _ _ _ | exact sm_floatToInt _ _ _ | exact sm_intToInt _ _ | exact sm_intToFloat _ _ | exact sm_intToString _ | exact sm_addrSub _ _ _ | exact sm_addrCmp _ _ _ | exact sm_addrMod _ _ _ | exact sm_movedNumber _ _ _ | exact sm_movedPointer _ _ _ | exact sm_twoPlaces _ _ | exact sm_unsafeAdd _ _ _ | exact sm_fieldPlace _ _ | exact sm_partAt _ _ _ | exact sm_samePointer _ _ | exact sm_typeStr _ | exact sm_byteOf _ | exact sm_sameAddr _ _ | exact sm_mayBeOne _ _ | exact sm_asNumber _ _ | exact sm_behindNumber _ | exact sm_noView _ | exact sm_markStringish _ | exact sm_stringish _ | exact sm_viewAt _ | exact sm_numberAt _ | (refine sm_forIn_array _ _ _ (fun _ _ => ?_)) | (refine sm_forIn_range _ _ _ (fun _ _ => ?_)) | (refine sm_foldlM_list _ (fun _ _ => ?_) _ _) | exact sm_intArith _ _ _ _ | exact sm_intDiv _ _ _ _ | exact sm_intBits _ _ _ _ | exact sm_shift _ _ _ _ _ | exact sm_intCmp _ _ _ | exact sm_floatArith _ _ _ _ | exact sm_floatCmp _ _ _ _ | exact sm_stringOp _ _ _ | exact sm_slice _ _ _ _ _ | exact sm_sliceBounds _ _ _ _ _ _ | exact sm_sliceBound _ _ _ | exact sm_alloc _ _ _ | exact sm_box _ _ | exact sm_makeSlice _ _ _ | exact sm_asInt _ | exact sm_asBool _ | exact sm_asString _ | exact sm_asAgg _ | exact sm_asAddr _ | exact sm_sureAddr _ | exact sm_boundsPanic _ _ _ _ | exact sm_asIntOf _ | exact sm_runtimePanic _ | exact sm_newVar _ _ | exact sm_elemOf _ | exact sm_part _ _ _ | exact sm_loadVar _ _ | exact sm_storeVar _ _ _ | exact sm_newRow _ _ | exact sm_loadCells _ _ | exact sm_storeCells _ _ _ | exact sm_zeroValue _ | exact sm_sizeOf _ | exact sm_isAgg _ | exact sm_askRoom _ | exact sm_typeInfo _ | exact sm_underlying _ | exact sm_load _ _ | exact sm_store _ _ _ | exact sm_newObj _ | exact sm_freeze _ _ | exact sm_frozen _ | exact sm_getObj _ | exact sm_choose _ | exact sm_program | exact sm_mark | exact sm_stuck _ | exact sm_goPanic _ | assumption) | (with_reducible refine sm_map _ ?_) | (refine sm_bind ?_ (fun _ => ?_)) | (intro _) | split | dsimp only))
  | d + 1, t, x, y => by
    have ih := sm_eqGuardIn d
    unfold Op.eqGuardIn
    repeat' (first | with_reducible exact sm_pure _ | ((with_reducible refine sm_unsupported _ ?_) <;> rfl) | with_reducible exact ih _ _ _ | with_reducible (first | exact sm_equalIn _ _ _ _ | exact sm_floatToFloat _ _ _ | exact sm_floatToInt _ _ _ | exact sm_intToInt _ _ | exact sm_intToFloat _ _ | exact sm_intToString _ | exact sm_addrSub _ _ _ | exact sm_addrCmp _ _ _ | exact sm_addrMod _ _ _ | exact sm_movedNumber _ _ _ | exact sm_movedPointer _ _ _ | exact sm_twoPlaces _ _ | exact sm_unsafeAdd _ _ _ | exact sm_fieldPlace _ _ | exact sm_partAt _ _ _ | exact sm_samePointer _ _ | exact sm_typeStr _ | exact sm_byteOf _ | exact sm_sameAddr _ _ | exact sm_mayBeOne _ _ | exact sm_asNumber _ _ | exact sm_behindNumber _ | exact sm_noView _ | exact sm_markStringish _ | exact sm_stringish _ | exact sm_viewAt _ | exact sm_numberAt _ | (refine sm_forIn_array _ _ _ (fun _ _ => ?_)) | (refine sm_forIn_range _ _ _ (fun _ _ => ?_)) | (refine sm_foldlM_list _ (fun _ _ => ?_) _ _) | exact sm_intArith _ _ _ _ | exact sm_intDiv _ _ _ _ | exact sm_intBits _ _ _ _ | exact sm_shift _ _ _ _ _ | exact sm_intCmp _ _ _ | exact sm_floatArith _ _ _ _ | exact sm_floatCmp _ _ _ _ | exact sm_stringOp _ _ _ | exact sm_slice _ _ _ _ _ | exact sm_sliceBounds _ _ _ _ _ _ | exact sm_sliceBound _ _ _ | exact sm_alloc _ _ _ | exact sm_box _ _ | exact sm_makeSlice _ _ _ | exact sm_asInt _ | exact sm_asBool _ | exact sm_asString _ | exact sm_asAgg _ | exact sm_asAddr _ | exact sm_sureAddr _ | exact sm_boundsPanic _ _ _ _ | exact sm_asIntOf _ | exact sm_runtimePanic _ | exact sm_newVar _ _ | exact sm_elemOf _ | exact sm_part _ _ _ | exact sm_loadVar _ _ | exact sm_storeVar _ _ _ | exact sm_newRow _ _ | exact sm_loadCells _ _ | exact sm_storeCells _ _ _ | exact sm_zeroValue _ | exact sm_sizeOf _ | exact sm_isAgg _ | exact sm_askRoom _ | exact sm_typeInfo _ | exact sm_underlying _ | exact sm_load _ _ | exact sm_store _ _ _ | exact sm_newObj _ | exact sm_freeze _ _ | exact sm_frozen _ | exact sm_getObj _ | exact sm_choose _ | exact sm_program | exact sm_mark | exact sm_stuck _ | exact sm_goPanic _ | assumption) | (with_reducible refine sm_map _ ?_) | (refine sm_bind ?_ (fun _ => ?_)) | (intro _) | split | dsimp only)
theorem sm_equal (t : TypeId) (x y : Value) : Sm p (Op.equal t x y) := sm_equalIn _ _ _ _
theorem sm_eqGuard (op : BinOp) (t : TypeId) (x y : Operand) (a b : Value) : Sm p (eqGuard op t x y a b) := by unfold eqGuard; (repeat' (first | with_reducible exact sm_pure _ | ((with_reducible refine sm_unsupported _ ?_) <;> rfl) | with_reducible (first | exact sm_eqGuardIn _ _ _ _ | exact sm_program | assumption) | (refine sm_bind ?_ (fun _ => ?_)) | (intro _) | split | dsimp only))

theorem sm_arith (op : BinOp) (k : FloatKind) (x y : Nat) : Sm p (Op.Complex.arith op k x y) := by unfold Op.Complex.arith; (repeat' (first | with_reducible exact sm_pure _ | ((with_reducible refine sm_unsupported _ ?_) <;> rfl) | with_reducible (first | exact sm_floatArith _ _ _ _ | exact sm_stuck _ | assumption) | (refine sm_bind ?_ (fun _ => ?_)) | (intro _) | split | dsimp only))
theorem sm_cmp (op : BinOp) (k : FloatKind) (x y : Nat) : Sm p (Op.Complex.cmp op k x y) := by unfold Op.Complex.cmp; (repeat' (first | with_reducible exact sm_pure _ | ((with_reducible refine sm_unsupported _ ?_) <;> rfl) | with_reducible (first | exact sm_floatCmp _ _ _ _ | exact sm_asBool _ | assumption) | (refine sm_bind ?_ (fun _ => ?_)) | (intro _) | split | dsimp only))
theorem sm_conv (k : FloatKind) (x : Nat) (d : FloatKind) : Sm p (Op.Complex.conv k x d) := by unfold Op.Complex.conv; (repeat' (first | with_reducible exact sm_pure _ | ((with_reducible refine sm_unsupported _ ?_) <;> rfl) | with_reducible (first | exact sm_floatToFloat _ _ _ | exact sm_stuck _ | assumption) | (refine sm_bind ?_ (fun _ => ?_)) | (intro _) | split | dsimp only))
theorem sm_cadd (x y : Nat) : Sm p (Op.Complex.add x y) := sm_arith _ _ _ _
theorem sm_csub (x y : Nat) : Sm p (Op.Complex.sub x y) := sm_arith _ _ _ _
theorem sm_cmul (x y : Nat) : Sm p (Op.Complex.mul x y) := sm_arith _ _ _ _
theorem sm_cquo (x y : Nat) : Sm p (Op.Complex.quo x y) := sm_arith _ _ _ _
theorem sm_cproduct (a b c d : Nat) : Sm p (Op.Complex.product a b c d) := by unfold Op.Complex.product; (repeat' (first | with_reducible exact sm_pure _ | ((with_reducible refine sm_unsupported _ ?_) <;> rfl) | with_reducible (first | exact sm_cadd _ _ | exact sm_csub _ _ | exact sm_cmul _ _ | assumption) | (refine sm_bind ?_ (fun _ => ?_)) | (intro _) | split | dsimp only))
theorem sm_ccorrected (s a b c d : Nat) : Sm p (Op.Complex.corrected s a b c d) := by unfold Op.Complex.corrected; (repeat' (first | with_reducible exact sm_pure _ | ((with_reducible refine sm_unsupported _ ?_) <;> rfl) | with_reducible (first | exact sm_cadd _ _ | exact sm_csub _ _ | exact sm_cmul _ _ | assumption) | (refine sm_bind ?_ (fun _ => ?_)) | (intro _) | split | dsimp only))
theorem sm_cquotient (a b c d : Nat) : Sm p (Op.Complex.quotient a b c d) := by unfold Op.Complex.quotient; (repeat' (first | with_reducible exact sm_pure _ | ((with_reducible refine sm_unsupported _ ?_) <;> rfl) | with_reducible (first | exact sm_ccorrected _ _ _ _ _ | exact sm_cmp _ _ _ _ | exact sm_cadd _ _ | exact sm_csub _ _ | exact sm_cmul _ _ | exact sm_cquo _ _ | assumption) | (refine sm_bind ?_ (fun _ => ?_)) | (intro _) | split | dsimp only))
theorem sm_complexOp (op : BinOp) (k : FloatKind) (a b c d : Nat) : Sm p (Op.complexOp op k a b c d) := by unfold Op.complexOp; (repeat' (first | with_reducible exact sm_pure _ | ((with_reducible refine sm_unsupported _ ?_) <;> rfl) | with_reducible (first | exact sm_cquotient _ _ _ _ | exact sm_cproduct _ _ _ _ | exact sm_arith _ _ _ _ | exact sm_cmp _ _ _ _ | exact sm_conv _ _ _ | exact sm_stuck _ | assumption) | (refine sm_bind ?_ (fun _ => ?_)) | (intro _) | split | dsimp only))
end Go.Proofs.Ytpmmimcafkillaa.Br
