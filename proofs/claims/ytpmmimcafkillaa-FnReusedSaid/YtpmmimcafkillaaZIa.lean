/-
  The ordinary operations, a function value among their slots: what they come to, and that they run alike where blocks are emptied. It names no program; no conditions.
-/
import Derived.Test.YtpmmimcafkillaaZHz
set_option linter.unusedVariables false
set_option linter.unusedSimpArgs false
namespace Go.Proofs.Ytpmmimcafkillaa.Br
open Go Go.Conc
variable {p : Program}

theorem sm_followBlind : ∀ (l : List FieldStep) (t : TypeId) (x : Option Value), Sm p (followBlind l t x)
  | [], t, x => sm_pure _
  | s :: rest, t, x => by
    have ih := fun t x => sm_followBlind rest t x
    unfold followBlind
    (repeat' (first | with_reducible exact sm_pure _ | ((with_reducible refine sm_unsupported _ ?_) <;> rfl) | with_reducible exact ih _ _ | with_reducible (first | (refine sm_mapM_array _ (fun _ => ?_) _) | exact sm_complexToComplex _ _ _ _ | exact sm_stringToBytes _ _ | exact sm_stringToRunes _ _ | exact sm_bytesToString _ | exact sm_runesToString _ | (refine sm_ite ?_ ?_) | exact sm_max2 _ _ | exact sm_min2 _ _ | exact sm_lenOf _ | exact sm_firstCells _ _ _ | exact sm_complexOp _ _ _ _ _ _ | exact sm_cquotient _ _ _ _ | exact sm_cproduct _ _ _ _ | exact sm_ccorrected _ _ _ _ _ | exact sm_arith _ _ _ _ | exact sm_cmp _ _ _ _ | exact sm_conv _ _ _ | exact sm_cadd _ _ | exact sm_csub _ _ | exact sm_cmul _ _ | exact sm_cquo _ _ | exact sm_eqGuardIn _ _ _ _ | exact sm_equal _ _ _ | exact sm_equalIn _ _ _ _ | exact sm_floatToFloat _ _ _ | exact sm_floatToInt _ _ _ | exact sm_intToInt _ _ | exact sm_intToFloat _ _ | exact sm_intToString _ | exact sm_addrSub _ _ _ | exact sm_addrCmp _ _ _ | exact sm_addrMod _ _ _ | exact sm_movedNumber _ _ _ | exact sm_movedPointer _ _ _ | exact sm_twoPlaces _ _ | exact sm_unsafeAdd _ _ _ | exact sm_fieldPlace _ _ | exact sm_partAt _ _ _ | exact sm_samePointer _ _ | exact sm_typeStr _ | exact sm_byteOf _ | exact sm_sameAddr _ _ | exact sm_mayBeOne _ _ | exact sm_asNumber _ _ | exact sm_behindNumber _ | exact sm_noView _ | exact sm_markStringish _ | exact sm_stringish _ | exact sm_viewAt _ | exact sm_numberAt _ | (refine sm_forIn_array _ _ _ (fun _ _ => ?_)) | (refine sm_forIn_range _ _ _ (fun _ _ => ?_)) | (refine sm_foldlM_list _ (fun _ _ => ?_) _ _) | exact sm_intArith _ _ _ _ | exact sm_intDiv _ _ _ _ | exact sm_intBits _ _ _ _ | exact sm_shift _ _ _ _ _ | exact sm_intCmp _ _ _ | exact sm_floatArith _ _ _ _ | exact sm_floatCmp _ _ _ _ | exact sm_stringOp _ _ _ | exact sm_slice _ _ _ _ _ | exact sm_sliceBounds _ _ _ _ _ _ | exact sm_sliceBound _ _ _ | exact sm_alloc _ _ _ | exact sm_box _ _ | exact sm_makeSlice _ _ _ | exact sm_asInt _ | exact sm_asBool _ | exact sm_asString _ | exact sm_asAgg _ | exact sm_asAddr _ | exact sm_sureAddr _ | exact sm_boundsPanic _ _ _ _ | exact sm_asIntOf _ | exact sm_runtimePanic _ | exact sm_newVar _ _ | exact sm_elemOf _ | exact sm_part _ _ _ | exact sm_loadVar _ _ | exact sm_storeVar _ _ _ | exact sm_newRow _ _ | exact sm_loadCells _ _ | exact sm_storeCells _ _ _ | exact sm_zeroValue _ | exact sm_sizeOf _ | exact sm_isAgg _ | exact sm_askRoom _ | exact sm_typeInfo _ | exact sm_underlying _ | exact sm_load _ _ | exact sm_store _ _ _ | exact sm_newObj _ | exact sm_freeze _ _ | exact sm_frozen _ | exact sm_getObj _ | exact sm_choose _ | exact sm_program | exact sm_mark | exact sm_stuck _ | exact sm_goPanic _ | assumption) | (with_reducible refine sm_map _ ?_) | (refine sm_bind ?_ (fun _ => ?_)) | (intro _) | split | dsimp only))
theorem sm_nilAhead : ∀ (k : Nat) (t : TypeId) (v : Value) (n : String), Sm p (nilAhead k t v n)
  | 0, t, v, n => sm_pure _
  | k + 1, t, v, n => by
    have ih := fun t v => sm_nilAhead k t v n
    unfold nilAhead
    (repeat' (first | with_reducible exact sm_pure _ | ((with_reducible refine sm_unsupported _ ?_) <;> rfl) | with_reducible exact ih _ _ | with_reducible exact sm_followBlind _ _ _ | with_reducible (first | (refine sm_mapM_array _ (fun _ => ?_) _) | exact sm_complexToComplex _ _ _ _ | exact sm_stringToBytes _ _ | exact sm_stringToRunes _ _ | exact sm_bytesToString _ | exact sm_runesToString _ | (refine sm_ite ?_ ?_) | exact sm_max2 _ _ | exact sm_min2 _ _ | exact sm_lenOf _ | exact sm_firstCells _ _ _ | exact sm_complexOp _ _ _ _ _ _ | exact sm_cquotient _ _ _ _ | exact sm_cproduct _ _ _ _ | exact sm_ccorrected _ _ _ _ _ | exact sm_arith _ _ _ _ | exact sm_cmp _ _ _ _ | exact sm_conv _ _ _ | exact sm_cadd _ _ | exact sm_csub _ _ | exact sm_cmul _ _ | exact sm_cquo _ _ | exact sm_eqGuardIn _ _ _ _ | exact sm_equal _ _ _ | exact sm_equalIn _ _ _ _ | exact sm_floatToFloat _ _ _ | exact sm_floatToInt _ _ _ | exact sm_intToInt _ _ | exact sm_intToFloat _ _ | exact sm_intToString _ | exact sm_addrSub _ _ _ | exact sm_addrCmp _ _ _ | exact sm_addrMod _ _ _ | exact sm_movedNumber _ _ _ | exact sm_movedPointer _ _ _ | exact sm_twoPlaces _ _ | exact sm_unsafeAdd _ _ _ | exact sm_fieldPlace _ _ | exact sm_partAt _ _ _ | exact sm_samePointer _ _ | exact sm_typeStr _ | exact sm_byteOf _ | exact sm_sameAddr _ _ | exact sm_mayBeOne _ _ | exact sm_asNumber _ _ | exact sm_behindNumber _ | exact sm_noView _ | exact sm_markStringish _ | exact sm_stringish _ | exact sm_viewAt _ | exact sm_numberAt _ | (refine sm_forIn_array _ _ _ (fun _ _ => ?_)) | (refine sm_forIn_range _ _ _ (fun _ _ => ?_)) | (refine sm_foldlM_list _ (fun _ _ => ?_) _ _) | exact sm_intArith _ _ _ _ | exact sm_intDiv _ _ _ _ | exact sm_intBits _ _ _ _ | exact sm_shift _ _ _ _ _ | exact sm_intCmp _ _ _ | exact sm_floatArith _ _ _ _ | exact sm_floatCmp _ _ _ _ | exact sm_stringOp _ _ _ | exact sm_slice _ _ _ _ _ | exact sm_sliceBounds _ _ _ _ _ _ | exact sm_sliceBound _ _ _ | exact sm_alloc _ _ _ | exact sm_box _ _ | exact sm_makeSlice _ _ _ | exact sm_asInt _ | exact sm_asBool _ | exact sm_asString _ | exact sm_asAgg _ | exact sm_asAddr _ | exact sm_sureAddr _ | exact sm_boundsPanic _ _ _ _ | exact sm_asIntOf _ | exact sm_runtimePanic _ | exact sm_newVar _ _ | exact sm_elemOf _ | exact sm_part _ _ _ | exact sm_loadVar _ _ | exact sm_storeVar _ _ _ | exact sm_newRow _ _ | exact sm_loadCells _ _ | exact sm_storeCells _ _ _ | exact sm_zeroValue _ | exact sm_sizeOf _ | exact sm_isAgg _ | exact sm_askRoom _ | exact sm_typeInfo _ | exact sm_underlying _ | exact sm_load _ _ | exact sm_store _ _ _ | exact sm_newObj _ | exact sm_freeze _ _ | exact sm_frozen _ | exact sm_getObj _ | exact sm_choose _ | exact sm_program | exact sm_mark | exact sm_stuck _ | exact sm_goPanic _ | assumption) | (with_reducible refine sm_map _ ?_) | (refine sm_bind ?_ (fun _ => ?_)) | (intro _) | split | dsimp only))

/-- the functions that are entered, the slots that bear the one function value, and its number -/
structure Sig where
  F : FuncId → Bool
  K : FuncId → List Nat
  fv : FuncId
variable (G : Sig)
def Fv (v : Value) : Prop := v = undef ∨ v = .func (.func G.fv) #[] #[]
def kO (K : List Nat) : Operand → Bool
  | .tmp t => K.contains t
  | .func f => f == G.fv
  | _ => false
def okBuiltin : Builtin → Bool
  | .append | .cap | .copy | .len | .max | .min | .unsafeString => true
  | _ => false
def argsOk (K : List Nat) (g : FuncId) (args : Array Operand) : Bool := (G.K g).all fun s => (args[s]?).all (kO G K)
def okOp (p : Program) (K : List Nat) (o : Oper) : Bool :=
  let free := o.dst.all fun d => !K.contains d
  match o.op with
  | .move x | .assign x | .nilCheck x => free || kO G K x
  | .pick .. | .alloc _ | .box .. | .build .. | .buildSlice .. | .load .. | .store .. | .waits _ | .binOp .. | .unOp ..
  | .sliceToArrayPointer .. | .makeInterface .. | .makeChan .. | .makeSlice .. | .slice .. | .fieldAddr .. | .field .. | .indexAddr .. | .index .. | .extract .. => free
  | .convert s d _ => free && noUns p s && noUns p d
  | .call c => free && match c.callee with
    | .builtin b => okBuiltin b
    | .value (.func g) => G.F g && argsOk G K g c.args
    | .value (.tmp t) => K.contains t && G.F G.fv && (G.K G.fv).isEmpty
    | _ => false
  | _ => false

/-- What an ordinary operation comes to. -/
def Plain (K : List Nat) (o : Oper) : Next → Prop
  | .value v => ∀ d, o.dst = some d → d ∈ K → Fv G v
  | .skip => True
  | .enter f args => G.F f = true ∧ (∀ s ∈ G.K f, ∀ v, args[s]? = some v → Fv G v) ∧ ∀ d, o.dst = some d → d ∉ K
  | _ => False
/-- The set: functions with a Go body. -/
def Bodied (p : Program) (F : FuncId → Bool) : Prop := ∀ f, F f = true → ∃ fn c, p.funcs[f]? = some fn ∧ (fn.name == "runtime.NumGoroutine") = false ∧ fn.body = some c

variable {G}
theorem lf_v {K : List Nat} {o : Oper} (hf : ∀ d, o.dst = some d → d ∉ K) {s : Sem Value} (h : Sm p s) : Lf p (Plain G K o) (do pure (.value (← s)) : Sem Next) := Lf.bind h.1 fun _ d h1 h2 => absurd h2 (hf d h1)
theorem lf_u {K : List Nat} {o : Oper} {s : Sem Unit} (h : Sm p s) : Lf p (Plain G K o) (do s; pure .skip : Sem Next) := Lf.bind h.1 fun _ => trivial
theorem sm_v {s : Sem Value} (h : Sm p s) : Sm p (do pure (.value (← s)) : Sem Next) := sm_bind h fun _ => sm_pure _
theorem sm_u {s : Sem Unit} (h : Sm p s) : Sm p (do s; pure .skip : Sem Next) := sm_bind h fun _ => sm_pure _

theorem callFunc_eq (hF : Bodied p G.F) {f : FuncId} (h : G.F f = true) (args : Array Value) : Sm p (callFunc f args) ∧ ∀ Q : Next → Prop, Q (.enter f args) → Lf p Q (callFunc f args) := by
  obtain ⟨fn, c, h1, h2, h3⟩ := hF f h
  refine ⟨?_, fun Q hQ => ?_⟩
  · show Sm p (.program fun q => (match q.funcs[f]? with | none => _ | some fn => _ : Sem Next))
    refine sm_progK ?_
    simp only [h1, h2, h3, Option.isNone_some, Bool.false_eq_true, if_false]
    exact sm_pure _
  · show Lf p Q (match p.funcs[f]? with | none => _ | some fn => _)
    simp only [h1, h2, h3, Option.isNone_some, Bool.false_eq_true, if_false]
    exact hQ

theorem lf_rp {α : Type} {Q : α → Prop} : Lf p Q (runtimePanic .nilDeref : Sem α) := Lf.bind (p := p) (s := program) trivial fun q => rfl

theorem op_execOp (hF : Bodied p G.F) {K : List Nat} {ρ : Operand → Value} (hρ : ∀ f, ρ (.func f) = .func (.func f) #[] #[]) (hK : ∀ t ∈ K, Fv G (ρ (.tmp t))) {o : Oper} (ho : okOp G p K o = true) :
    Lf p (Plain G K o) (execOp ρ o) ∧ Sm p (execOp ρ o) := by
  have hk : ∀ x, kO G K x = true → Fv G (ρ x) := fun x hx => by
    cases x with
    | tmp t => exact hK t (List.contains_iff_mem.1 hx)
    | func f => rw [hρ]; simp only [kO, beq_iff_eq] at hx; rw [hx]; exact .inr rfl
    | _ => cases hx
  have fr : (o.dst.all fun d => !K.contains d) = true → ∀ d, o.dst = some d → d ∉ K := fun h d hd => by
    rw [hd] at h
    simpa using h
  unfold execOp
  unfold okOp at ho
  cases h : o.op with
  | move x =>
    simp only [h, Bool.or_eq_true] at ho
    refine ⟨fun d h1 h2 => ?_, sm_pure _⟩
    rcases ho with ho | ho
    · exact absurd h2 (fr ho d h1)
    · exact hk x ho
  | assign x =>
    simp only [h, Bool.or_eq_true] at ho
    refine ⟨fun d h1 h2 => ?_, sm_pure _⟩
    rcases ho with ho | ho
    · exact absurd h2 (fr ho d h1)
    · exact hk x ho
  | nilCheck x =>
    simp only [h, Bool.or_eq_true] at ho
    have hv : ∀ v, v = ρ x → ∀ d, o.dst = some d → d ∈ K → Fv G v := fun v hv d h1 h2 => by
      rcases ho with ho | ho
      · exact absurd h2 (fr ho d h1)
      · rw [hv]; exact hk x ho
    constructor
    · show Lf p (Plain G K o) (match ρ x with
        | .pointer none | .nilIface | .nilFunc => runtimePanic .nilDeref
        | .func (.method name) first captured => _
        | x => pure (.value x))
      split
      · exact lf_rp
      · exact lf_rp
      · exact lf_rp
      · rename_i he
        split
        · exact lf_rp
        · refine Lf.bind (s := program) trivial fun _ => Lf.bind (sm_nilAhead _ _ _ _).1 fun r => ?_
          split
          · exact Lf.bind (sm_unsupported _ rfl).1 fun _ => hv _ he.symm
          · exact hv _ he.symm
        · exact hv _ he.symm
      · exact hv _ rfl
    · show Sm p (match ρ x with
        | .pointer none | .nilIface | .nilFunc => runtimePanic .nilDeref
        | .func (.method name) first captured => _
        | x => pure (.value x) : Sem Next)
      split
      · exact sm_runtimePanic _
      · exact sm_runtimePanic _
      · exact sm_runtimePanic _
      · split
        · exact sm_runtimePanic _
        · refine sm_bind sm_program fun _ => sm_bind (sm_nilAhead _ _ _ _) fun r => ?_
          split
          · exact sm_bind (sm_unsupported _ rfl) fun _ => sm_pure _
          · exact sm_pure _
        · exact sm_pure _
      · exact sm_pure _
  | pick c a b =>
    simp only [h] at ho
    exact ⟨Lf.bind (sm_asBool _).1 fun _ d h1 h2 => absurd h2 (fr ho d h1), sm_bind (sm_asBool _) fun _ => sm_pure _⟩
  | alloc t => simp only [h] at ho; exact ⟨lf_v (fr ho) (sm_alloc _ _ _), sm_v (sm_alloc _ _ _)⟩
  | box t x => simp only [h] at ho; exact ⟨lf_v (fr ho) (sm_box _ _), sm_v (sm_box _ _)⟩
  | build t ps => simp only [h] at ho; exact ⟨lf_v (fr ho) (sm_build _ _), sm_v (sm_build _ _)⟩
  | buildSlice t n ps => simp only [h] at ho; exact ⟨lf_v (fr ho) (sm_buildSlice _ _ _), sm_v (sm_buildSlice _ _ _)⟩
  | load t a => simp only [h] at ho; exact ⟨lf_v (fr ho) (sm_loadAt _ _), sm_v (sm_loadAt _ _)⟩
  | store t a x => simp only [h] at ho; exact ⟨lf_u (sm_storeAt _ _ _), sm_u (sm_storeAt _ _ _)⟩
  | waits g => simp only [h] at ho; exact ⟨lf_v (fr ho) (sm_waits _), sm_v (sm_waits _)⟩
  | binOp op t x y yt => simp only [h] at ho; exact ⟨lf_v (fr ho) (sm_bind (sm_eqGuard _ _ _ _ _ _) fun _ => sm_binOp _ _ _ _), sm_v (sm_bind (sm_eqGuard _ _ _ _ _ _) fun _ => sm_binOp _ _ _ _)⟩
  | unOp op t x => simp only [h] at ho; exact ⟨lf_v (fr ho) (sm_unary _ _), sm_v (sm_unary _ _)⟩
  | convert s d x =>
    simp only [h, Bool.and_eq_true] at ho
    exact ⟨lf_v (fr ho.1.1) (sm_convert _ _ _ ho.1.2 ho.2), sm_v (sm_convert _ _ _ ho.1.2 ho.2)⟩
  | sliceToArrayPointer t x => simp only [h] at ho; exact ⟨lf_v (fr ho) (sm_arrayAt _ _), sm_v (sm_arrayAt _ _)⟩
  | makeInterface t x => simp only [h] at ho; exact ⟨lf_v (fr ho) (sm_makeInterface _ _), sm_v (sm_makeInterface _ _)⟩
  | makeChan t s => simp only [h] at ho; exact ⟨lf_v (fr ho) (sm_makeChan _ _), sm_v (sm_makeChan _ _)⟩
  | makeSlice t l c => simp only [h] at ho; exact ⟨lf_v (fr ho) (sm_makeSlice _ _ _), sm_v (sm_makeSlice _ _ _)⟩
  | slice t x a b c => simp only [h] at ho; exact ⟨lf_v (fr ho) (sm_sliceAt _ _ _ _ _), sm_v (sm_sliceAt _ _ _ _ _)⟩
  | fieldAddr t x f => simp only [h] at ho; exact ⟨lf_v (fr ho) (sm_fieldAt _ _ _), sm_v (sm_fieldAt _ _ _)⟩
  | field t x f => simp only [h] at ho; exact ⟨lf_v (fr ho) (sm_field _ _ _), sm_v (sm_field _ _ _)⟩
  | indexAddr t x i => simp only [h] at ho; exact ⟨lf_v (fr ho) (sm_indexAt _ _ _), sm_v (sm_indexAt _ _ _)⟩
  | index t x i => simp only [h] at ho; exact ⟨lf_v (fr ho) (sm_index _ _ _), sm_v (sm_index _ _ _)⟩
  | extract t i => simp only [h] at ho; exact ⟨lf_v (fr ho) (sm_extract _ _), sm_v (sm_extract _ _)⟩
  | call c =>
    simp only [h, Bool.and_eq_true] at ho
    obtain ⟨hfree, ho⟩ := ho
    obtain ⟨callee, args, argTypes⟩ := c
    cases callee with
    | builtin b =>
      cases b with
      | append => exact ⟨lf_v (fr hfree) (sm_append _ _ _), sm_v (sm_append _ _ _)⟩
      | cap => exact ⟨lf_v (fr hfree) (sm_cap _ _ _), sm_v (sm_cap _ _ _)⟩
      | copy => exact ⟨lf_v (fr hfree) (sm_copy _ _ _), sm_v (sm_copy _ _ _)⟩
      | len => exact ⟨lf_v (fr hfree) (sm_len _ _ _), sm_v (sm_len _ _ _)⟩
      | max => exact ⟨lf_v (fr hfree) (sm_max _ _ _), sm_v (sm_max _ _ _)⟩
      | min => exact ⟨lf_v (fr hfree) (sm_min _ _ _), sm_v (sm_min _ _ _)⟩
      | unsafeString => exact ⟨lf_v (fr hfree) (sm_unsafeString _ _ _), sm_v (sm_unsafeString _ _ _)⟩
      | _ => cases ho
    | invoke r n => cases ho
    | value f =>
      cases f with
      | func f =>
        simp only [Bool.and_eq_true] at ho
        have e : (Sem.bind (resolve ρ { callee := .value (.func f), args := args, argTypes := argTypes } o.type) fun d => invoke d.target d.args) = callFunc f ((#[] ++ args.map ρ) ++ #[]) := by
          show (Sem.bind (Deferred.ofValue (ρ (.func f)) _) _) = _
          rw [hρ]; rfl
        show Lf p (Plain G K o) (Sem.bind (resolve ρ { callee := .value (.func f), args := args, argTypes := argTypes } o.type) fun d => invoke d.target d.args) ∧ Sm p (Sem.bind (resolve ρ { callee := .value (.func f), args := args, argTypes := argTypes } o.type) fun d => invoke d.target d.args)
        rw [e]
        refine ⟨(callFunc_eq hF ho.1 _).2 _ ⟨ho.1, fun s hs v hv => ?_, fr hfree⟩, (callFunc_eq hF ho.1 _).1⟩
        have := List.all_eq_true.1 ho.2 s hs
        simp only [Array.append_empty, Array.empty_append, Array.getElem?_map] at hv
        obtain ⟨x, hx, rfl⟩ := Option.map_eq_some_iff.1 hv
        rw [hx] at this
        exact hk x this
      | tmp t =>
        simp only [Bool.and_eq_true] at ho
        obtain ⟨⟨h1, h2⟩, h3⟩ := ho
        show Lf p (Plain G K o) (Sem.bind (Deferred.ofValue (ρ (.tmp t)) _) fun d => invoke d.target d.args) ∧ Sm p (Sem.bind (Deferred.ofValue (ρ (.tmp t)) _) fun d => invoke d.target d.args)
        rcases hK t (List.contains_iff_mem.1 h1) with e | e
        · rw [e]
          exact ⟨rfl, sm_stuck _⟩
        · rw [e]
          show Lf p (Plain G K o) (callFunc G.fv _) ∧ Sm p (callFunc G.fv _)
          refine ⟨(callFunc_eq hF h2 _).2 _ ⟨h2, fun s hs v hv => ?_, fr hfree⟩, (callFunc_eq hF h2 _).1⟩
          rw [List.isEmpty_iff.1 h3] at hs
          cases hs
      | _ => cases ho
  | _ => rw [h] at ho; cases ho
end Go.Proofs.Ytpmmimcafkillaa.Br
