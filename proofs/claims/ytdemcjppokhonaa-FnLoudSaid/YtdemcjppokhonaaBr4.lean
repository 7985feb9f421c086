/-
  Which functions of the model make no system call (3). It names no program; no conditions.
-/
import Derived.Test.YtdemcjppokhonaaBr3
set_option linter.unusedVariables false
set_option linter.unusedSimpArgs false
namespace Go.Proofs.Ytdemcjppokhonaa
open Go Go.Conc
variable {p : Program}

theorem ns_ite {α : Type} {c : Prop} [Decidable c] {s t : Sem α} (hs : NoSys p s) (ht : NoSys p t) : NoSys p (if c then s else t) := by
  split
  · exact hs
  · exact ht
set_option maxHeartbeats 8000000 in
theorem ns_append (a : Array TypeId) (t : TypeId) (args : Array Value) : NoSys p (Builtin.append_ a t args) := by unfold Builtin.append_; (repeat' (first | with_reducible exact ns_pure _ | ((with_reducible refine ns_unsupported _ ?_) <;> rfl) | with_reducible (first | (refine ns_ite ?_ ?_) | exact ns_max2 _ _ | exact ns_min2 _ _ | exact ns_mayShare _ _ _ _ _ | exact ns_lenOf _ | exact ns_firstCells _ _ _ | exact ns_holdsCells _ _ | exact ns_complexOp _ _ _ _ _ _ | exact ns_cquotient _ _ _ _ | exact ns_cproduct _ _ _ _ | exact ns_ccorrected _ _ _ _ _ | exact ns_arith _ _ _ _ | exact ns_cmp _ _ _ _ | exact ns_conv _ _ _ | exact ns_cadd _ _ | exact ns_csub _ _ | exact ns_cmul _ _ | exact ns_cquo _ _ | exact ns_eqGuardIn _ _ _ _ | exact ns_equal _ _ _ | exact ns_equalIn _ _ _ _ | exact ns_floatToFloat _ _ _ | exact ns_floatToInt _ _ _ | exact ns_intToInt _ _ | exact ns_intToFloat _ _ | exact ns_intToString _ | exact ns_addrSub _ _ _ | exact ns_addrCmp _ _ _ | exact ns_addrMod _ _ _ | exact ns_movedNumber _ _ _ | exact ns_movedPointer _ _ _ | exact ns_twoPlaces _ _ | exact ns_unsafeAdd _ _ _ | exact ns_fieldPlace _ _ | exact ns_partAt _ _ _ | exact ns_samePointer _ _ | exact ns_typeStr _ | exact ns_byteOf _ | exact ns_sameAddr _ _ | exact ns_mayBeOne _ _ | exact ns_asNumber _ _ | exact ns_behindNumber _ | exact ns_noView _ | exact ns_markStringish _ | exact ns_stringish _ | exact ns_viewAt _ | exact ns_numberAt _ | (refine ns_forIn_array _ _ _ (fun _ _ => ?_)) | (refine ns_forIn_range _ _ _ (fun _ _ => ?_)) | (refine ns_foldlM_list _ (fun _ _ => ?_) _ _) | exact ns_intArith _ _ _ _ | exact ns_intDiv _ _ _ _ | exact ns_intBits _ _ _ _ | exact ns_shift _ _ _ _ _ | exact ns_intCmp _ _ _ | exact ns_floatArith _ _ _ _ | exact ns_floatCmp _ _ _ _ | exact ns_stringOp _ _ _ | exact ns_slice _ _ _ _ _ | exact ns_sliceBounds _ _ _ _ _ _ | exact ns_sliceBound _ _ _ | exact ns_alloc _ _ _ | exact ns_box _ _ | exact ns_makeSlice _ _ _ | exact ns_asInt _ | exact ns_asBool _ | exact ns_asString _ | exact ns_asAgg _ | exact ns_asAddr _ | exact ns_sureAddr _ | exact ns_boundsPanic _ _ _ _ | exact ns_asIntOf _ | exact ns_runtimePanic _ | exact ns_newVar _ _ | exact ns_elemOf _ | exact ns_part _ _ _ | exact ns_loadVar _ _ | exact ns_storeVar _ _ _ | exact ns_newRow _ _ | exact ns_loadCells _ _ | exact ns_storeCells _ _ _ | exact ns_zeroValue _ | exact ns_sizeOf _ | exact ns_isAgg _ | exact ns_askRoom _ | exact ns_typeInfo _ | exact ns_underlying _ | exact ns_load _ _ | exact ns_store _ _ _ | exact ns_newObj _ | exact ns_shape _ | exact ns_freeze _ _ | exact ns_frozen _ | exact ns_getObj _ | exact ns_choose _ | exact ns_program | exact ns_mark | exact ns_stuck _ | exact ns_goPanic _ | assumption) | (with_reducible refine ns_map _ ?_) | (refine ns_bind ?_ (fun _ => ?_)) | (intro _) | split | dsimp only))
end Go.Proofs.Ytdemcjppokhonaa
