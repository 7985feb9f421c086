/-
  The library's errors.As at the program's two kinds of errors: its steps that touch memory, and its contracts.
-/
import Derived.Test.YthjggjnkhhoigaaGreatDoorEAs
namespace Go.Proofs.YthjggjnkhhoigaaGreatDoor
open Go.RowKit Go.Extern.Stop Go.Stop Go.Extern
set_option linter.unusedVariables false
set_option linter.unusedSimpArgs false

namespace As
/-- a method of a Value looks at its parts first -/
theorem meth (z : Sem Value) (f : TypeId → Addr → Nat → Nat → Sem Value) (v : Value) : ∃ k : Option (TypeId × Addr × Nat) → Sem Value, ReflectliteValue.method z f #[v] = (ReflectliteValue.parts v >>= k) ∧ ∀ t a fl, k (some (t, a, fl)) = f t a fl (fl % 32) := ⟨_, rfl, fun _ _ _ => rfl⟩
theorem set_by60 (v x : Value) : ∃ k : Option (TypeId × Addr × Nat) → Option (TypeId × Addr × Nat) → Sem Value, ReflectliteValue.set #[v, x] = (ReflectliteValue.parts v >>= fun p => ReflectliteValue.parts x >>= fun q => k p q) ∧ ∀ a b, ∃ m : Bool → Value → Sem Value, k (some (60, a, 390)) (some (60, b, 134)) = (loadVar 60 b >>= fun y => Rtype.directlyAssignable 60 60 >>= fun d => m d y) ∧ ∀ y, m true y = (storeVar 60 a y >>= fun _ => pure (Value.tuple #[])) := ⟨_, rfl, fun _ _ => ⟨_, rfl, fun _ => rfl⟩⟩
theorem set_by73 (v x : Value) : ∃ k : Option (TypeId × Addr × Nat) → Option (TypeId × Addr × Nat) → Sem Value, ReflectliteValue.set #[v, x] = (ReflectliteValue.parts v >>= fun p => ReflectliteValue.parts x >>= fun q => k p q) ∧ ∀ a b, ∃ m : Bool → Value → Sem Value, k (some (73, a, 409)) (some (73, b, 153)) = (loadVar 73 b >>= fun y => Rtype.directlyAssignable 73 73 >>= fun d => m d y) ∧ ∀ y, m true y = (storeVar 73 a y >>= fun _ => pure (Value.tuple #[])) := ⟨_, rfl, fun _ _ => ⟨_, rfl, fun _ => rfl⟩⟩
theorem isNil75 (a p : Addr) (W : World) (ha : W.cell? a = some (.pointer (some p))) :
    (ReflectliteValue.method (ReflectliteValue.valueError "reflectlite.Value.IsNil" 0) ReflectliteValue.isNil #[.agg #[.pointer (some ⟨9, 75, none⟩), .pointer (some a), .int .u64 150]]).run Tryz.prog W = .ok (.bool false) W := by
  obtain ⟨k, e1, e2⟩ := meth (ReflectliteValue.valueError "reflectlite.Value.IsNil" 0) ReflectliteValue.isNil (.agg #[.pointer (some ⟨9, 75, none⟩), .pointer (some a), .int .u64 150])
  rw [e1]
  simp only [Sem.run_bind, parts75, Result.andThen, e2]
  simp [ReflectliteValue.isNil, loadVar, isAgg, underlying, Tryz.underlying75, ha, Result.andThen]
theorem elemV75 (a p : Addr) (W : World) (ha : W.cell? a = some (.pointer (some p))) :
    (ReflectliteValue.method (ReflectliteValue.valueError "reflectlite.Value.Elem" 0) ReflectliteValue.elem #[.agg #[.pointer (some ⟨9, 75, none⟩), .pointer (some a), .int .u64 150]]).run Tryz.prog W
      = .ok (.agg #[.pointer (some ⟨9, 60, none⟩), .pointer (some p), .int .u64 390]) W := by
  obtain ⟨k, e1, e2⟩ := meth (ReflectliteValue.valueError "reflectlite.Value.Elem" 0) ReflectliteValue.elem (.agg #[.pointer (some ⟨9, 75, none⟩), .pointer (some a), .int .u64 150])
  rw [e1]
  simp only [Sem.run_bind, parts75, Result.andThen, e2]
  simp [ReflectliteValue.elem, loadVar, isAgg, underlying, Tryz.underlying75, ha, Result.andThen, elemOf75, mk60]
theorem isNil76 (a p : Addr) (W : World) (ha : W.cell? a = some (.pointer (some p))) :
    (ReflectliteValue.method (ReflectliteValue.valueError "reflectlite.Value.IsNil" 0) ReflectliteValue.isNil #[.agg #[.pointer (some ⟨9, 76, none⟩), .pointer (some a), .int .u64 150]]).run Tryz.prog W = .ok (.bool false) W := by
  obtain ⟨k, e1, e2⟩ := meth (ReflectliteValue.valueError "reflectlite.Value.IsNil" 0) ReflectliteValue.isNil (.agg #[.pointer (some ⟨9, 76, none⟩), .pointer (some a), .int .u64 150])
  rw [e1]
  simp only [Sem.run_bind, parts76, Result.andThen, e2]
  simp [ReflectliteValue.isNil, loadVar, isAgg, underlying, Tryz.underlying76, ha, Result.andThen]
theorem elemV76 (a p : Addr) (W : World) (ha : W.cell? a = some (.pointer (some p))) :
    (ReflectliteValue.method (ReflectliteValue.valueError "reflectlite.Value.Elem" 0) ReflectliteValue.elem #[.agg #[.pointer (some ⟨9, 76, none⟩), .pointer (some a), .int .u64 150]]).run Tryz.prog W
      = .ok (.agg #[.pointer (some ⟨9, 73, none⟩), .pointer (some p), .int .u64 409]) W := by
  obtain ⟨k, e1, e2⟩ := meth (ReflectliteValue.valueError "reflectlite.Value.Elem" 0) ReflectliteValue.elem (.agg #[.pointer (some ⟨9, 76, none⟩), .pointer (some a), .int .u64 150])
  rw [e1]
  simp only [Sem.run_bind, parts76, Result.andThen, e2]
  simp [ReflectliteValue.elem, loadVar, isAgg, underlying, Tryz.underlying76, ha, Result.andThen, elemOf76, mk73]
theorem set60 (ta b : Addr) (c : Int) (old : Value) (W : World) (hb : W.cell? b = some (.int .i64 c)) (ht : W.cell? ta = some old) (hf : W.frozen? ta = false) :
    (ReflectliteValue.set #[.agg #[.pointer (some ⟨9, 60, none⟩), .pointer (some ta), .int .u64 390], .agg #[.pointer (some ⟨9, 60, none⟩), .pointer (some b), .int .u64 134]]).run Tryz.prog W
      = .ok (.tuple #[]) (W.setCell ta (.int .i64 c)) := by
  obtain ⟨k, e1, e2⟩ := set_by60 (.agg #[.pointer (some ⟨9, 60, none⟩), .pointer (some ta), .int .u64 390]) (.agg #[.pointer (some ⟨9, 60, none⟩), .pointer (some b), .int .u64 134])
  obtain ⟨m, e3, e4⟩ := e2 ta b
  rw [e1]
  simp only [Sem.run_bind, parts60a, parts60, Result.andThen, e3, e4, direct60]
  simp [loadVar, isAgg, underlying, Tryz.underlying60, hb, Result.andThen, direct60, storeVar, Value.cells, storeCells, Addr.add]
  rw [run_store Tryz.prog W ta _ _ (by rfl)]
  simp [ht, hf]
theorem set73 (tb bb : Nat) (n : Int) (v o0 o1 : Value) (W : World) (hb0 : W.cell? ⟨bb, 0, none⟩ = some (.int .i64 n)) (hb1 : W.cell? ⟨bb, 1, none⟩ = some (.iface 60 v)) (ht0 : W.cell? ⟨tb, 0, none⟩ = some o0) (hf0 : W.frozen? ⟨tb, 0, none⟩ = false) (ht1 : W.cell? ⟨tb, 1, none⟩ = some o1) (hf1 : W.frozen? ⟨tb, 1, none⟩ = false) :
    (ReflectliteValue.set #[.agg #[.pointer (some ⟨9, 73, none⟩), .pointer (some ⟨tb, 0, none⟩), .int .u64 409], .agg #[.pointer (some ⟨9, 73, none⟩), .pointer (some ⟨bb, 0, none⟩), .int .u64 153]]).run Tryz.prog W
      = .ok (.tuple #[]) ((W.setCell ⟨tb, 0, none⟩ (.int .i64 n)).setCell ⟨tb, 1, none⟩ (.iface 60 v)) := by
  obtain ⟨k, e1, e2⟩ := set_by73 (.agg #[.pointer (some ⟨9, 73, none⟩), .pointer (some ⟨tb, 0, none⟩), .int .u64 409]) (.agg #[.pointer (some ⟨9, 73, none⟩), .pointer (some ⟨bb, 0, none⟩), .int .u64 153])
  obtain ⟨m, e3, e4⟩ := e2 ⟨tb, 0, none⟩ ⟨bb, 0, none⟩
  have hl : (loadVar 73 ⟨bb, 0, none⟩).run Tryz.prog W = .ok (.agg #[.int .i64 n, .iface 60 v]) W := by
    simp [loadVar, go_sem, Tryz.isAgg73, Tryz.sizeOf73, hb0, hb1, Addr.add, loadCells]
  have hst : (storeVar 73 ⟨tb, 0, none⟩ (.agg #[.int .i64 n, .iface 60 v])).run Tryz.prog W = .ok () ((W.setCell ⟨tb, 0, none⟩ (.int .i64 n)).setCell ⟨tb, 1, none⟩ (.iface 60 v)) := by
    simp [storeVar, go_sem, Tryz.isAgg73, Tryz.sizeOf73, Value.cells, storeCells, Addr.add, ht0, hf0, ht1, hf1]
  rw [e1]
  simp only [Sem.run_bind, parts73a, parts73, Result.andThen, e3, hl, direct73, e4, hst]
  rfl
end As

end Go.Proofs.YthjggjnkhhoigaaGreatDoor
