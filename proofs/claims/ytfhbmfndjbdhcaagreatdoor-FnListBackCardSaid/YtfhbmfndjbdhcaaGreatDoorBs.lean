/-
  Small facts on strings, rows of bytes and blocks in memory; no conditions.
-/
import Derived.Test.YtfhbmfndjbdhcaaGreatDoorLrQ
import Derived.Test.YtfhbmfndjbdhcaaGreatDoorIAny
import Derived.Test.YtfhbmfndjbdhcaaGreatDoorShelf
import Derived.Test.YtfhbmfndjbdhcaaGreatDoorSWd
import Derived.Laws.Concat
import Derived.Laws.BytesArg
import Derived.Lib.SmallJoins
import Derived.Lib.OthersKept
namespace Go.Proofs.YtfhbmfndjbdhcaaGreatDoor
open Go.RowKit
set_option linter.unusedVariables false
set_option linter.unusedSimpArgs false

theorem infoB : (Tryz.prog.info? 5).map (fun i => (i.zero, i.size, i.bytes)) = some (some (.int .u8 0), 1, 1) := by kernel_rfl

theorem toList_nil {l : List UInt8} {s : ByteArray} (h : (⟨l.toArray⟩ : ByteArray) = s) (hs : s.toList = []) : l = [] := by rw [← h, toList_mk] at hs; exact hs
theorem toList_ne {l : List UInt8} {s : ByteArray} (h : (⟨l.toArray⟩ : ByteArray) = s) (hs : ¬ s.toList = []) : l ≠ [] := by rw [← h, toList_mk] at hs; exact hs
theorem mk_app (a b : List UInt8) : (⟨a.toArray⟩ : ByteArray) ++ ⟨b.toArray⟩ = ⟨(a ++ b).toArray⟩ := ByteArray.mk_append_mk a b
theorem str_add {P : Program} {a b c : List UInt8} {A B C : ByteArray} (hA : (⟨a.toArray⟩ : ByteArray) = A) (hB : (⟨b.toArray⟩ : ByteArray) = B) (hC : (⟨c.toArray⟩ : ByteArray) = C) (h : a.length + b.length ≤ 1000000) (hc : c = a ++ b := by rfl) (w : World) :
    (Op.stringOp .add A B).run P w = .ok (.string C) w := by
  subst hA hB hC hc
  have h9 : (⟨a.toArray⟩ : ByteArray).size + (⟨b.toArray⟩ : ByteArray).size ≤ 9223372036854775807 := by show a.toArray.size + b.toArray.size ≤ _; simp; omega
  rw [← mk_app]
  exact run_string_add_sum (P := P) w ⟨a.toArray⟩ ⟨b.toArray⟩ h9
theorem own_kind {w : World} {B : Nat} {e : TypeId} {v : Value} {n : Nat} {xs : List Value} (h : w.ownsRow B e 1 v n xs) : ∀ g, v.ownBlock = some g → ∃ c fz, w.heap[g]? = some (.cells c e fz) := by
  intro g hg
  rcases h.2 with ⟨rfl, _⟩ | ⟨g', cap, cur, rfl, _, hgg, _⟩
  · simp [Value.ownBlock] at hg
  · simp [Value.ownBlock] at hg
    subst hg
    exact ⟨cur, _, hgg⟩
theorem row_app {w : World} {B : Nat} {v : Value} {L l : List UInt8} {s : ByteArray} (hs : (⟨l.toArray⟩ : ByteArray) = s) (h : w.ownsRow B 5 1 v (L.length + s.size) (L.map bv ++ Lib.strCells s)) : w.ownsRow B 5 1 v (L ++ l).length ((L ++ l).map bv) := by
  subst hs
  rw [List.length_append, List.map_append]
  exact h
theorem conv_own {w : World} {B : Nat} {v : Value} {L : List UInt8} (h : w.ownsRow B 5 1 v L.length (L.map bv)) : (convert 22 9 v).run Tryz.prog w = .ok (.string ⟨L.toArray⟩) w := by
  rcases Joins.ownsRow_forms h with ⟨rfl, h0⟩ | ⟨g, cp, rfl⟩
  · obtain rfl : L = [] := List.eq_nil_of_length_eq_zero h0
    exact run_convert_bytes_nil (P := Tryz.prog) w 22 5 Tryz.underlying22 Tryz.underlying5 0 0 9 Tryz.underlying9
  · have hcells := h.cells (g := g) rfl
    exact run_convert_bytes_back (P := Tryz.prog) w 22 9 5 ⟨g, 0, none⟩ cp _ Tryz.underlying22 Tryz.underlying5 Tryz.underlying9 (fun j hj => hcells j _ (by simp [bv, hj]))
theorem ownsRow_belowS {w w1 : World} {B n : Nat} {v : Value} {xs : List Value} (h : w.ownsRow B 5 1 v n xs) (hb : Below w.heap.size w w1) : w1.ownsRow B 5 1 v n xs := by
  have hg : w.grownBy w1 none := ⟨hb.os, hb.tape, hb.output, hb.size, fun k hk _ => hb.block k hk⟩
  refine h.kept hg ?_
  cases v.ownBlock with
  | none => exact .inl rfl
  | some k => exact .inr (by simp)
theorem alloc_new (w : World) (o : Obj) : (w.alloc o).heap[w.heap.size]? = some o := by rw [World.alloc]; simp
theorem blk_below {W W' : World} {b : Nat} {o : Obj} (h : W.heap[b]? = some o) (hb : Below W.heap.size W W') : W'.heap[b]? = some o := (hb.block b (Array.getElem?_eq_some_iff.1 h).1).trans h
theorem ownB_lit0 (w : World) {B : Nat} (hB : B ≤ w.heap.size) : (w.alloc (.cells #[] 5)).ownsRow B 5 1 (.slice (some ⟨w.heap.size, 0, none⟩) 0 0) 0 [] := by
  have h := World.ownsRow_lit (base := B) (e := 5) (size := 1) w #[] 0 hB (by unfold maxLen; omega) rfl
  exact h
theorem blk3 {X : World} {b : Nat} {t : TypeId} {v0 v1 v2 : Value} (h : X.heap[b]? = some (.cells #[v0, v1, v2] t (0, 0))) :
    X.cell? ⟨b, 0, none⟩ = some v0 ∧ X.cell? ⟨b, 1, none⟩ = some v1 ∧ X.cell? ⟨b, 2, none⟩ = some v2 := by
  refine ⟨?_, ?_, ?_⟩ <;> simp [World.cell?, h]

theorem okk_below {W W' : World} (h : Below W.heap.size W W') : Lib.OthersKept 5 none W W' := fun k o hk _ _ => (h.block k (Array.getElem?_eq_some_iff.1 hk).1).trans hk
theorem ownK_kept {w w' : World} {B g n c : Nat} {l : List Kl} (h : Own w B g n c l) (hk : Lib.OthersKept 5 none w w') : Own w' B g n c l := by
  obtain ⟨h1, h2⟩ := h
  refine ⟨h1, ?_⟩
  rcases h2 with h2 | ⟨g', cap', cur, hv, hB, hh, r⟩
  · exact Or.inl h2
  · exact Or.inr ⟨g', cap', cur, hv, hB, hk g' _ hh (by simp) (fun c fz e => by injection e with _ e _; cases e), r⟩

end Go.Proofs.YtfhbmfndjbdhcaaGreatDoor
