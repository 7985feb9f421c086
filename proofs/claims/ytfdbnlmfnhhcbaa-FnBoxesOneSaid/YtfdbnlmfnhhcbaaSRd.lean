/-
  Contract of the model's reader of boxes, by depth: what it keeps, which fault it notes, and that nothing else is written.
-/
import Derived.Test.YtfdbnlmfnhhcbaaIUp
namespace Go.Proofs.Ytfdbnlmfnhhcbaa
open Go.RowKit
set_option linter.unusedVariables false
set_option linter.unusedSimpArgs false

/-- the model's reader in block R over the slice src: it has read s, and noted the fault c at p -/
def SSt (w : World) (R B : Nat) (src : Value) (s : RS) (c p : Int) : Prop := ∃ v L, w.cell? ⟨R, 0, none⟩ = some src ∧ w.cell? ⟨R, 1, none⟩ = some v ∧ w.cell? ⟨R, 2, none⟩ = some (.int .i64 s.n) ∧ w.cell? ⟨R, 3, none⟩ = some (.int .i64 c) ∧ w.cell? ⟨R, 4, none⟩ = some (.int .i64 p) ∧
  (∀ i, w.frozen? ⟨R, i, none⟩ = false) ∧ OwnL w B v L ∧ L.map (·.1) = s.l ∧ R < w.heap.size ∧ B ≤ w.heap.size ∧ s.l.length ≤ 200 ∧ 0 ≤ s.n ∧ s.n ≤ 20000 ∧ Off R v L
def seg (zs : List Int) (f t : Nat) : List Int := (zs.take t).drop f
theorem seg_len {zs : List Int} {f t : Nat} (h1 : f ≤ t) (h2 : t ≤ zs.length) : (seg zs f t).length = t - f := by unfold seg; simp; omega
theorem seg_get {zs : List Int} {f t j : Nat} (h1 : f + j < t) (h2 : t ≤ zs.length) : (seg zs f t)[j]? = zs[f + j]? := by
  unfold seg; rw [List.getElem?_drop, List.getElem?_take, if_pos h1]
theorem seg_bd {zs : List Int} {f t : Nat} (h : ∀ z ∈ zs, 0 ≤ z ∧ z ≤ 255) : ∀ z ∈ seg zs f t, 0 ≤ z ∧ z ≤ 255 := fun z hz => h z (List.mem_of_mem_take (List.mem_of_mem_drop hz))
theorem seg_rest {zs : List Int} {f t m : Nat} (h : siz (seg zs f t) = ((m + 8 : Nat) : Int)) (h1 : f ≤ t) : rest (seg zs f t) = seg zs (f + (m + 8)) t := by
  unfold rest; rw [h]; unfold seg; rw [Int.toNat_natCast, List.drop_drop]
theorem seg_inner {zs : List Int} {f t m : Nat} (h : siz (seg zs f t) = ((m + 8 : Nat) : Int)) (h1 : f + (m + 8) ≤ t) : inner (seg zs f t) = seg zs (f + 8) (f + (m + 8)) := by
  unfold inner; rw [h]; unfold seg
  rw [Int.toNat_natCast, List.take_drop, List.drop_drop, List.take_take]
  congr 2
  omega
theorem siz_seg {zs : List Int} {f t : Nat} {z0 z1 z2 z3 : Int} (h : f + 8 ≤ t) (ht : t ≤ zs.length) (h0 : zs[f]? = some z0) (h1 : zs[f + 1]? = some z1) (h2 : zs[f + 2]? = some z2) (h3 : zs[f + 3]? = some z3) :
    siz (seg zs f t) = z0 * 16777216 + z1 * 65536 + z2 * 256 + z3 := by
  have e0 : (seg zs f t)[0]? = some z0 := by rw [seg_get (by omega) ht]; exact h0
  have e1 : (seg zs f t)[1]? = some z1 := by rw [seg_get (by omega) ht]; exact h1
  have e2 : (seg zs f t)[2]? = some z2 := by rw [seg_get (by omega) ht]; exact h2
  have e3 : (seg zs f t)[3]? = some z3 := by rw [seg_get (by omega) ht]; exact h3
  unfold siz
  rw [beL_take e3, beL_take e2, beL_take e1, beL_take e0]
  show (((0 * 256 + z0) * 256 + z1) * 256 + z2) * 256 + z3 = _
  omega
theorem kind_seg {zs : List Int} {f t : Nat} (h : f + 8 ≤ t) (ht : t ≤ zs.length) : kindOf (seg zs f t) = strOfNums ((zs.drop (f + 4)).take 4) := by
  unfold kindOf seg
  rw [List.drop_drop, List.drop_take, List.take_take]
  congr 2
  omega

/-- the contract of the model's reader at one depth -/
def SpC (dep : Int) : Prop := ∀ (n f t : Nat) (zs : List Int) (a : Option Addr) (cap Hh R B : Nat) (s : RS) (w : World), f ≤ t → t ≤ zs.length → zs.length ≤ 40000 → zs.length ≤ cap → cap ≤ 9223372036854775807 → t - f < n → Hh ≤ R → Hh ≤ B → Row false 0 Hh w a zs → SSt w R B (.slice a zs.length cap) s 0 0 →
  Calls Try.prog 16 #[.pointer (some ⟨R, 0, none⟩), .int .i64 f, .int .i64 t, .int .i64 dep] w fun e w' => e = .returned (.tuple #[]) ∧ SSt w' R B (.slice a zs.length cap) (rdAll n (seg zs f t) dep f s).1 ((rdAll n (seg zs f t) dep f s).2.getD (0, 0)).1 ((rdAll n (seg zs f t) dep f s).2.getD (0, 0)).2 ∧ Fr R B w w'
end Go.Proofs.Ytfdbnlmfnhhcbaa
