/-
  Plain facts on the reading of titles by the model, and what its memory holds meanwhile. There are no conditions.
-/
import Derived.Test.YtcpllfjhhlbmiaaDoorRdJ
import Derived.Test.YtcpllfjhhlbmiaaDoorRdH
import Derived.Lib.OwnKind
import Derived.BigQuiet
namespace Go.Proofs.YtcpllfjhhlbmiaaDoor
open Go.RowKit
set_option linter.unusedVariables false
set_option linter.unusedSimpArgs false

theorem cut_drop {L x r1 : List UInt8} {k : Nat} (h : cutN (L.drop k) = some (x, r1)) : r1 = L.drop (k + x.length + 1) ∧ k + x.length + 1 ≤ L.length ∧ x = (L.take (k + x.length)).drop k := by
  have h1 := cutN_parts h
  have h2 := cutN_len h
  rw [List.length_drop] at h2
  refine ⟨?_, by omega, ?_⟩
  · have h3 : (L.drop k).drop (x.length + 1) = (x ++ 10 :: r1).drop (x.length + 1) := by rw [h1]
    have h4 : (x ++ 10 :: r1).drop (x.length + 1) = r1 := by
      rw [List.drop_append, List.drop_of_length_le (l := x) (by omega), show x.length + 1 - x.length = 1 by omega]; rfl
    rw [h4, List.drop_drop] at h3
    rw [← h3]
    congr 1
  · have h3 := congrArg (List.take x.length) h1
    rw [List.take_drop, List.take_left] at h3
    exact h3.symm
theorem ln_some {L x r1 : List UInt8} {k : Nat} (h : cutN (L.drop k) = some (x, r1)) : lnP L k = (⟨x.toArray⟩, (k : Int) + x.length + 1, true) := by unfold lnP; rw [h]
theorem ln_none {L : List UInt8} {k : Nat} (h : cutN (L.drop k) = none) : lnP L k = (⟨#[]⟩, (k : Int), false) := by unfold lnP; rw [h]
theorem trm_nl (v : List UInt8) : trm (v ++ [10]) = v := by
  unfold trm Lib.trimSuffix Lib.hasSuffix
  simp
theorem trm_none : txOk (trm []) = false := by decide
theorem end_last {acc : List Kl} {p : Kl} (h : acc[acc.length - 1]? = some p) : endOf 0 acc = p.2.1 := by
  unfold endOf
  rw [List.getLast?_eq_getElem?, h]; rfl
theorem fault_of {L : List UInt8} {l acc : List Kl} {k n code : Int} (hl : ¬ 40000 < L.length) (hR : rdT L = (l, k, n)) (hE : rdF (L.length + 1) [] 0 L = (acc, code)) (hc : code ≠ 0) : l = [] ∧ k = code ∧ n = acc.length := by
  unfold rdT at hR
  rw [if_neg hl, hE] at hR
  simp only [if_neg hc, Prod.mk.injEq] at hR
  exact ⟨hR.1.symm, hR.2.1.symm, hR.2.2.symm⟩
theorem done_of {L : List UInt8} {l acc : List Kl} {k n : Int} (hl : ¬ 40000 < L.length) (hR : rdT L = (l, k, n)) (hE : rdF (L.length + 1) [] 0 L = (acc, 0)) : l = acc ∧ k = 0 ∧ n = 0 := by
  unfold rdT at hR
  rw [if_neg hl, hE] at hR
  simp only [if_true, Prod.mk.injEq] at hR
  exact ⟨hR.1.symm, hR.2.1.symm, hR.2.2.symm⟩
/-- the list under way, the answer's fault, the fault under way -/
structure Rm (w : World) (g c f : Nat) (acc : List Kl) (k n : Int) (W : World) : Prop where
  own : Own W (w.heap.size + 1) g acc.length c acc
  bel : Below w.heap.size w W
  res : W.heap[w.heap.size]? = some (.cells #[.int .i64 0, .int .i64 0] 28 (0, 0))
  flt : W.heap[f]? = some (.cells #[.int .i64 k, .int .i64 n] 28 (0, 0))
  nf : w.heap.size < f
theorem Rm.later {w W : World} {g c f : Nat} {acc : List Kl} {k n : Int} {Y : World} (h : Rm w g c f acc k n W) (hb : Below W.heap.size W Y) : Rm w g c f acc k n Y := ⟨ownsRow_below h.own hb, laterB h.bel hb, blk_below h.res hb, blk_below h.flt hb, h.nf⟩
theorem Rm.code {w W : World} {g c f : Nat} {acc : List Kl} {k n : Int} {k' : Int} (h : Rm w g c f acc k n W) : Rm w g c f acc k' n (W.setCell ⟨f, 0, none⟩ (.int .i64 k')) :=
  ⟨own_set h.own (own_ne h.own h.flt (by decide)), h.bel.setCell (p := ⟨f, 0, none⟩) (by have := h.nf; show w.heap.size ≤ f; omega) _, (heap_set_ne (by have := h.nf; omega)).trans h.res, by simp [World.setCell, h.flt, Array.getElem?_modify], h.nf⟩
theorem Rm.begin {w W : World} {g c : Nat} {acc : List Kl} {n : Int} (ho : Own W (w.heap.size + 1) g acc.length c acc) (hb : Below w.heap.size w W) (hr : W.heap[w.heap.size]? = some (.cells #[.int .i64 0, .int .i64 0] 28 (0, 0))) : Rm w g c W.heap.size acc 0 n (W.alloc (.cells #[.int .i64 0, .int .i64 n] 28)) :=
  ⟨ho.alloc _, hb.alloc hb.size _, blk_below hr ((Below.refl _ _).alloc (Nat.le_refl _) _), alloc_new _ _, lt_blk hr⟩
structure Rd (w : World) (g c f t : Nat) (acc : List Kl) (k n x y : Int) (s : ByteArray) (W : World) : Prop where
  rm : Rm w g c f acc k n W
  ttl : W.heap[t]? = some (.cells #[.int .i64 x, .int .i64 y, .string s] 32 (0, 0))
  nt : w.heap.size < t
  ne : t ≠ g
theorem Rd.later {w W : World} {g c f t : Nat} {acc : List Kl} {k n x y : Int} {s : ByteArray} {Y : World} (h : Rd w g c f t acc k n x y s W) (hb : Below W.heap.size W Y) : Rd w g c f t acc k n x y s Y := ⟨h.rm.later hb, blk_below h.ttl hb, h.nt, h.ne⟩
theorem ft_ne {W : World} {f t : Nat} {a b : Array Value} {p q : Nat × Nat} (hf : W.heap[f]? = some (.cells a 28 p)) (ht : W.heap[t]? = some (.cells b 32 q)) : f ≠ t := by
  intro e
  subst e
  rw [hf] at ht
  injection ht with ht
  injection ht with _ ht _
  exact absurd ht (by decide)
theorem Rd.code {w W : World} {g c f t : Nat} {acc : List Kl} {k n x y : Int} {s : ByteArray} {k' : Int} (h : Rd w g c f t acc k n x y s W) : Rd w g c f t acc k' n x y s (W.setCell ⟨f, 0, none⟩ (.int .i64 k')) :=
  ⟨h.rm.code, (heap_set_ne (ft_ne h.rm.flt h.ttl).symm).trans h.ttl, h.nt, h.ne⟩
theorem Rd.begin {w W : World} {g c f : Nat} {acc : List Kl} {k n : Int} (h : Rm w g c f acc k n W) : Rd w g c f W.heap.size acc k n 0 0 ⟨#[]⟩ (W.alloc (.cells #[.int .i64 0, .int .i64 0, .string ⟨#[]⟩] 32)) :=
  ⟨h.later ((Below.refl _ _).alloc (Nat.le_refl _) _), alloc_new _ _, lt_blk h.res, by have := own_lt h.own; omega⟩
theorem rm_set {w W : World} {g c f : Nat} {acc : List Kl} {k n : Int} {t i : Nat} {u x y z : Value} (h : Rm w g c f acc k n W) (ht : W.heap[t]? = some (.cells #[x, y, z] 32 (0, 0))) (hn : w.heap.size < t) (hg : t ≠ g) : Rm w g c f acc k n (W.setCell ⟨t, i, none⟩ u) := by
  have n1 : ∀ g', (Value.slice (some ⟨g, 0, none⟩) acc.length c).ownBlock = some g' → g' ≠ t := by
    intro g' h'; simp [Value.ownBlock] at h'; omega
  exact ⟨own_set h.own n1, h.bel.setCell (p := ⟨t, i, none⟩) (by show w.heap.size ≤ t; omega) _, (heap_set_ne (by omega)).trans h.res, (heap_set_ne (ft_ne h.flt ht)).trans h.flt, h.nf⟩
theorem Rd.fr {w W : World} {g c f t : Nat} {acc : List Kl} {k n x y : Int} {s : ByteArray} {x' : Int} (h : Rd w g c f t acc k n x y s W) : Rd w g c f t acc k n x' y s (W.setCell ⟨t, 0, none⟩ (.int .i64 x')) :=
  ⟨rm_set h.rm h.ttl h.nt h.ne, by simp [World.setCell, h.ttl, Array.getElem?_modify], h.nt, h.ne⟩
theorem Rd.to {w W : World} {g c f t : Nat} {acc : List Kl} {k n x y : Int} {s : ByteArray} {x' : Int} (h : Rd w g c f t acc k n x y s W) : Rd w g c f t acc k n x x' s (W.setCell ⟨t, 1, none⟩ (.int .i64 x')) :=
  ⟨rm_set h.rm h.ttl h.nt h.ne, by simp [World.setCell, h.ttl, Array.getElem?_modify], h.nt, h.ne⟩
theorem Rd.tx {w W : World} {g c f t : Nat} {acc : List Kl} {k n x y : Int} {s : ByteArray} {s' : ByteArray} (h : Rd w g c f t acc k n x y s W) : Rd w g c f t acc k n x y s' (W.setCell ⟨t, 2, none⟩ (.string s')) :=
  ⟨rm_set h.rm h.ttl h.nt h.ne, by simp [World.setCell, h.ttl, Array.getElem?_modify], h.nt, h.ne⟩
/-- the answer of a fault -/
structure Fd (w : World) (q : Nat) (k n : Int) (W : World) : Prop where
  own : Own W w.heap.size q 0 0 []
  bel : Below w.heap.size w W
  c0 : W.cell? ⟨w.heap.size, 0, none⟩ = some (.int .i64 k)
  c1 : W.cell? ⟨w.heap.size, 1, none⟩ = some (.int .i64 n)
theorem Rm.done {w W : World} {g c f : Nat} {acc : List Kl} {k n : Int} (h : Rm w g c f acc k n W) : Fd w W.heap.size k n (((W.setCell ⟨w.heap.size, 0, none⟩ (.int .i64 k)).setCell ⟨w.heap.size, 1, none⟩ (.int .i64 n)).alloc (.cells #[] 32)) := by
  have P := put2 (v0 := .int .i64 k) (v1 := .int .i64 n) h.res
  have B := set2 (v0 := .int .i64 k) (v1 := .int .i64 n) h.bel (Nat.le_refl _)
  have z : ((W.setCell ⟨w.heap.size, 0, none⟩ (.int .i64 k)).setCell ⟨w.heap.size, 1, none⟩ (.int .i64 n)).heap.size = W.heap.size := by simp [World.setCell]
  generalize ((W.setCell ⟨w.heap.size, 0, none⟩ (.int .i64 k)).setCell ⟨w.heap.size, 1, none⟩ (.int .i64 n)) = Y at *
  obtain ⟨c0, c1⟩ := blk2 (blk_below P ((Below.refl _ _).alloc (Nat.le_refl _) (.cells #[] 32)))
  exact ⟨z ▸ own_lit0 Y B.size, B.alloc B.size _, c0, c1⟩
theorem Fd.drew {w W : World} {q : Nat} {k n : Int} (h : Fd w q k n W) : Fd w q k n W.drew := ⟨own_heap rfl h.own, h.bel.drew, h.c0, h.c1⟩

end Go.Proofs.YtcpllfjhhlbmiaaDoor
