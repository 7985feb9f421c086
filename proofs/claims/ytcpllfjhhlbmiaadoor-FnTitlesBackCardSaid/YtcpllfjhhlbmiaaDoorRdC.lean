/-
  Two times that are read: the contract of the program; nothing that was there is written.
-/
import Derived.Test.YtcpllfjhhlbmiaaDoorRdB
import Derived.Test.YtcpllfjhhlbmiaaDoorShelfC
namespace Go.Proofs.YtcpllfjhhlbmiaaDoor
open Go.RowKit
set_option linter.unusedVariables false
set_option linter.unusedSimpArgs false

/-- two times as the program reads them -/
def toP (y : List UInt8) : Int × Int × Bool := ((mo (Lib.cut y arw).1).1, (mo (Lib.cut y arw).2.1).1, (mo (Lib.cut y arw).1).2 && (mo (Lib.cut y arw).2.1).2)
theorem toP_some {y : List UInt8} {a b : Nat} (h : tms y = some (a, b)) : toP y = ((a : Int), (b : Int), true) := by
  have hc := cut_arw y
  rw [h] at hc
  unfold toP mo
  cases h1 : tm (Lib.cut y arw).1 with
  | none => rw [h1] at hc; simp at hc
  | some a' =>
    cases h2 : tm (Lib.cut y arw).2.1 with
    | none => rw [h1, h2] at hc; simp at hc
    | some b' =>
      rw [h1, h2] at hc
      simp only [Option.some.injEq, Prod.mk.injEq] at hc
      obtain ⟨rfl, rfl⟩ := hc
      rfl
theorem toP_none {y : List UInt8} (h : tms y = none) : (toP y).2.2 = false := by
  have hc := cut_arw y
  rw [h] at hc
  unfold toP mo
  cases h1 : tm (Lib.cut y arw).1 with
  | none => rfl
  | some a' =>
    cases h2 : tm (Lib.cut y arw).2.1 with
    | none => rfl
    | some b' => rw [h1, h2] at hc; simp at hc
theorem put3 {X : World} {q : Nat} {t : TypeId} {a0 a1 a2 v0 v1 v2 : Value} (h : X.heap[q]? = some (.cells #[a0, a1, a2] t (0, 0))) : (((X.setCell ⟨q, 0, none⟩ v0).setCell ⟨q, 1, none⟩ v1).setCell ⟨q, 2, none⟩ v2).heap[q]? = some (.cells #[v0, v1, v2] t (0, 0)) := by
  simp [World.setCell, h, Array.getElem?_modify]
theorem set3 {w X : World} {B q : Nat} {v0 v1 v2 : Value} (hb : Below B w X) (h : B ≤ q) : Below B w (((X.setCell ⟨q, 0, none⟩ v0).setCell ⟨q, 1, none⟩ v1).setCell ⟨q, 2, none⟩ v2) := ((hb.setCell (p := ⟨q, 0, none⟩) h _).setCell (p := ⟨q, 1, none⟩) h _).setCell (p := ⟨q, 2, none⟩) h _
theorem cut_len (y s : List UInt8) : (Lib.cut y s).1.length ≤ y.length ∧ (Lib.cut y s).2.1.length ≤ y.length := by
  unfold Lib.cut
  split
  · simp; omega
  · simp

set_option maxRecDepth 100000 in
set_option maxHeartbeats 3200000 in
theorem itm_any (s : ByteArray) (y : List UInt8) (a b : Int) (ok : Bool) (w : World) (hs : s.size ≤ 1048576) (hy : s.data.toList = y) (hM : MaxL w) (ht : toP y = (a, b, ok)) :
    Calls Tryd.prog 52 #[.string s] w fun e w' => e = .returned (.tuple #[.agg #[.int .i64 a, .int .i64 b, .string ⟨#[]⟩], .bool ok]) ∧ Below w.heap.size w w' := by
  have A1 := hide ((Below.refl w.heap.size w).alloc (Nat.le_refl _) (.cells #[.int .i64 0, .int .i64 0, .string ⟨#[]⟩] 32))
  have W1 := hide (alloc_new w (.cells #[.int .i64 0, .int .i64 0, .string ⟨#[]⟩] 32))
  obtain ⟨mm, hmm⟩ := hM.below (unhide A1)
  have cC := hide (Tryd.strings_Cut s ⟨#[32, 45, 45, 62, 32]⟩ mm _ (by omega) hmm)
  rw [hy, show (⟨#[32, 45, 45, 62, 32]⟩ : ByteArray).data.toList = arw from rfl] at cC
  obtain ⟨hl1, hl2⟩ := cut_len y arw
  have hyl : y.length ≤ 1048576 := by rw [← hy, ← Lib.size_eq]; exact hs
  unfold toP at ht
  obtain ⟨f, hf⟩ : ∃ f, (Lib.cut y arw).1 = f := ⟨_, rfl⟩
  obtain ⟨g, hg⟩ : ∃ g, (Lib.cut y arw).2.1 = g := ⟨_, rfl⟩
  obtain ⟨fd, hfd⟩ : ∃ d, (Lib.cut y arw).2.2 = d := ⟨_, rfl⟩
  rw [hf, hg, hfd] at cC
  rw [hf] at hl1
  rw [hg] at hl2
  rw [hf, hg] at ht
  obtain ⟨sf, hsf⟩ : ∃ z, (⟨f.toArray⟩ : ByteArray) = z := ⟨_, rfl⟩
  obtain ⟨sg, hsg⟩ : ∃ z, (⟨g.toArray⟩ : ByteArray) = z := ⟨_, rfl⟩
  rw [hsf, hsg] at cC
  obtain ⟨m1, k1, h1⟩ : ∃ m k, mo f = (m, k) := ⟨_, _, rfl⟩
  obtain ⟨m2, k2, h2⟩ : ∃ m k, mo g = (m, k) := ⟨_, _, rfl⟩
  rw [h1, h2] at ht
  simp only [Prod.mk.injEq] at ht
  obtain ⟨rfl, rfl, rfl⟩ := ht
  have c1 := hide (fun w => imo_any sf f m1 k1 w (by rw [Lib.size_eq, ← hsf]; simp; omega) (by rw [← hsf]) h1)
  have c2 := hide (fun w => imo_any sg g m2 k2 w (by rw [Lib.size_eq, ← hsg]; simp; omega) (by rw [← hsg]) h2)
  clear hf hg hfd hsf hsg h1 h2 hmm hM hy hl1 hl2
  go_enter Tryd.func52, Tryd.ntmps52
  go_wp2_with fail
  refine (unhide cC).mono ?_
  rintro e w2 ⟨rfl, n2, hw2⟩
  have B2 := hide (show Below w.heap.size w w2 by rw [hw2]; exact below_drewN (unhide A1) n2)
  have V2 : Hid (w2.heap[w.heap.size]? = some (.cells #[.int .i64 0, .int .i64 0, .string ⟨#[]⟩] 32 (0, 0))) := hide (by rw [hw2]; exact unhide W1)
  clear hw2 cC A1 W1
  go_wp2_with fail
  refine (unhide c1 _).mono ?_
  rintro e w3 ⟨rfl, kb⟩
  have B3 := hide (laterB (unhide B2) kb)
  have V3 := hide (blk_below (unhide V2) kb)
  clear kb B2 V2 c1
  go_wp2_with fail
  refine (unhide c2 _).mono ?_
  rintro e w4 ⟨rfl, kb⟩
  have B4 := hide (laterB (unhide B3) kb)
  have V4 := blk_below (unhide V3) kb
  obtain ⟨c0, c1, c2'⟩ := blk3 V4
  have f0 := Lib.frozen_of_heap V4 0
  have f1 := Lib.frozen_of_heap V4 1
  have f2 := Lib.frozen_of_heap V4 2
  clear kb B3 V3 c2
  have P9 := hide (put3 (v0 := .int .i64 m1) (v1 := .int .i64 m2) (v2 := .string ⟨#[]⟩) V4)
  have B9 := hide (set3 (v0 := .int .i64 m1) (v1 := .int .i64 m2) (v2 := .string ⟨#[]⟩) (unhide B4) (Nat.le_refl w.heap.size))
  clear B4 V4
  cases k1
  · go_wp2_with fail
    generalize ((w4.setCell ⟨w.heap.size, 0, none⟩ (.int .i64 m1)).setCell ⟨w.heap.size, 1, none⟩ (.int .i64 m2)).setCell ⟨w.heap.size, 2, none⟩ (.string ⟨#[]⟩) = W9 at *
    clear c0 c1 c2' f0 f1 f2
    obtain ⟨c0, c1, c2⟩ := blk3 (unhide P9)
    exact bodyPost_ret (v := .tuple #[.agg #[.int .i64 m1, .int .i64 m2, .string ⟨#[]⟩], .bool false]) (by simp [results, Tryd.results52, go_sem, c0, c1, c2]) rfl ⟨by simp, unhide B9⟩
  · go_wp2_with fail
    generalize ((w4.setCell ⟨w.heap.size, 0, none⟩ (.int .i64 m1)).setCell ⟨w.heap.size, 1, none⟩ (.int .i64 m2)).setCell ⟨w.heap.size, 2, none⟩ (.string ⟨#[]⟩) = W9 at *
    clear c0 c1 c2' f0 f1 f2
    obtain ⟨c0, c1, c2⟩ := blk3 (unhide P9)
    exact bodyPost_ret (v := .tuple #[.agg #[.int .i64 m1, .int .i64 m2, .string ⟨#[]⟩], .bool k2]) (by simp [results, Tryd.results52, go_sem, c0, c1, c2]) rfl ⟨by simp, unhide B9⟩

end Go.Proofs.YtcpllfjhhlbmiaaDoor
