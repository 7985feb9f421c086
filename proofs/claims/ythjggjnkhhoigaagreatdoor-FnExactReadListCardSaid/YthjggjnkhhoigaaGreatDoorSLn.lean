/-
  A line read by the model: its contract.
-/
import Derived.Test.YthjggjnkhhoigaaGreatDoorLnR
import Derived.Test.YthjggjnkhhoigaaGreatDoorITm
import Derived.Test.YthjggjnkhhoigaaGreatDoorSRd
import Derived.Test.YthjggjnkhhoigaaGreatDoorJn
import Derived.Test.YthjggjnkhhoigaaGreatDoorTrk
import Derived.Deep.RegionHeld3
namespace Go.Proofs.YthjggjnkhhoigaaGreatDoor
open Go.RowKit
set_option linter.unusedVariables false
set_option linter.unusedSimpArgs false

/-- what a line is told as, in memory -/
def SlP (x : Int × Kl) (w : World) (e : Ending) (w' : World) : Prop := e = .returned (.tuple #[.agg #[.int .i64 x.2.1, .int .i64 x.2.2.1, .int .i64 x.2.2.2], .int .i64 x.1]) ∧ Below w.heap.size w w'
theorem words_leS (l : List UInt8) : ∀ x ∈ wordsL l, x.length ≤ l.length := by
  induction l with
  | nil => intro x hx; simp [wordsL, stW] at hx; subst hx; simp
  | cons b l ih =>
    intro x hx
    by_cases h : b = 32
    · subst h
      rw [wordsL_blank] at hx
      rcases List.mem_cons.1 hx with rfl | hx
      · simp
      · have := ih x hx; simp; omega
    · rw [wordsL_char h] at hx
      obtain ⟨y, z, e⟩ := wordsL_ne l
      rw [e] at hx ih
      simp only [glue] at hx
      rcases List.mem_cons.1 hx with rfl | hx
      · have := ih y (by simp); simp; omega
      · have := ih x (by simp [hx]); simp; omega
theorem row_slice {w : World} {B : Nat} {v : Value} {k : Nat} {xs : List Value} (h : w.ownsRow B 9 1 v k xs) (h0 : k ≠ 0) : ∃ g cap, v = .slice (some ⟨g, 0, none⟩) k cap ∧ B ≤ g ∧ ∀ j u, xs[j]? = some u → w.cell? ⟨g, j, none⟩ = some u := by
  rcases Joins.ownsRow_forms h with ⟨rfl, hz⟩ | ⟨g, cp, rfl⟩
  · exact absurd hz h0
  · have hc := h.cells (g := g) rfl
    exact ⟨g, cp, rfl, (h.lt g rfl).1, fun j u hu => by have := hc j u hu; rw [Addr.add_lit, Nat.zero_add] at this; exact this⟩
theorem row_len {w : World} {B : Nat} {v : Value} {k : Nat} {xs : List Value} (h : w.ownsRow B 9 1 v k xs) : ∃ a cap, v = .slice a k cap := by
  rcases Joins.ownsRow_forms h with ⟨rfl, hz⟩ | ⟨g, cp, rfl⟩
  · subst hz; exact ⟨none, 0, rfl⟩
  · exact ⟨_, _, rfl⟩
theorem below_ge {B : Nat} {w w1 : World} (h : Below B w w1) (o : Obj) (hB : B ≤ w.heap.size) : Below B w (w1.alloc o) := h.alloc (Nat.le_trans hB h.size) o

theorem put3 {X : World} {q : Nat} {t : TypeId} {a0 a1 a2 v0 v1 v2 : Value} (h : X.heap[q]? = some (.cells #[a0, a1, a2] t (0, 0))) :
    (((X.setCell ⟨q, 0, none⟩ v0).setCell ⟨q, 1, none⟩ v1).setCell ⟨q, 2, none⟩ v2).heap[q]? = some (.cells #[v0, v1, v2] t (0, 0)) := by
  simp [World.setCell, h, Array.getElem?_modify]
theorem set3_belowB {w X : World} {B q : Nat} {v0 v1 v2 : Value} (hb : Below B w X) (h : B ≤ q) :
    Below B w (((X.setCell ⟨q, 0, none⟩ v0).setCell ⟨q, 1, none⟩ v1).setCell ⟨q, 2, none⟩ v2) :=
  ((hb.setCell (p := ⟨q, 0, none⟩) h _).setCell (p := ⟨q, 1, none⟩) h _).setCell (p := ⟨q, 2, none⟩) h _

set_option maxRecDepth 100000 in
set_option maxHeartbeats 2000000 in
theorem sline_4 (n d : Int) (dr : Bool) (s : ByteArray) (no : Int) (tv : Value) (en : Int) (w : World) (hs : s.size ≤ 20000) (hg : ¬ goodW (wordsL s.data.toList)) :
    Calls Tryz.prog 12 #[.agg #[.int .i64 n, .int .i64 d, .bool dr], .string s, .int .i64 no, tv, .int .i64 en] w (SlP (4, (0, 0, 0)) w) := by
  have ka := hide (((Below.refl w.heap.size w).alloc (Nat.le_refl _) (.cells #[.int .i64 n, .int .i64 d, .bool dr] 29)).alloc (by simp) (.cells #[.int .i64 0, .int .i64 0, .int .i64 0] 37))
  have b10 : ((w.alloc (.cells #[.int .i64 n, .int .i64 d, .bool dr] 29)).alloc (.cells #[.int .i64 0, .int .i64 0, .int .i64 0] 37)).heap[w.heap.size + 1]? = some (.cells #[.int .i64 0, .int .i64 0, .int .i64 0] 37 (0, 0)) := by
    have := alloc_new (w.alloc (.cells #[.int .i64 n, .int .i64 d, .bool dr] 29)) (.cells #[.int .i64 0, .int .i64 0, .int .i64 0] 37)
    simpa using this
  obtain ⟨ws, hws⟩ : ∃ ws, wordsL s.data.toList = ws := ⟨_, rfl⟩
  have cW := hide (fun w => swords_any s w hs)
  have hwl : ws.length ≤ 20001 := by
    rw [← hws, wordsL_len]
    have := List.count_le_length (a := (32 : UInt8)) (l := s.data.toList)
    rw [← Lib.size_eq] at this
    omega
  rw [hws] at hg cW
  have hg' := hide hg
  clear hg hws
  go_enter Tryz.func12, Tryz.ntmps12
  go_wp2_with fail
  generalize hQ0 : w.heap.size = Q0 at *
  generalize hQ1 : Q0 + 1 = Q1 at *
  generalize (w.alloc (.cells #[.int .i64 n, .int .i64 d, .bool dr] 29)).alloc (.cells #[.int .i64 0, .int .i64 0, .int .i64 0] 37) = w1 at *
  refine (unhide cW w1).mono ?_
  rintro e w2 ⟨v, rfl, hrow, k2⟩
  have hz1 : Q1 < w1.heap.size := (Array.getElem?_eq_some_iff.1 b10).1
  have kb2 := (unhide ka).trans (k2.mono (by omega))
  have kb3 := hide (below_ge kb2 (.cells #[.int .i64 0, .int .i64 0, .int .i64 0] 37) (by omega))
  have ky := (Below.refl w2.heap.size w2).alloc (Nat.le_refl _) (.cells #[.int .i64 0, .int .i64 0, .int .i64 0] 37)
  have c10 := blk_below (blk_below b10 k2) ky
  have c13 := alloc_new w2 (.cells #[.int .i64 0, .int .i64 0, .int .i64 0] 37)
  by_cases h7 : ws.length = 7
  · rw [h7] at hrow
    obtain ⟨g, cap, rfl, hgB, hcell⟩ := row_slice hrow (by omega)
    have hgl : g < w2.heap.size := (hrow.lt g rfl).2
    have hcl := hide (fun j u (h : (ws.map sW)[j]? = some u) => cell_later ky (hcell j u h))
    obtain ⟨x0, x1, x2⟩ := blk3 c10
    obtain ⟨y0, y1, y2⟩ := blk3 c13
    have f0 : (w2.alloc (.cells #[.int .i64 0, .int .i64 0, .int .i64 0] 37)).frozen? ⟨Q1, 0, none⟩ = false := Lib.frozen_of_heap c10 _
    have f1 : (w2.alloc (.cells #[.int .i64 0, .int .i64 0, .int .i64 0] 37)).frozen? ⟨Q1, 1, none⟩ = false := Lib.frozen_of_heap c10 _
    have f2 : (w2.alloc (.cells #[.int .i64 0, .int .i64 0, .int .i64 0] 37)).frozen? ⟨Q1, 2, none⟩ = false := Lib.frozen_of_heap c10 _
    have h7' := hide h7
    clear ky hrow cW k2 kb2 hcell h7 hwl
    go_wp2_with fail
    generalize w2.alloc (.cells #[.int .i64 0, .int .i64 0, .int .i64 0] 37) = w3 at *
    generalize w2.heap.size = Q3 at *
    go_loopw [14] (fun t wr => ∃ k : Nat, k ≤ 7 ∧ t = .int .i64 k ∧ Hid (∀ x ∈ ws.take k, x ≠ []) ∧ wr = w3) (fun t _ => 7 - (intOf t).toNat)
    case atStart => exact ⟨0, by omega, rfl, hide (by simp), rfl⟩
    case round =>
      obtain ⟨k, hk, rfl, hne, rfl⟩ := hrel
      by_cases hlt : k < 7
      · have q1 : decide ((k : Int) < 7) = true := by simp; omega
        obtain ⟨x, hx⟩ : ∃ x, ws[k]? = some x := ⟨_, List.getElem?_eq_getElem (by have := unhide h7'; omega)⟩
        obtain ⟨X, hX⟩ : ∃ X : ByteArray, (⟨x.toArray⟩ : ByteArray) = X := ⟨_, rfl⟩
        have hck : wr.cell? ⟨g, k, none⟩ = some (.string X) := by rw [← hX]; exact unhide hcl k _ (by rw [List.getElem?_map, hx]; rfl)
        by_cases he : x = []
        · have hem : X.toList.isEmpty = true := by rw [← hX, toList_mk, he]; rfl
          clear hX hx
          go_wp2
          have P9 := put3 (v0 := .int .i64 0) (v1 := .int .i64 0) (v2 := .int .i64 0) c10
          have B9 := set3_belowB (v0 := .int .i64 0) (v1 := .int .i64 0) (v2 := .int .i64 0) (unhide kb3) (show Q0 ≤ Q1 by omega)
          clear x0 x1 x2 y0 y1 y2 f0 f1 f2
          generalize ((wr.setCell ⟨Q1, 0, none⟩ (.int .i64 0)).setCell ⟨Q1, 1, none⟩ (.int .i64 0)).setCell ⟨Q1, 2, none⟩ (.int .i64 0) = W9 at *
          obtain ⟨o0, o1, o2⟩ := blk3 P9
          refine bodyPost_ret (v := .tuple #[.agg #[.int .i64 0, .int .i64 0, .int .i64 0], .int .i64 4]) (by simp [results, Tryz.results12, go_sem, o0, o1, o2]) rfl ?_
          exact ⟨rfl, by rw [hQ0]; exact B9⟩
        · have hem : X.toList.isEmpty = false := by rw [← hX, toList_mk]; cases x; exact absurd rfl he; rfl
          have hne' := hide (show ∀ y ∈ ws.take (k + 1), y ≠ [] from by
            intro y hy
            rw [List.take_add_one, hx] at hy
            rcases List.mem_append.1 hy with hy | hy
            · exact unhide hne y hy
            · simp at hy; rw [hy]; exact he)
          clear hX hx
          go_wp2
          go_roundw
          case rel => exact ⟨k + 1, by omega, by go_num, hne', by first | rfl | trivial⟩
          case measure => simp [intOf]; omega
      · obtain rfl : k = 7 := by omega
        exfalso
        refine unhide hg' ⟨unhide h7', fun x hx => unhide hne x ?_⟩
        rw [List.take_of_length_le (by have := unhide h7'; omega)]
        exact hx
  · obtain ⟨av, cv, rfl⟩ := row_len hrow
    have q1 : ((ws.length : Int) != 7) = true := by simp; omega
    obtain ⟨x0, x1, x2⟩ := blk3 c10
    obtain ⟨y0, y1, y2⟩ := blk3 c13
    have f0 : (w2.alloc (.cells #[.int .i64 0, .int .i64 0, .int .i64 0] 37)).frozen? ⟨Q1, 0, none⟩ = false := Lib.frozen_of_heap c10 _
    have f1 : (w2.alloc (.cells #[.int .i64 0, .int .i64 0, .int .i64 0] 37)).frozen? ⟨Q1, 1, none⟩ = false := Lib.frozen_of_heap c10 _
    have f2 : (w2.alloc (.cells #[.int .i64 0, .int .i64 0, .int .i64 0] 37)).frozen? ⟨Q1, 2, none⟩ = false := Lib.frozen_of_heap c10 _
    clear ky hrow cW k2 kb2
    go_wp2
    have P9 := put3 (v0 := .int .i64 0) (v1 := .int .i64 0) (v2 := .int .i64 0) c10
    have B9 := set3_belowB (v0 := .int .i64 0) (v1 := .int .i64 0) (v2 := .int .i64 0) (unhide kb3) (show Q0 ≤ Q1 by omega)
    clear x0 x1 x2 y0 y1 y2 f0 f1 f2
    generalize (((w2.alloc (.cells #[.int .i64 0, .int .i64 0, .int .i64 0] 37)).setCell ⟨Q1, 0, none⟩ (.int .i64 0)).setCell ⟨Q1, 1, none⟩ (.int .i64 0)).setCell ⟨Q1, 2, none⟩ (.int .i64 0) = W9 at *
    obtain ⟨o0, o1, o2⟩ := blk3 P9
    refine bodyPost_ret (v := .tuple #[.agg #[.int .i64 0, .int .i64 0, .int .i64 0], .int .i64 4]) (by simp [results, Tryz.results12, go_sem, o0, o1, o2]) rfl ?_
    exact ⟨rfl, by rw [hQ0]; exact B9⟩
end Go.Proofs.YthjggjnkhhoigaaGreatDoor
