/-
  The program's words of a line: their contract.
-/
import Derived.Laws.Cover3
import Derived.Test.YtfhbmfndjbdhcaaGreatDoorBs
import Derived.Test.YtfhbmfndjbdhcaaGreatDoorLrQ
namespace Go.Proofs.YtfhbmfndjbdhcaaGreatDoor
open Go.RowKit
set_option linter.unusedVariables false
set_option linter.unusedSimpArgs false

theorem blk7 {X : World} {b : Nat} {t : TypeId} {v0 v1 v2 v3 v4 v5 v6 : Value} (h : X.heap[b]? = some (.cells #[v0, v1, v2, v3, v4, v5, v6] t (0, 0))) :
    X.cell? ⟨b, 0, none⟩ = some v0 ∧ X.cell? ⟨b, 1, none⟩ = some v1 ∧ X.cell? ⟨b, 2, none⟩ = some v2 ∧ X.cell? ⟨b, 3, none⟩ = some v3 ∧ X.cell? ⟨b, 4, none⟩ = some v4 ∧ X.cell? ⟨b, 5, none⟩ = some v5 ∧ X.cell? ⟨b, 6, none⟩ = some v6 := by
  refine ⟨?_, ?_, ?_, ?_, ?_, ?_, ?_⟩ <;> simp [World.cell?, h]
theorem blk7f {X : World} {b : Nat} {t : TypeId} {v0 v1 v2 v3 v4 v5 v6 : Value} (h : X.heap[b]? = some (.cells #[v0, v1, v2, v3, v4, v5, v6] t (0, 0))) :
    X.frozen? ⟨b, 0, none⟩ = false ∧ X.frozen? ⟨b, 1, none⟩ = false ∧ X.frozen? ⟨b, 2, none⟩ = false ∧ X.frozen? ⟨b, 3, none⟩ = false ∧ X.frozen? ⟨b, 4, none⟩ = false ∧ X.frozen? ⟨b, 5, none⟩ = false ∧ X.frozen? ⟨b, 6, none⟩ = false := by
  refine ⟨?_, ?_, ?_, ?_, ?_, ?_, ?_⟩ <;> exact Lib.frozen_of_heap h _
theorem put7 {X : World} {q : Nat} {t : TypeId} {a0 a1 a2 a3 a4 a5 a6 v0 v1 v2 v3 v4 v5 v6 : Value} (h : X.heap[q]? = some (.cells #[a0, a1, a2, a3, a4, a5, a6] t (0, 0))) :
    (((((((X.setCell ⟨q, 0, none⟩ v0).setCell ⟨q, 1, none⟩ v1).setCell ⟨q, 2, none⟩ v2).setCell ⟨q, 3, none⟩ v3).setCell ⟨q, 4, none⟩ v4).setCell ⟨q, 5, none⟩ v5).setCell ⟨q, 6, none⟩ v6).heap[q]? = some (.cells #[v0, v1, v2, v3, v4, v5, v6] t (0, 0)) := by
  simp [World.setCell, h, Array.getElem?_modify]
theorem set7_belowB {w X : World} {B q : Nat} {v0 v1 v2 v3 v4 v5 v6 : Value} (hb : Below B w X) (h : B ≤ q) :
    Below B w (((((((X.setCell ⟨q, 0, none⟩ v0).setCell ⟨q, 1, none⟩ v1).setCell ⟨q, 2, none⟩ v2).setCell ⟨q, 3, none⟩ v3).setCell ⟨q, 4, none⟩ v4).setCell ⟨q, 5, none⟩ v5).setCell ⟨q, 6, none⟩ v6) :=
  ((((((hb.setCell (p := ⟨q, 0, none⟩) h _).setCell (p := ⟨q, 1, none⟩) h _).setCell (p := ⟨q, 2, none⟩) h _).setCell (p := ⟨q, 3, none⟩) h _).setCell (p := ⟨q, 4, none⟩) h _).setCell (p := ⟨q, 5, none⟩) h _).setCell (p := ⟨q, 6, none⟩) h _
theorem glue_len (c : List UInt8) (l : List UInt8) : (glue c (wordsL l)).length = (wordsL l).length := by
  obtain ⟨x, y, h⟩ := wordsL_ne l
  rw [h]; rfl
theorem wordsL_len (l : List UInt8) : (wordsL l).length = l.count 32 + 1 := by
  induction l with
  | nil => rfl
  | cons b l ih =>
    by_cases h : b = 32
    · subst h; rw [wordsL_blank]; simp [ih]
    · rw [wordsL_char h, glue_len, ih, List.count_cons_of_ne (by simpa using h)]
theorem countB_blank (s : ByteArray) : Lib.countB s ⟨#[32]⟩ = s.data.toList.count 32 := Lib.count_one 32 s.data.toList
theorem split_cells (s : ByteArray) : (Lib.splitB ⟨#[32]⟩ 0 (Lib.countB s ⟨#[32]⟩) s).map Value.string = (wordsL s.data.toList).map sW := by
  have h := Lib.splitB_data ⟨#[32]⟩ 0 (Lib.countB s ⟨#[32]⟩) s
  have h2 := split_words s.data.toList (Lib.countB s ⟨#[32]⟩) (by rw [countB_blank]; exact Nat.le_refl _)
  rw [show ((⟨#[32]⟩ : ByteArray).data.toList) = [32] from rfl, h2] at h
  rw [← h, List.map_map]
  apply List.map_congr_left
  intro b _
  simp [Function.comp, sW, Lib.mk_data]
/-- of the first k none is empty -/
def nonW (l : List ByteArray) (k : Nat) : Prop := ∀ j X, j < k → l[j]? = some X → ¬ X.toList = []
theorem nonW_succ {l : List ByteArray} {k : Nat} {X : ByteArray} (h : nonW l k) (hX : l[k]? = some X) (hE : ¬ X.toList = []) : nonW l (k + 1) := fun j Y hj hY => by
  rcases Nat.lt_or_ge j k with h1 | h1
  · exact h j Y h1 hY
  · have : j = k := by omega
    subst this
    rw [hX] at hY
    injection hY with hY
    rw [← hY]; exact hE
/-- seven words, none of them empty -/
def goodW (ws : List (List UInt8)) : Prop := ws.length = 7 ∧ ∀ x ∈ ws, x ≠ []
instance (ws : List (List UInt8)) : Decidable (goodW ws) := by unfold goodW; infer_instance
/-- some whole number lies in the library's variable -/
def MaxL (w : World) : Prop := ∃ m, w.cell? ⟨1, 0, none⟩ = some (.int .i64 m)
theorem MaxL.below {w w' : World} (h : MaxL w) (hb : Below w.heap.size w w') : MaxL w' := by
  obtain ⟨m, hm⟩ := h; exact ⟨m, cell_later hb hm⟩
/-- what the words of a line are told as -/
def WdP (s : ByteArray) (w : World) (e : Ending) (w' : World) : Prop :=
  (goodW (wordsL s.data.toList) ∧ e = .returned (.tuple #[.agg ((wordsL s.data.toList).map sW).toArray, .nilIface]) ∧ Below w.heap.size w w') ∨
  (¬ goodW (wordsL s.data.toList) ∧ e = .returned (.tuple #[.agg #[.string ⟨#[]⟩, .string ⟨#[]⟩, .string ⟨#[]⟩, .string ⟨#[]⟩, .string ⟨#[]⟩, .string ⟨#[]⟩, .string ⟨#[]⟩], .iface 92 (.int .i64 4)]) ∧ Below w.heap.size w w')

set_option maxRecDepth 100000 in
set_option maxHeartbeats 1000000 in
theorem iwords_any (s : ByteArray) (w : World) (hs : s.size ≤ 20000) (hM : MaxL w) : Calls Tryz.prog 84 #[.string s] w (WdP s w) := by
  obtain ⟨ws, hws⟩ : ∃ ws, wordsL s.data.toList = ws := ⟨_, rfl⟩
  have hn : Lib.countB s ⟨#[32]⟩ + 1 = ws.length := by rw [countB_blank, ← hws, wordsL_len]
  have hwl : ws.length ≤ 20001 := by rw [← hn, countB_blank]; have := List.count_le_length (a := (32 : UInt8)) (l := s.data.toList); rw [← Lib.size_eq] at this; omega
  have kr : Below w.heap.size w (w.alloc (.cells #[.string ⟨#[]⟩, .string ⟨#[]⟩, .string ⟨#[]⟩, .string ⟨#[]⟩, .string ⟨#[]⟩, .string ⟨#[]⟩, .string ⟨#[]⟩] 57)) := (Below.refl _ w).alloc (Nat.le_refl _) _
  have G0 := alloc_new w (.cells #[.string ⟨#[]⟩, .string ⟨#[]⟩, .string ⟨#[]⟩, .string ⟨#[]⟩, .string ⟨#[]⟩, .string ⟨#[]⟩, .string ⟨#[]⟩] 57)
  obtain ⟨m, hm⟩ := hM.below kr
  have cS := hide (Tryz.strings_Split s ⟨#[32]⟩ m _ (by omega) hm (by decide))
  rw [hn, split_cells, hws] at cS
  have hP := hide (show ∀ e w', ((goodW ws ∧ e = .returned (.tuple #[.agg (ws.map sW).toArray, .nilIface]) ∧ Below w.heap.size w w') ∨ (¬ goodW ws ∧ e = .returned (.tuple #[.agg #[.string ⟨#[]⟩, .string ⟨#[]⟩, .string ⟨#[]⟩, .string ⟨#[]⟩, .string ⟨#[]⟩, .string ⟨#[]⟩, .string ⟨#[]⟩], .iface 92 (.int .i64 4)]) ∧ Below w.heap.size w w')) → WdP s w e w' from fun e w' h => by unfold WdP; rw [hws]; exact h)
  clear hws hn hm
  go_enter Tryz.func84, Tryz.ntmps84
  go_wp2_with fail
  refine (unhide cS).mono ?_
  rintro e w1 ⟨rfl, hw1⟩
  have k1 : Below (w.alloc (.cells #[.string ⟨#[]⟩, .string ⟨#[]⟩, .string ⟨#[]⟩, .string ⟨#[]⟩, .string ⟨#[]⟩, .string ⟨#[]⟩, .string ⟨#[]⟩] 57)).heap.size (w.alloc (.cells #[.string ⟨#[]⟩, .string ⟨#[]⟩, .string ⟨#[]⟩, .string ⟨#[]⟩, .string ⟨#[]⟩, .string ⟨#[]⟩, .string ⟨#[]⟩] 57)) w1 := by rw [hw1]; exact (Below.refl _ _).alloc (Nat.le_refl _) _
  have W1 : w1.heap[(w.alloc (.cells #[.string ⟨#[]⟩, .string ⟨#[]⟩, .string ⟨#[]⟩, .string ⟨#[]⟩, .string ⟨#[]⟩, .string ⟨#[]⟩, .string ⟨#[]⟩] 57)).heap.size]? = some (.cells (ws.map sW).toArray 9 (0, 0)) := by rw [hw1]; exact alloc_new _ _
  have G1 := blk_below G0 k1
  have kw : Below w.heap.size w w1 := laterB kr k1
  clear cS hw1 k1 G0 kr
  have hWz : (w.alloc (.cells #[.string ⟨#[]⟩, .string ⟨#[]⟩, .string ⟨#[]⟩, .string ⟨#[]⟩, .string ⟨#[]⟩, .string ⟨#[]⟩, .string ⟨#[]⟩] 57)).heap.size = w.heap.size + 1 := by simp
  rw [hWz] at W1 ⊢
  clear hWz
  generalize hRb : w.heap.size = Rb at *
  generalize hWb : Rb + 1 = Wb at *
  have hkz := kw.size
  obtain ⟨o0, o1, o2, o3, o4, o5, o6⟩ := blk7 G1
  obtain ⟨y0, y1, y2, y3, y4, y5, y6⟩ := blk7f G1
  by_cases hlen : ws.length = 7
  · obtain ⟨x0, x1, x2, x3, x4, x5, x6, rfl⟩ : ∃ x0 x1 x2 x3 x4 x5 x6, ws = [x0, x1, x2, x3, x4, x5, x6] := by
      match ws, hlen with
      | [x0, x1, x2, x3, x4, x5, x6], _ => exact ⟨x0, x1, x2, x3, x4, x5, x6, rfl⟩
    clear hlen hwl
    simp only [List.length_cons, List.length_nil, Nat.zero_add, Nat.reduceAdd]
    obtain ⟨X0, hX0⟩ : ∃ X, (⟨x0.toArray⟩ : ByteArray) = X := ⟨_, rfl⟩
    obtain ⟨X1, hX1⟩ : ∃ X, (⟨x1.toArray⟩ : ByteArray) = X := ⟨_, rfl⟩
    obtain ⟨X2, hX2⟩ : ∃ X, (⟨x2.toArray⟩ : ByteArray) = X := ⟨_, rfl⟩
    obtain ⟨X3, hX3⟩ : ∃ X, (⟨x3.toArray⟩ : ByteArray) = X := ⟨_, rfl⟩
    obtain ⟨X4, hX4⟩ : ∃ X, (⟨x4.toArray⟩ : ByteArray) = X := ⟨_, rfl⟩
    obtain ⟨X5, hX5⟩ : ∃ X, (⟨x5.toArray⟩ : ByteArray) = X := ⟨_, rfl⟩
    obtain ⟨X6, hX6⟩ : ∃ X, (⟨x6.toArray⟩ : ByteArray) = X := ⟨_, rfl⟩
    have W2 : w1.heap[Wb]? = some (.cells #[.string X0, .string X1, .string X2, .string X3, .string X4, .string X5, .string X6] 9 (0, 0)) := by rw [W1, ← hX0, ← hX1, ← hX2, ← hX3, ← hX4, ← hX5, ← hX6]; rfl
    have hgd := hide (show (¬ X0.toList = [] ∧ ¬ X1.toList = [] ∧ ¬ X2.toList = [] ∧ ¬ X3.toList = [] ∧ ¬ X4.toList = [] ∧ ¬ X5.toList = [] ∧ ¬ X6.toList = []) ↔ goodW [x0, x1, x2, x3, x4, x5, x6] from by
      rw [← hX0, ← hX1, ← hX2, ← hX3, ← hX4, ← hX5, ← hX6]
      simp only [toList_mk]
      simp [goodW])
    have hPg := hide (show ∀ w', goodW [x0, x1, x2, x3, x4, x5, x6] → Below Rb w w' → WdP s w (.returned (.tuple #[.agg #[.string X0, .string X1, .string X2, .string X3, .string X4, .string X5, .string X6], .nilIface])) w' from fun w' hg hb => unhide hP _ _ (.inl ⟨hg, by rw [← hX0, ← hX1, ← hX2, ← hX3, ← hX4, ← hX5, ← hX6]; rfl, by exact hb⟩))
    have hPb := hide (show ∀ w', ¬ goodW [x0, x1, x2, x3, x4, x5, x6] → Below Rb w w' → WdP s w (.returned (.tuple #[.agg #[.string ⟨#[]⟩, .string ⟨#[]⟩, .string ⟨#[]⟩, .string ⟨#[]⟩, .string ⟨#[]⟩, .string ⟨#[]⟩, .string ⟨#[]⟩], .iface 92 (.int .i64 4)])) w' from fun w' hg hb => unhide hP _ _ (.inr ⟨hg, rfl, by exact hb⟩))
    clear W1 hX0 hX1 hX2 hX3 hX4 hX5 hX6 hP
    obtain ⟨m0, m1, m2, m3, m4, m5, m6⟩ := blk7 W2
    go_wp2_with fail
    go_loopw [16] (fun t wr => ∃ k : Nat, k ≤ 7 ∧ t = .int .i64 k ∧ wr = w1 ∧ Hid (nonW [X0, X1, X2, X3, X4, X5, X6] k)) (fun t _ => 7 - (intOf t).toNat)
    case atStart => exact ⟨0, by omega, rfl, rfl, hide (fun j x h => by omega)⟩
    case round =>
      obtain ⟨k, hk7, rfl, rfl, hne⟩ := hrel
      obtain rfl | rfl | rfl | rfl | rfl | rfl | rfl | rfl : k = 0 ∨ k = 1 ∨ k = 2 ∨ k = 3 ∨ k = 4 ∨ k = 5 ∨ k = 6 ∨ k = 7 := by omega
      · rw [show ((0 : Nat) : Int) = 0 from rfl]
        go_wp2_with fail
        · have hE : X0.toList = [] := by simpa using ‹X0.toList.isEmpty = true›
          have hbad : ¬ goodW [x0, x1, x2, x3, x4, x5, x6] := fun h => ((unhide hgd).2 h).1 hE
          clear o0 o1 o2 o3 o4 o5 o6 y0 y1 y2 y3 y4 y5 y6
          have P9 := put7 (v0 := .string ⟨#[]⟩) (v1 := .string ⟨#[]⟩) (v2 := .string ⟨#[]⟩) (v3 := .string ⟨#[]⟩) (v4 := .string ⟨#[]⟩) (v5 := .string ⟨#[]⟩) (v6 := .string ⟨#[]⟩) G1
          have B9 := set7_belowB (v0 := .string ⟨#[]⟩) (v1 := .string ⟨#[]⟩) (v2 := .string ⟨#[]⟩) (v3 := .string ⟨#[]⟩) (v4 := .string ⟨#[]⟩) (v5 := .string ⟨#[]⟩) (v6 := .string ⟨#[]⟩) kw (Nat.le_refl Rb)
          generalize ((((((wr.setCell ⟨Rb, 0, none⟩ (.string ⟨#[]⟩)).setCell ⟨Rb, 1, none⟩ (.string ⟨#[]⟩)).setCell ⟨Rb, 2, none⟩ (.string ⟨#[]⟩)).setCell ⟨Rb, 3, none⟩ (.string ⟨#[]⟩)).setCell ⟨Rb, 4, none⟩ (.string ⟨#[]⟩)).setCell ⟨Rb, 5, none⟩ (.string ⟨#[]⟩)).setCell ⟨Rb, 6, none⟩ (.string ⟨#[]⟩) = W9 at *
          obtain ⟨o0, o1, o2, o3, o4, o5, o6⟩ := blk7 P9
          refine bodyPost_ret (v := .tuple #[.agg #[.string ⟨#[]⟩, .string ⟨#[]⟩, .string ⟨#[]⟩, .string ⟨#[]⟩, .string ⟨#[]⟩, .string ⟨#[]⟩, .string ⟨#[]⟩], .iface 92 (.int .i64 4)]) (by simp [results, Tryz.results84, go_sem, o0, o1, o2, o3, o4, o5, o6]) rfl ?_
          exact unhide hPb _ hbad B9
        · have hE : ¬ X0.toList = [] := by simpa using ‹X0.toList.isEmpty = false›
          go_roundw
          case rel => exact ⟨1, by omega, by first | rfl | trivial, by first | rfl | trivial, hide (nonW_succ (unhide hne) rfl hE)⟩
          case measure => simp [intOf]
      · rw [show ((1 : Nat) : Int) = 1 from rfl]
        go_wp2_with fail
        · have hE : X1.toList = [] := by simpa using ‹X1.toList.isEmpty = true›
          have hbad : ¬ goodW [x0, x1, x2, x3, x4, x5, x6] := fun h => ((unhide hgd).2 h).2.1 hE
          clear o0 o1 o2 o3 o4 o5 o6 y0 y1 y2 y3 y4 y5 y6
          have P9 := put7 (v0 := .string ⟨#[]⟩) (v1 := .string ⟨#[]⟩) (v2 := .string ⟨#[]⟩) (v3 := .string ⟨#[]⟩) (v4 := .string ⟨#[]⟩) (v5 := .string ⟨#[]⟩) (v6 := .string ⟨#[]⟩) G1
          have B9 := set7_belowB (v0 := .string ⟨#[]⟩) (v1 := .string ⟨#[]⟩) (v2 := .string ⟨#[]⟩) (v3 := .string ⟨#[]⟩) (v4 := .string ⟨#[]⟩) (v5 := .string ⟨#[]⟩) (v6 := .string ⟨#[]⟩) kw (Nat.le_refl Rb)
          generalize ((((((wr.setCell ⟨Rb, 0, none⟩ (.string ⟨#[]⟩)).setCell ⟨Rb, 1, none⟩ (.string ⟨#[]⟩)).setCell ⟨Rb, 2, none⟩ (.string ⟨#[]⟩)).setCell ⟨Rb, 3, none⟩ (.string ⟨#[]⟩)).setCell ⟨Rb, 4, none⟩ (.string ⟨#[]⟩)).setCell ⟨Rb, 5, none⟩ (.string ⟨#[]⟩)).setCell ⟨Rb, 6, none⟩ (.string ⟨#[]⟩) = W9 at *
          obtain ⟨o0, o1, o2, o3, o4, o5, o6⟩ := blk7 P9
          refine bodyPost_ret (v := .tuple #[.agg #[.string ⟨#[]⟩, .string ⟨#[]⟩, .string ⟨#[]⟩, .string ⟨#[]⟩, .string ⟨#[]⟩, .string ⟨#[]⟩, .string ⟨#[]⟩], .iface 92 (.int .i64 4)]) (by simp [results, Tryz.results84, go_sem, o0, o1, o2, o3, o4, o5, o6]) rfl ?_
          exact unhide hPb _ hbad B9
        · have hE : ¬ X1.toList = [] := by simpa using ‹X1.toList.isEmpty = false›
          go_roundw
          case rel => exact ⟨2, by omega, by first | rfl | trivial, by first | rfl | trivial, hide (nonW_succ (unhide hne) rfl hE)⟩
          case measure => simp [intOf]
      · rw [show ((2 : Nat) : Int) = 2 from rfl]
        go_wp2_with fail
        · have hE : X2.toList = [] := by simpa using ‹X2.toList.isEmpty = true›
          have hbad : ¬ goodW [x0, x1, x2, x3, x4, x5, x6] := fun h => ((unhide hgd).2 h).2.2.1 hE
          clear o0 o1 o2 o3 o4 o5 o6 y0 y1 y2 y3 y4 y5 y6
          have P9 := put7 (v0 := .string ⟨#[]⟩) (v1 := .string ⟨#[]⟩) (v2 := .string ⟨#[]⟩) (v3 := .string ⟨#[]⟩) (v4 := .string ⟨#[]⟩) (v5 := .string ⟨#[]⟩) (v6 := .string ⟨#[]⟩) G1
          have B9 := set7_belowB (v0 := .string ⟨#[]⟩) (v1 := .string ⟨#[]⟩) (v2 := .string ⟨#[]⟩) (v3 := .string ⟨#[]⟩) (v4 := .string ⟨#[]⟩) (v5 := .string ⟨#[]⟩) (v6 := .string ⟨#[]⟩) kw (Nat.le_refl Rb)
          generalize ((((((wr.setCell ⟨Rb, 0, none⟩ (.string ⟨#[]⟩)).setCell ⟨Rb, 1, none⟩ (.string ⟨#[]⟩)).setCell ⟨Rb, 2, none⟩ (.string ⟨#[]⟩)).setCell ⟨Rb, 3, none⟩ (.string ⟨#[]⟩)).setCell ⟨Rb, 4, none⟩ (.string ⟨#[]⟩)).setCell ⟨Rb, 5, none⟩ (.string ⟨#[]⟩)).setCell ⟨Rb, 6, none⟩ (.string ⟨#[]⟩) = W9 at *
          obtain ⟨o0, o1, o2, o3, o4, o5, o6⟩ := blk7 P9
          refine bodyPost_ret (v := .tuple #[.agg #[.string ⟨#[]⟩, .string ⟨#[]⟩, .string ⟨#[]⟩, .string ⟨#[]⟩, .string ⟨#[]⟩, .string ⟨#[]⟩, .string ⟨#[]⟩], .iface 92 (.int .i64 4)]) (by simp [results, Tryz.results84, go_sem, o0, o1, o2, o3, o4, o5, o6]) rfl ?_
          exact unhide hPb _ hbad B9
        · have hE : ¬ X2.toList = [] := by simpa using ‹X2.toList.isEmpty = false›
          go_roundw
          case rel => exact ⟨3, by omega, by first | rfl | trivial, by first | rfl | trivial, hide (nonW_succ (unhide hne) rfl hE)⟩
          case measure => simp [intOf]
      · rw [show ((3 : Nat) : Int) = 3 from rfl]
        go_wp2_with fail
        · have hE : X3.toList = [] := by simpa using ‹X3.toList.isEmpty = true›
          have hbad : ¬ goodW [x0, x1, x2, x3, x4, x5, x6] := fun h => ((unhide hgd).2 h).2.2.2.1 hE
          clear o0 o1 o2 o3 o4 o5 o6 y0 y1 y2 y3 y4 y5 y6
          have P9 := put7 (v0 := .string ⟨#[]⟩) (v1 := .string ⟨#[]⟩) (v2 := .string ⟨#[]⟩) (v3 := .string ⟨#[]⟩) (v4 := .string ⟨#[]⟩) (v5 := .string ⟨#[]⟩) (v6 := .string ⟨#[]⟩) G1
          have B9 := set7_belowB (v0 := .string ⟨#[]⟩) (v1 := .string ⟨#[]⟩) (v2 := .string ⟨#[]⟩) (v3 := .string ⟨#[]⟩) (v4 := .string ⟨#[]⟩) (v5 := .string ⟨#[]⟩) (v6 := .string ⟨#[]⟩) kw (Nat.le_refl Rb)
          generalize ((((((wr.setCell ⟨Rb, 0, none⟩ (.string ⟨#[]⟩)).setCell ⟨Rb, 1, none⟩ (.string ⟨#[]⟩)).setCell ⟨Rb, 2, none⟩ (.string ⟨#[]⟩)).setCell ⟨Rb, 3, none⟩ (.string ⟨#[]⟩)).setCell ⟨Rb, 4, none⟩ (.string ⟨#[]⟩)).setCell ⟨Rb, 5, none⟩ (.string ⟨#[]⟩)).setCell ⟨Rb, 6, none⟩ (.string ⟨#[]⟩) = W9 at *
          obtain ⟨o0, o1, o2, o3, o4, o5, o6⟩ := blk7 P9
          refine bodyPost_ret (v := .tuple #[.agg #[.string ⟨#[]⟩, .string ⟨#[]⟩, .string ⟨#[]⟩, .string ⟨#[]⟩, .string ⟨#[]⟩, .string ⟨#[]⟩, .string ⟨#[]⟩], .iface 92 (.int .i64 4)]) (by simp [results, Tryz.results84, go_sem, o0, o1, o2, o3, o4, o5, o6]) rfl ?_
          exact unhide hPb _ hbad B9
        · have hE : ¬ X3.toList = [] := by simpa using ‹X3.toList.isEmpty = false›
          go_roundw
          case rel => exact ⟨4, by omega, by first | rfl | trivial, by first | rfl | trivial, hide (nonW_succ (unhide hne) rfl hE)⟩
          case measure => simp [intOf]
      · rw [show ((4 : Nat) : Int) = 4 from rfl]
        go_wp2_with fail
        · have hE : X4.toList = [] := by simpa using ‹X4.toList.isEmpty = true›
          have hbad : ¬ goodW [x0, x1, x2, x3, x4, x5, x6] := fun h => ((unhide hgd).2 h).2.2.2.2.1 hE
          clear o0 o1 o2 o3 o4 o5 o6 y0 y1 y2 y3 y4 y5 y6
          have P9 := put7 (v0 := .string ⟨#[]⟩) (v1 := .string ⟨#[]⟩) (v2 := .string ⟨#[]⟩) (v3 := .string ⟨#[]⟩) (v4 := .string ⟨#[]⟩) (v5 := .string ⟨#[]⟩) (v6 := .string ⟨#[]⟩) G1
          have B9 := set7_belowB (v0 := .string ⟨#[]⟩) (v1 := .string ⟨#[]⟩) (v2 := .string ⟨#[]⟩) (v3 := .string ⟨#[]⟩) (v4 := .string ⟨#[]⟩) (v5 := .string ⟨#[]⟩) (v6 := .string ⟨#[]⟩) kw (Nat.le_refl Rb)
          generalize ((((((wr.setCell ⟨Rb, 0, none⟩ (.string ⟨#[]⟩)).setCell ⟨Rb, 1, none⟩ (.string ⟨#[]⟩)).setCell ⟨Rb, 2, none⟩ (.string ⟨#[]⟩)).setCell ⟨Rb, 3, none⟩ (.string ⟨#[]⟩)).setCell ⟨Rb, 4, none⟩ (.string ⟨#[]⟩)).setCell ⟨Rb, 5, none⟩ (.string ⟨#[]⟩)).setCell ⟨Rb, 6, none⟩ (.string ⟨#[]⟩) = W9 at *
          obtain ⟨o0, o1, o2, o3, o4, o5, o6⟩ := blk7 P9
          refine bodyPost_ret (v := .tuple #[.agg #[.string ⟨#[]⟩, .string ⟨#[]⟩, .string ⟨#[]⟩, .string ⟨#[]⟩, .string ⟨#[]⟩, .string ⟨#[]⟩, .string ⟨#[]⟩], .iface 92 (.int .i64 4)]) (by simp [results, Tryz.results84, go_sem, o0, o1, o2, o3, o4, o5, o6]) rfl ?_
          exact unhide hPb _ hbad B9
        · have hE : ¬ X4.toList = [] := by simpa using ‹X4.toList.isEmpty = false›
          go_roundw
          case rel => exact ⟨5, by omega, by first | rfl | trivial, by first | rfl | trivial, hide (nonW_succ (unhide hne) rfl hE)⟩
          case measure => simp [intOf]
      · rw [show ((5 : Nat) : Int) = 5 from rfl]
        go_wp2_with fail
        · have hE : X5.toList = [] := by simpa using ‹X5.toList.isEmpty = true›
          have hbad : ¬ goodW [x0, x1, x2, x3, x4, x5, x6] := fun h => ((unhide hgd).2 h).2.2.2.2.2.1 hE
          clear o0 o1 o2 o3 o4 o5 o6 y0 y1 y2 y3 y4 y5 y6
          have P9 := put7 (v0 := .string ⟨#[]⟩) (v1 := .string ⟨#[]⟩) (v2 := .string ⟨#[]⟩) (v3 := .string ⟨#[]⟩) (v4 := .string ⟨#[]⟩) (v5 := .string ⟨#[]⟩) (v6 := .string ⟨#[]⟩) G1
          have B9 := set7_belowB (v0 := .string ⟨#[]⟩) (v1 := .string ⟨#[]⟩) (v2 := .string ⟨#[]⟩) (v3 := .string ⟨#[]⟩) (v4 := .string ⟨#[]⟩) (v5 := .string ⟨#[]⟩) (v6 := .string ⟨#[]⟩) kw (Nat.le_refl Rb)
          generalize ((((((wr.setCell ⟨Rb, 0, none⟩ (.string ⟨#[]⟩)).setCell ⟨Rb, 1, none⟩ (.string ⟨#[]⟩)).setCell ⟨Rb, 2, none⟩ (.string ⟨#[]⟩)).setCell ⟨Rb, 3, none⟩ (.string ⟨#[]⟩)).setCell ⟨Rb, 4, none⟩ (.string ⟨#[]⟩)).setCell ⟨Rb, 5, none⟩ (.string ⟨#[]⟩)).setCell ⟨Rb, 6, none⟩ (.string ⟨#[]⟩) = W9 at *
          obtain ⟨o0, o1, o2, o3, o4, o5, o6⟩ := blk7 P9
          refine bodyPost_ret (v := .tuple #[.agg #[.string ⟨#[]⟩, .string ⟨#[]⟩, .string ⟨#[]⟩, .string ⟨#[]⟩, .string ⟨#[]⟩, .string ⟨#[]⟩, .string ⟨#[]⟩], .iface 92 (.int .i64 4)]) (by simp [results, Tryz.results84, go_sem, o0, o1, o2, o3, o4, o5, o6]) rfl ?_
          exact unhide hPb _ hbad B9
        · have hE : ¬ X5.toList = [] := by simpa using ‹X5.toList.isEmpty = false›
          go_roundw
          case rel => exact ⟨6, by omega, by first | rfl | trivial, by first | rfl | trivial, hide (nonW_succ (unhide hne) rfl hE)⟩
          case measure => simp [intOf]
      · rw [show ((6 : Nat) : Int) = 6 from rfl]
        go_wp2_with fail
        · have hE : X6.toList = [] := by simpa using ‹X6.toList.isEmpty = true›
          have hbad : ¬ goodW [x0, x1, x2, x3, x4, x5, x6] := fun h => ((unhide hgd).2 h).2.2.2.2.2.2 hE
          clear o0 o1 o2 o3 o4 o5 o6 y0 y1 y2 y3 y4 y5 y6
          have P9 := put7 (v0 := .string ⟨#[]⟩) (v1 := .string ⟨#[]⟩) (v2 := .string ⟨#[]⟩) (v3 := .string ⟨#[]⟩) (v4 := .string ⟨#[]⟩) (v5 := .string ⟨#[]⟩) (v6 := .string ⟨#[]⟩) G1
          have B9 := set7_belowB (v0 := .string ⟨#[]⟩) (v1 := .string ⟨#[]⟩) (v2 := .string ⟨#[]⟩) (v3 := .string ⟨#[]⟩) (v4 := .string ⟨#[]⟩) (v5 := .string ⟨#[]⟩) (v6 := .string ⟨#[]⟩) kw (Nat.le_refl Rb)
          generalize ((((((wr.setCell ⟨Rb, 0, none⟩ (.string ⟨#[]⟩)).setCell ⟨Rb, 1, none⟩ (.string ⟨#[]⟩)).setCell ⟨Rb, 2, none⟩ (.string ⟨#[]⟩)).setCell ⟨Rb, 3, none⟩ (.string ⟨#[]⟩)).setCell ⟨Rb, 4, none⟩ (.string ⟨#[]⟩)).setCell ⟨Rb, 5, none⟩ (.string ⟨#[]⟩)).setCell ⟨Rb, 6, none⟩ (.string ⟨#[]⟩) = W9 at *
          obtain ⟨o0, o1, o2, o3, o4, o5, o6⟩ := blk7 P9
          refine bodyPost_ret (v := .tuple #[.agg #[.string ⟨#[]⟩, .string ⟨#[]⟩, .string ⟨#[]⟩, .string ⟨#[]⟩, .string ⟨#[]⟩, .string ⟨#[]⟩, .string ⟨#[]⟩], .iface 92 (.int .i64 4)]) (by simp [results, Tryz.results84, go_sem, o0, o1, o2, o3, o4, o5, o6]) rfl ?_
          exact unhide hPb _ hbad B9
        · have hE : ¬ X6.toList = [] := by simpa using ‹X6.toList.isEmpty = false›
          go_roundw
          case rel => exact ⟨7, by omega, by first | rfl | trivial, by first | rfl | trivial, hide (nonW_succ (unhide hne) rfl hE)⟩
          case measure => simp [intOf]
      · rw [show ((7 : Nat) : Int) = 7 from rfl]
        have hn := unhide hne
        have hgood := (unhide hgd).1 ⟨hn 0 X0 (by omega) rfl, hn 1 X1 (by omega) rfl, hn 2 X2 (by omega) rfl, hn 3 X3 (by omega) rfl, hn 4 X4 (by omega) rfl, hn 5 X5 (by omega) rfl, hn 6 X6 (by omega) rfl⟩
        clear hn hne
        have hA : (Instr.arrayAt 57 (.slice (some ⟨Wb, 0, none⟩) 7 7)).run Tryz.prog wr = .ok (.pointer (some ⟨Wb, 0, none⟩)) wr := run_arrayAt _ 57 9 7 _ 7 7 rfl (by omega)
        go_wp2
        clear o0 o1 o2 o3 o4 o5 o6 y0 y1 y2 y3 y4 y5 y6
        have P9 := put7 (v0 := .string X0) (v1 := .string X1) (v2 := .string X2) (v3 := .string X3) (v4 := .string X4) (v5 := .string X5) (v6 := .string X6) G1
        have B9 := set7_belowB (v0 := .string X0) (v1 := .string X1) (v2 := .string X2) (v3 := .string X3) (v4 := .string X4) (v5 := .string X5) (v6 := .string X6) kw (Nat.le_refl Rb)
        generalize ((((((wr.setCell ⟨Rb, 0, none⟩ (.string X0)).setCell ⟨Rb, 1, none⟩ (.string X1)).setCell ⟨Rb, 2, none⟩ (.string X2)).setCell ⟨Rb, 3, none⟩ (.string X3)).setCell ⟨Rb, 4, none⟩ (.string X4)).setCell ⟨Rb, 5, none⟩ (.string X5)).setCell ⟨Rb, 6, none⟩ (.string X6) = W9 at *
        obtain ⟨o0, o1, o2, o3, o4, o5, o6⟩ := blk7 P9
        refine bodyPost_ret (v := .tuple #[.agg #[.string X0, .string X1, .string X2, .string X3, .string X4, .string X5, .string X6], .nilIface]) (by simp [results, Tryz.results84, go_sem, o0, o1, o2, o3, o4, o5, o6]) rfl ?_
        exact unhide hPg _ hgood B9
  · have hl7 : ((ws.length : Int) != 7) = true := by simp; omega
    have hbad : ¬ goodW ws := fun h => hlen h.1
    clear W1 hlen
    go_wp2
    clear o0 o1 o2 o3 o4 o5 o6 y0 y1 y2 y3 y4 y5 y6
    have P9 := put7 (v0 := .string ⟨#[]⟩) (v1 := .string ⟨#[]⟩) (v2 := .string ⟨#[]⟩) (v3 := .string ⟨#[]⟩) (v4 := .string ⟨#[]⟩) (v5 := .string ⟨#[]⟩) (v6 := .string ⟨#[]⟩) G1
    have B9 := set7_belowB (v0 := .string ⟨#[]⟩) (v1 := .string ⟨#[]⟩) (v2 := .string ⟨#[]⟩) (v3 := .string ⟨#[]⟩) (v4 := .string ⟨#[]⟩) (v5 := .string ⟨#[]⟩) (v6 := .string ⟨#[]⟩) kw (Nat.le_refl Rb)
    generalize ((((((w1.setCell ⟨Rb, 0, none⟩ (.string ⟨#[]⟩)).setCell ⟨Rb, 1, none⟩ (.string ⟨#[]⟩)).setCell ⟨Rb, 2, none⟩ (.string ⟨#[]⟩)).setCell ⟨Rb, 3, none⟩ (.string ⟨#[]⟩)).setCell ⟨Rb, 4, none⟩ (.string ⟨#[]⟩)).setCell ⟨Rb, 5, none⟩ (.string ⟨#[]⟩)).setCell ⟨Rb, 6, none⟩ (.string ⟨#[]⟩) = W9 at *
    obtain ⟨o0, o1, o2, o3, o4, o5, o6⟩ := blk7 P9
    refine bodyPost_ret (v := .tuple #[.agg #[.string ⟨#[]⟩, .string ⟨#[]⟩, .string ⟨#[]⟩, .string ⟨#[]⟩, .string ⟨#[]⟩, .string ⟨#[]⟩, .string ⟨#[]⟩], .iface 92 (.int .i64 4)]) (by simp [results, Tryz.results84, go_sem, o0, o1, o2, o3, o4, o5, o6]) rfl ?_
    exact unhide hP _ _ (.inr ⟨hbad, rfl, by exact B9⟩)

end Go.Proofs.YtfhbmfndjbdhcaaGreatDoor
