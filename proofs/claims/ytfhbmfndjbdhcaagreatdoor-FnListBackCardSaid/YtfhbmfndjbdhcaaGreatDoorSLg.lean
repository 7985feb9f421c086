/-
  A line read by the model, seven words: its contract.
-/
import Derived.Test.YtfhbmfndjbdhcaaGreatDoorSLj
namespace Go.Proofs.YtfhbmfndjbdhcaaGreatDoor
open Go.RowKit
set_option linter.unusedVariables false
set_option linter.unusedSimpArgs false

theorem four_of {xs : List Int} (h : xs.length = 4) : ∃ a b c d, xs = [a, b, c, d] := by
  match xs, h with
  | [a, b, c, d], _ => exact ⟨a, b, c, d, rfl⟩
theorem keep4B {w w0 w1 : World} {a1 a2 a3 a4 : Addr} {v1 v2 v3 v4 : Value}
    (h : w0.cell? a1 = some v1 ∧ w0.cell? a2 = some v2 ∧ w0.cell? a3 = some v3 ∧ w0.cell? a4 = some v4 ∧ Below w.heap.size w w0) (hb : Below w0.heap.size w0 w1) :
    w1.cell? a1 = some v1 ∧ w1.cell? a2 = some v2 ∧ w1.cell? a3 = some v3 ∧ w1.cell? a4 = some v4 ∧ Below w.heap.size w w1 :=
  ⟨cell_later hb h.1, cell_later hb h.2.1, cell_later hb h.2.2.1, cell_later hb h.2.2.2.1, h.2.2.2.2.trans (hb.mono h.2.2.2.2.size)⟩
theorem keep4Bd {w w0 : World} {a1 a2 a3 a4 : Addr} {v1 v2 v3 v4 : Value}
    (h : w0.cell? a1 = some v1 ∧ w0.cell? a2 = some v2 ∧ w0.cell? a3 = some v3 ∧ w0.cell? a4 = some v4 ∧ Below w.heap.size w w0) :
    w0.drew.cell? a1 = some v1 ∧ w0.drew.cell? a2 = some v2 ∧ w0.drew.cell? a3 = some v3 ∧ w0.drew.cell? a4 = some v4 ∧ Below w.heap.size w w0.drew :=
  ⟨h.1, h.2.1, h.2.2.1, h.2.2.2.1, h.2.2.2.2.drew⟩
theorem tm_more {n d : Int} {dr : Bool} {X0 X1 X2 X3 : ByteArray} {xs : List Int} {x : Int} {k : Nat} (hl : xs.length = k) (h : ∀ j y, xs[j]? = some y → timeO n d dr (wdOf X0 X1 X2 X3 j).data.toList = some y ∧ 0 ≤ y ∧ y ≤ 10000000) (hx : timeO n d dr (wdOf X0 X1 X2 X3 k).data.toList = some x ∧ 0 ≤ x ∧ x ≤ 10000000) :
    ∀ j y, (xs ++ [x])[j]? = some y → timeO n d dr (wdOf X0 X1 X2 X3 j).data.toList = some y ∧ 0 ≤ y ∧ y ≤ 10000000 := by
  intro j y hj
  by_cases e : j < xs.length
  · rw [List.getElem?_append_left e] at hj; exact h j y hj
  · have hj2 := (List.getElem?_eq_some_iff.1 hj).1
    simp at hj2
    have : j = xs.length := by omega
    subst this
    rw [List.getElem?_append_right (Nat.le_refl _)] at hj
    simp at hj
    subst hj
    rw [hl]; exact hx
theorem sdig_val (i : Nat) (s : ByteArray) (hs : (⟨(numW i).toArray⟩ : ByteArray) = s) (w : World) (hi : i < 999) :
    Calls Tryz.prog 29 #[.int .i64 ((i : Int) + 1)] w fun e w' => e = .returned (.string s) ∧ Below w.heap.size w w' := by subst hs; exact sdig_any i w hi
theorem SlP.no {x : Int × Kl} {w w' : World} {cd : Int} (hx : x = (cd, (0, 0, 0))) (hb : Below w.heap.size w w') : SlP x w (.returned (.tuple #[.agg #[.int .i64 0, .int .i64 0, .int .i64 0], .int .i64 cd])) w' := by subst hx; exact ⟨rfl, hb⟩
theorem keep1 {w w0 w1 : World} {a : Addr} {v : Value} (h : w0.cell? a = some v ∧ Below w.heap.size w w0) (hb : Below w0.heap.size w0 w1) : w1.cell? a = some v ∧ Below w.heap.size w w1 := ⟨cell_later hb h.1, h.2.trans (hb.mono h.2.size)⟩
theorem keep1d {w w0 : World} {a : Addr} {v : Value} (h : w0.cell? a = some v ∧ Below w.heap.size w w0) : w0.drew.cell? a = some v ∧ Below w.heap.size w w0.drew := ⟨h.1, h.2.drew⟩

set_option maxRecDepth 100000 in
set_option maxHeartbeats 2000000 in
theorem sline_g (n d : Int) (dr : Bool) (s : ByteArray) (tb tq : Nat) (tc : Nat) (tr : List Kl) (en : Int) (w : World) (hs : s.size ≤ 20000) (hg : goodW (wordsL s.data.toList)) (hT : TrI tr en) (hK : Kls w (some ⟨tb, tq, none⟩) tr) :
    Calls Tryz.prog 33 #[.agg #[.int .i64 n, .int .i64 d, .bool dr], .string s, .int .i64 ((tr.length : Int) + 1), .slice (some ⟨tb, tq, none⟩) tr.length tc, .int .i64 en] w (SlP (lineO n d dr s.data.toList tr en) w) := by
  obtain ⟨x, hx⟩ : ∃ x, lineO n d dr s.data.toList tr en = x := ⟨_, rfl⟩
  rw [hx]
  have hno := hide (fun (cd : Int) (w' : World) (h1 : x = (cd, (0, 0, 0))) (hb : Below w.heap.size w w') => (SlP.no h1 hb : SlP x w (.returned (.tuple #[.agg #[.int .i64 0, .int .i64 0, .int .i64 0], .int .i64 cd])) w'))
  have ka := hide (((Below.refl w.heap.size w).alloc (Nat.le_refl _) (.cells #[.int .i64 n, .int .i64 d, .bool dr] 25)).alloc (by simp) (.cells #[.int .i64 0, .int .i64 0, .int .i64 0] 44))
  have b10 : ((w.alloc (.cells #[.int .i64 n, .int .i64 d, .bool dr] 25)).alloc (.cells #[.int .i64 0, .int .i64 0, .int .i64 0] 44)).heap[w.heap.size + 1]? = some (.cells #[.int .i64 0, .int .i64 0, .int .i64 0] 44 (0, 0)) := by
    have := alloc_new (w.alloc (.cells #[.int .i64 n, .int .i64 d, .bool dr] 25)) (.cells #[.int .i64 0, .int .i64 0, .int .i64 0] 44)
    simpa using this
  have b5 : ((w.alloc (.cells #[.int .i64 n, .int .i64 d, .bool dr] 25)).alloc (.cells #[.int .i64 0, .int .i64 0, .int .i64 0] 44)).heap[w.heap.size]? = some (.cells #[.int .i64 n, .int .i64 d, .bool dr] 25 (0, 0)) := by
    rw [Below.heap_alloc _ _ _ (by simp)]; exact alloc_new _ _
  have cW := hide (fun w => swords_any s w hs)
  obtain ⟨a, b, c, t0, t1, t2, t3, hw7⟩ := good_seven hg
  obtain ⟨XA, rfl⟩ : ∃ X : ByteArray, a = X.data.toList := ⟨⟨a.toArray⟩, by simp⟩
  obtain ⟨XB, rfl⟩ : ∃ X : ByteArray, b = X.data.toList := ⟨⟨b.toArray⟩, by simp⟩
  obtain ⟨XC, rfl⟩ : ∃ X : ByteArray, c = X.data.toList := ⟨⟨c.toArray⟩, by simp⟩
  obtain ⟨X0, rfl⟩ : ∃ X : ByteArray, t0 = X.data.toList := ⟨⟨t0.toArray⟩, by simp⟩
  obtain ⟨X1, rfl⟩ : ∃ X : ByteArray, t1 = X.data.toList := ⟨⟨t1.toArray⟩, by simp⟩
  obtain ⟨X2, rfl⟩ : ∃ X : ByteArray, t2 = X.data.toList := ⟨⟨t2.toArray⟩, by simp⟩
  obtain ⟨X3, rfl⟩ : ∃ X : ByteArray, t3 = X.data.toList := ⟨⟨t3.toArray⟩, by simp⟩
  have hsz : ∀ X : ByteArray, X.data.toList ∈ wordsL s.data.toList → X.size ≤ 20000 ∧ X.data.toList ≠ [] := fun X h => by
    have h1 := hg.2 _ h
    have := words_leS _ _ h
    rw [← Lib.size_eq, ← Lib.size_eq] at this
    exact ⟨by omega, h1⟩
  obtain ⟨sXA, eXA⟩ := hsz XA (by rw [hw7]; simp)
  have iXA : XA.toList.isEmpty = false := by rw [Lib.toList_data]; cases h : XA.data.toList; exact absurd h eXA; rfl
  obtain ⟨sXB, eXB⟩ := hsz XB (by rw [hw7]; simp)
  have iXB : XB.toList.isEmpty = false := by rw [Lib.toList_data]; cases h : XB.data.toList; exact absurd h eXB; rfl
  obtain ⟨sXC, eXC⟩ := hsz XC (by rw [hw7]; simp)
  have iXC : XC.toList.isEmpty = false := by rw [Lib.toList_data]; cases h : XC.data.toList; exact absurd h eXC; rfl
  obtain ⟨sX0, eX0⟩ := hsz X0 (by rw [hw7]; simp)
  have iX0 : X0.toList.isEmpty = false := by rw [Lib.toList_data]; cases h : X0.data.toList; exact absurd h eX0; rfl
  obtain ⟨sX1, eX1⟩ := hsz X1 (by rw [hw7]; simp)
  have iX1 : X1.toList.isEmpty = false := by rw [Lib.toList_data]; cases h : X1.data.toList; exact absurd h eX1; rfl
  obtain ⟨sX2, eX2⟩ := hsz X2 (by rw [hw7]; simp)
  have iX2 : X2.toList.isEmpty = false := by rw [Lib.toList_data]; cases h : X2.data.toList; exact absurd h eX2; rfl
  obtain ⟨sX3, eX3⟩ := hsz X3 (by rw [hw7]; simp)
  have iX3 : X3.toList.isEmpty = false := by rw [Lib.toList_data]; cases h : X3.data.toList; exact absurd h eX3; rfl
  have h5 := hide (fun h => lineO_5 (n := n) (d := d) (dr := dr) (tr := tr) (en := en) hg hw7 h)
  have h6 := hide (fun ha h => lineO_6 (n := n) (d := d) (dr := dr) (tr := tr) (en := en) hg hw7 ha h)
  have h7 := hide (fun (y : Int) ha hs hc h => lineO_7 (n := n) (d := d) (dr := dr) (tr := tr) (en := en) (s := y) hg hw7 ha hs hc h)
  have h8 := hide (fun (y x0 x1 x2 x3 : Int) ha hs hc h0 h1 h2 h3 => lineO_add (n := n) (d := d) (dr := dr) (tr := tr) (en := en) (s := y) (x0 := x0) (x1 := x1) (x2 := x2) (x3 := x3) hg hw7 ha hs hc h0 h1 h2 h3)
  rw [hx] at h5 h6 h7 h8
  rw [hw7] at cW
  have htl := hT.ok.1
  have hT' := hide hT
  have hK' := hide hK
  clear hx hw7 hg hsz hT hK eXA eXC eX0 eX1 eX2 eX3 hs
  go_enter Tryz.func33, Tryz.ntmps33
  go_wp2_with fail
  generalize hQ0 : w.heap.size = Q0 at *
  generalize hQ1 : Q0 + 1 = Q1 at *
  generalize (w.alloc (.cells #[.int .i64 n, .int .i64 d, .bool dr] 25)).alloc (.cells #[.int .i64 0, .int .i64 0, .int .i64 0] 44) = w1 at *
  refine (unhide cW w1).mono ?_
  rintro e w2 ⟨v, rfl, hrow, k2⟩
  have hz1 : Q1 < w1.heap.size := (Array.getElem?_eq_some_iff.1 b10).1
  have kb2 := (unhide ka).trans (k2.mono (by omega))
  have kb3 := hide (below_ge kb2 (.cells #[.int .i64 0, .int .i64 0, .int .i64 0] 44) (by omega))
  have ky := (Below.refl w2.heap.size w2).alloc (Nat.le_refl _) (.cells #[.int .i64 0, .int .i64 0, .int .i64 0] 44)
  have c10 := blk_below (blk_below b10 k2) ky
  have c5 := blk_below (blk_below b5 k2) ky
  have c13 := alloc_new w2 (.cells #[.int .i64 0, .int .i64 0, .int .i64 0] 44)
  obtain ⟨g, cap, rfl, hgB, hcell⟩ := row_slice hrow (by simp)
  have hgl : g < w2.heap.size := (hrow.lt g rfl).2
  have m0 : (w2.alloc (.cells #[.int .i64 0, .int .i64 0, .int .i64 0] 44)).cell? ⟨g, 0, none⟩ = some (.string XA) := by have := cell_later ky (hcell 0 _ rfl); simpa [sW, Lib.mk_data] using this
  have m1 : (w2.alloc (.cells #[.int .i64 0, .int .i64 0, .int .i64 0] 44)).cell? ⟨g, 1, none⟩ = some (.string XB) := by have := cell_later ky (hcell 1 _ rfl); simpa [sW, Lib.mk_data] using this
  have m2 : (w2.alloc (.cells #[.int .i64 0, .int .i64 0, .int .i64 0] 44)).cell? ⟨g, 2, none⟩ = some (.string XC) := by have := cell_later ky (hcell 2 _ rfl); simpa [sW, Lib.mk_data] using this
  have m3 : (w2.alloc (.cells #[.int .i64 0, .int .i64 0, .int .i64 0] 44)).cell? ⟨g, 3, none⟩ = some (.string X0) := by have := cell_later ky (hcell 3 _ rfl); simpa [sW, Lib.mk_data] using this
  have m4 : (w2.alloc (.cells #[.int .i64 0, .int .i64 0, .int .i64 0] 44)).cell? ⟨g, 4, none⟩ = some (.string X1) := by have := cell_later ky (hcell 4 _ rfl); simpa [sW, Lib.mk_data] using this
  have m5 : (w2.alloc (.cells #[.int .i64 0, .int .i64 0, .int .i64 0] 44)).cell? ⟨g, 5, none⟩ = some (.string X2) := by have := cell_later ky (hcell 5 _ rfl); simpa [sW, Lib.mk_data] using this
  have m6 : (w2.alloc (.cells #[.int .i64 0, .int .i64 0, .int .i64 0] 44)).cell? ⟨g, 6, none⟩ = some (.string X3) := by have := cell_later ky (hcell 6 _ rfl); simpa [sW, Lib.mk_data] using this
  clear ky hrow cW k2 kb2 hcell b10 b5
  simp only [List.length_cons, List.length_nil, Nat.zero_add, Nat.reduceAdd]
  go_wp2_with fail
  generalize w2.alloc (.cells #[.int .i64 0, .int .i64 0, .int .i64 0] 44) = w3 at *
  generalize w2.heap.size = Q3 at *
  go_loopw [14] (fun t wr => ∃ k : Nat, k ≤ 7 ∧ t = .int .i64 k ∧ wr = w3) (fun t _ => 7 - (intOf t).toNat)
  case atStart => exact ⟨0, by omega, rfl, rfl⟩
  case round =>
    obtain ⟨k, hk, rfl, rfl⟩ := hrel
    obtain rfl | rfl | rfl | rfl | rfl | rfl | rfl | rfl : k = 0 ∨ k = 1 ∨ k = 2 ∨ k = 3 ∨ k = 4 ∨ k = 5 ∨ k = 6 ∨ k = 7 := by omega
    · rw [show ((0 : Nat) : Int) = 0 from rfl]
      go_wp2
      go_roundw
      case rel => exact ⟨1, by omega, by first | rfl | trivial, by first | rfl | trivial⟩
      case measure => simp [intOf]
    · rw [show ((1 : Nat) : Int) = 1 from rfl]
      go_wp2
      go_roundw
      case rel => exact ⟨2, by omega, by first | rfl | trivial, by first | rfl | trivial⟩
      case measure => simp [intOf]
    · rw [show ((2 : Nat) : Int) = 2 from rfl]
      go_wp2
      go_roundw
      case rel => exact ⟨3, by omega, by first | rfl | trivial, by first | rfl | trivial⟩
      case measure => simp [intOf]
    · rw [show ((3 : Nat) : Int) = 3 from rfl]
      go_wp2
      go_roundw
      case rel => exact ⟨4, by omega, by first | rfl | trivial, by first | rfl | trivial⟩
      case measure => simp [intOf]
    · rw [show ((4 : Nat) : Int) = 4 from rfl]
      go_wp2
      go_roundw
      case rel => exact ⟨5, by omega, by first | rfl | trivial, by first | rfl | trivial⟩
      case measure => simp [intOf]
    · rw [show ((5 : Nat) : Int) = 5 from rfl]
      go_wp2
      go_roundw
      case rel => exact ⟨6, by omega, by first | rfl | trivial, by first | rfl | trivial⟩
      case measure => simp [intOf]
    · rw [show ((6 : Nat) : Int) = 6 from rfl]
      go_wp2
      go_roundw
      case rel => exact ⟨7, by omega, by first | rfl | trivial, by first | rfl | trivial⟩
      case measure => simp [intOf]
    · rw [show ((7 : Nat) : Int) = 7 from rfl]
      obtain ⟨N, hN⟩ : ∃ N : ByteArray, (⟨(numW tr.length).toArray⟩ : ByteArray) = N := ⟨_, rfl⟩
      have hN' := hide hN
      have hall := hide (And.intro m0 (Below.refl wr.heap.size wr))
      have hQw : Q1 < wr.heap.size := (Array.getElem?_eq_some_iff.1 c10).1
      by_cases hA : XA.data.toList = numW tr.length
      · have hbq : (XA.toList == N.toList) = true := by rw [Lib.toList_data, hA, ← hN, toList_mk]; simp
        have hA' := hide hA
        clear hA hN h5
        go_wp2_with fail
        go_region_held3 (fun w' => w'.cell? ⟨g, 0, none⟩ = some (.string XA) ∧ Below wr.heap.size wr w')
          (first | (refine keep1 ?_ hb; assumption) | (exact keep1d (unhide hall)))
          ((go_at_call 29; refine (sdig_val tr.length N (unhide hN') _ (by omega)).mono ?_; rintro e w4 ⟨rfl, hb⟩))
        rename_i hH
        obtain ⟨_, k4⟩ := hH
        have c10 := blk_below c10 k4
        have c5 := blk_below c5 k4
        have c13 := blk_below c13 k4
        have m1 := cell_later k4 m1
        have m2 := cell_later k4 m2
        have m3 := cell_later k4 m3
        have m4 := cell_later k4 m4
        have m5 := cell_later k4 m5
        have m6 := cell_later k4 m6
        have kb4 := hide ((unhide kb3).trans (k4.mono (by omega)))
        clear k4 kb3 hall m0 hN' hbq
        by_cases hC : XC.data.toList = [67]
        · have hbC : (XC.toList == [67]) = true := by rw [Lib.toList_data, hC]; rfl
          have hC' := hide hC
          clear hC
          by_cases hB : XB.data.toList = [66, 76]
          · have hbB : (XB.toList == [66, 76]) = true := by rw [Lib.toList_data, hB]; rfl
            have hso := hide (show srcO XB.data.toList = some 0 by rw [hB]; exact src_gap)
            clear hB
            go_wp2_with fail
            obtain ⟨r0, r1, r2⟩ := blk3 c5
            have hQW : Q1 < w4.heap.size := (Array.getElem?_eq_some_iff.1 c10).1
            have hst : Hid (TmI n d dr X0 X1 X2 X3 w4 (w4.alloc (.cells #[] 2)) w4.heap.size 0 0) := hide ⟨[], ownI_lit0 w4 (Nat.le_refl _), (Below.refl _ _).alloc (Nat.le_refl _) _, fun j x h => by simp at h⟩
            clear m1 m2
            go_loopw [18, 19] (fun s t wr => ∃ k G c : Nat, k ≤ 4 ∧ t = .int .i64 ((k : Int) + 3) ∧ s = .slice (some ⟨G, 0, none⟩) k c ∧ Hid (TmI n d dr X0 X1 X2 X3 w4 wr G c k)) (fun _ t _ => 8 - (intOf t).toNat)
            case atStart => exact ⟨0, w4.heap.size, 0, by omega, by simp, rfl, hst⟩
            case round =>
              clear hst
              obtain ⟨k, G, c, hk, rfl, rfl, hTm⟩ := hrel
              obtain ⟨xs, hxo, hxb, hxt⟩ := unhide hTm
              have q0 := cell_later hxb r0
              have q1 := cell_later hxb r1
              have q2 := cell_later hxb r2
              have hxo' := hide hxo
              have hxb' := hide hxb
              have hxt' := hide hxt
              have hszz := hxb.size
              clear hTm hxo hxt r0 r1 r2
              obtain rfl | rfl | rfl | rfl | rfl : k = 0 ∨ k = 1 ∨ k = 2 ∨ k = 3 ∨ k = 4 := by omega
              · have sw := cell_later hxb m3
                have hall := hide (show wr.cell? ⟨Q0, 0, none⟩ = some (.int .i64 n) ∧ wr.cell? ⟨Q0, 1, none⟩ = some (.int .i64 d) ∧ wr.cell? ⟨Q0, 2, none⟩ = some (.bool dr) ∧ wr.cell? ⟨g, 3, none⟩ = some (.string X0) ∧ Below wr.heap.size wr wr from ⟨q0, q1, q2, sw, Below.refl _ _⟩)
                rw [show ((0 : Nat) : Int) + 3 = 3 from rfl]
                clear q0 q1 q2 sw hxb
                go_wp2_with fail
                go_region_held3 (fun w' => w'.cell? ⟨Q0, 0, none⟩ = some (.int .i64 n) ∧ w'.cell? ⟨Q0, 1, none⟩ = some (.int .i64 d) ∧ w'.cell? ⟨Q0, 2, none⟩ = some (.bool dr) ∧ w'.cell? ⟨g, 3, none⟩ = some (.string X0) ∧ Below wr.heap.size wr w')
                  (first | (refine keep4B ?_ hb; assumption) | (exact keep4Bd (unhide hall)))
                  ((go_at_call 62; refine (srd_any n d dr X0 _ (by unfold maxLen; omega)).mono ?_; rintro e v5 ⟨x9, ok9, rfl, hrd, hb⟩))
                rename_i hH
                have k5 := hH.2.2.2.2
                clear hH hall hb
                cases ok9
                · have hx7 := hide (unhide h7 0 (unhide hA') (unhide hso) (unhide hC') (.inl (timeO_no hrd)))
                  have c10z := blk_below (blk_below c10 (unhide hxb')) k5
                  have c13z := blk_below (blk_below c13 (unhide hxb')) k5
                  have kbz := (unhide kb4).trans (((unhide hxb').trans (k5.mono (unhide hxb').size)).mono (show Q0 ≤ w4.heap.size by omega))
                  obtain ⟨x0, x1, x2⟩ := blk3 c10z
                  obtain ⟨y0, y1, y2⟩ := blk3 c13z
                  have f0 : v5.frozen? ⟨Q1, 0, none⟩ = false := Lib.frozen_of_heap c10z _
                  have f1 : v5.frozen? ⟨Q1, 1, none⟩ = false := Lib.frozen_of_heap c10z _
                  have f2 : v5.frozen? ⟨Q1, 2, none⟩ = false := Lib.frozen_of_heap c10z _
                  clear k5 hrd
                  go_wp2
                  have P9 := put3 (v0 := .int .i64 0) (v1 := .int .i64 0) (v2 := .int .i64 0) c10z
                  have B9 := set3_belowB (v0 := .int .i64 0) (v1 := .int .i64 0) (v2 := .int .i64 0) kbz (show Q0 ≤ Q1 by omega)
                  clear x0 x1 x2 y0 y1 y2 f0 f1 f2
                  generalize ((v5.setCell ⟨Q1, 0, none⟩ (.int .i64 0)).setCell ⟨Q1, 1, none⟩ (.int .i64 0)).setCell ⟨Q1, 2, none⟩ (.int .i64 0) = W9 at *
                  obtain ⟨o0, o1, o2⟩ := blk3 P9
                  refine bodyPost_ret (v := .tuple #[.agg #[.int .i64 0, .int .i64 0, .int .i64 0], .int .i64 7]) (by simp [results, Tryz.results33, go_sem, o0, o1, o2]) rfl ?_
                  exact unhide hno 7 _ (unhide hx7) (by exact B9)
                · have hx5 := hide (ownsRow_below (unhide hxo') k5)
                  have hb5 := hide ((unhide hxb').trans (k5.mono (unhide hxb').size))
                  have hz5 := (unhide hb5).size
                  have hti := hide (And.intro (timeO_ok hrd) (RD_bd hrd))
                  clear k5 hrd hxo' hxb'
                  go_wp2_with (at_builtin; refine wpList_i Tryz.underlying113 (X := v5) (B := w4.heap.size) (g := G) (n := 0) (cap := c) (L := xs) rfl _ _ rfl rfl (unhide hx5) v5.heap.size rfl rfl (by omega) hz5 ?_)
                  intro G' c' w' ho' hb'
                  have hN : Hid (TmI n d dr X0 X1 X2 X3 w4 w' G' c' 1) := hide ⟨xs ++ [x9], ho', (unhide hb5).trans hb', tm_more (ownI_len (unhide hx5)) (unhide hxt') (unhide hti)⟩
                  clear ho' hb' hx5 hb5 hxt' hti
                  go_wp2
                  go_roundw
                  case rel => exact ⟨1, G', c', by omega, by first | rfl | trivial | simp, rfl, hN⟩
                  case measure => simp [intOf]
              · have sw := cell_later hxb m4
                have hall := hide (show wr.cell? ⟨Q0, 0, none⟩ = some (.int .i64 n) ∧ wr.cell? ⟨Q0, 1, none⟩ = some (.int .i64 d) ∧ wr.cell? ⟨Q0, 2, none⟩ = some (.bool dr) ∧ wr.cell? ⟨g, 4, none⟩ = some (.string X1) ∧ Below wr.heap.size wr wr from ⟨q0, q1, q2, sw, Below.refl _ _⟩)
                rw [show ((1 : Nat) : Int) + 3 = 4 from rfl]
                clear q0 q1 q2 sw hxb
                go_wp2_with fail
                go_region_held3 (fun w' => w'.cell? ⟨Q0, 0, none⟩ = some (.int .i64 n) ∧ w'.cell? ⟨Q0, 1, none⟩ = some (.int .i64 d) ∧ w'.cell? ⟨Q0, 2, none⟩ = some (.bool dr) ∧ w'.cell? ⟨g, 4, none⟩ = some (.string X1) ∧ Below wr.heap.size wr w')
                  (first | (refine keep4B ?_ hb; assumption) | (exact keep4Bd (unhide hall)))
                  ((go_at_call 62; refine (srd_any n d dr X1 _ (by unfold maxLen; omega)).mono ?_; rintro e v5 ⟨x9, ok9, rfl, hrd, hb⟩))
                rename_i hH
                have k5 := hH.2.2.2.2
                clear hH hall hb
                cases ok9
                · have hx7 := hide (unhide h7 0 (unhide hA') (unhide hso) (unhide hC') (.inr (.inl (timeO_no hrd))))
                  have c10z := blk_below (blk_below c10 (unhide hxb')) k5
                  have c13z := blk_below (blk_below c13 (unhide hxb')) k5
                  have kbz := (unhide kb4).trans (((unhide hxb').trans (k5.mono (unhide hxb').size)).mono (show Q0 ≤ w4.heap.size by omega))
                  obtain ⟨x0, x1, x2⟩ := blk3 c10z
                  obtain ⟨y0, y1, y2⟩ := blk3 c13z
                  have f0 : v5.frozen? ⟨Q1, 0, none⟩ = false := Lib.frozen_of_heap c10z _
                  have f1 : v5.frozen? ⟨Q1, 1, none⟩ = false := Lib.frozen_of_heap c10z _
                  have f2 : v5.frozen? ⟨Q1, 2, none⟩ = false := Lib.frozen_of_heap c10z _
                  clear k5 hrd
                  go_wp2
                  have P9 := put3 (v0 := .int .i64 0) (v1 := .int .i64 0) (v2 := .int .i64 0) c10z
                  have B9 := set3_belowB (v0 := .int .i64 0) (v1 := .int .i64 0) (v2 := .int .i64 0) kbz (show Q0 ≤ Q1 by omega)
                  clear x0 x1 x2 y0 y1 y2 f0 f1 f2
                  generalize ((v5.setCell ⟨Q1, 0, none⟩ (.int .i64 0)).setCell ⟨Q1, 1, none⟩ (.int .i64 0)).setCell ⟨Q1, 2, none⟩ (.int .i64 0) = W9 at *
                  obtain ⟨o0, o1, o2⟩ := blk3 P9
                  refine bodyPost_ret (v := .tuple #[.agg #[.int .i64 0, .int .i64 0, .int .i64 0], .int .i64 7]) (by simp [results, Tryz.results33, go_sem, o0, o1, o2]) rfl ?_
                  exact unhide hno 7 _ (unhide hx7) (by exact B9)
                · have hx5 := hide (ownsRow_below (unhide hxo') k5)
                  have hb5 := hide ((unhide hxb').trans (k5.mono (unhide hxb').size))
                  have hz5 := (unhide hb5).size
                  have hti := hide (And.intro (timeO_ok hrd) (RD_bd hrd))
                  clear k5 hrd hxo' hxb'
                  go_wp2_with (at_builtin; refine wpList_i Tryz.underlying113 (X := v5) (B := w4.heap.size) (g := G) (n := 1) (cap := c) (L := xs) rfl _ _ rfl rfl (unhide hx5) v5.heap.size rfl rfl (by omega) hz5 ?_)
                  intro G' c' w' ho' hb'
                  have hN : Hid (TmI n d dr X0 X1 X2 X3 w4 w' G' c' 2) := hide ⟨xs ++ [x9], ho', (unhide hb5).trans hb', tm_more (ownI_len (unhide hx5)) (unhide hxt') (unhide hti)⟩
                  clear ho' hb' hx5 hb5 hxt' hti
                  go_wp2
                  go_roundw
                  case rel => exact ⟨2, G', c', by omega, by first | rfl | trivial | simp, rfl, hN⟩
                  case measure => simp [intOf]
              · have sw := cell_later hxb m5
                have hall := hide (show wr.cell? ⟨Q0, 0, none⟩ = some (.int .i64 n) ∧ wr.cell? ⟨Q0, 1, none⟩ = some (.int .i64 d) ∧ wr.cell? ⟨Q0, 2, none⟩ = some (.bool dr) ∧ wr.cell? ⟨g, 5, none⟩ = some (.string X2) ∧ Below wr.heap.size wr wr from ⟨q0, q1, q2, sw, Below.refl _ _⟩)
                rw [show ((2 : Nat) : Int) + 3 = 5 from rfl]
                clear q0 q1 q2 sw hxb
                go_wp2_with fail
                go_region_held3 (fun w' => w'.cell? ⟨Q0, 0, none⟩ = some (.int .i64 n) ∧ w'.cell? ⟨Q0, 1, none⟩ = some (.int .i64 d) ∧ w'.cell? ⟨Q0, 2, none⟩ = some (.bool dr) ∧ w'.cell? ⟨g, 5, none⟩ = some (.string X2) ∧ Below wr.heap.size wr w')
                  (first | (refine keep4B ?_ hb; assumption) | (exact keep4Bd (unhide hall)))
                  ((go_at_call 62; refine (srd_any n d dr X2 _ (by unfold maxLen; omega)).mono ?_; rintro e v5 ⟨x9, ok9, rfl, hrd, hb⟩))
                rename_i hH
                have k5 := hH.2.2.2.2
                clear hH hall hb
                cases ok9
                · have hx7 := hide (unhide h7 0 (unhide hA') (unhide hso) (unhide hC') (.inr (.inr (.inl (timeO_no hrd)))))
                  have c10z := blk_below (blk_below c10 (unhide hxb')) k5
                  have c13z := blk_below (blk_below c13 (unhide hxb')) k5
                  have kbz := (unhide kb4).trans (((unhide hxb').trans (k5.mono (unhide hxb').size)).mono (show Q0 ≤ w4.heap.size by omega))
                  obtain ⟨x0, x1, x2⟩ := blk3 c10z
                  obtain ⟨y0, y1, y2⟩ := blk3 c13z
                  have f0 : v5.frozen? ⟨Q1, 0, none⟩ = false := Lib.frozen_of_heap c10z _
                  have f1 : v5.frozen? ⟨Q1, 1, none⟩ = false := Lib.frozen_of_heap c10z _
                  have f2 : v5.frozen? ⟨Q1, 2, none⟩ = false := Lib.frozen_of_heap c10z _
                  clear k5 hrd
                  go_wp2
                  have P9 := put3 (v0 := .int .i64 0) (v1 := .int .i64 0) (v2 := .int .i64 0) c10z
                  have B9 := set3_belowB (v0 := .int .i64 0) (v1 := .int .i64 0) (v2 := .int .i64 0) kbz (show Q0 ≤ Q1 by omega)
                  clear x0 x1 x2 y0 y1 y2 f0 f1 f2
                  generalize ((v5.setCell ⟨Q1, 0, none⟩ (.int .i64 0)).setCell ⟨Q1, 1, none⟩ (.int .i64 0)).setCell ⟨Q1, 2, none⟩ (.int .i64 0) = W9 at *
                  obtain ⟨o0, o1, o2⟩ := blk3 P9
                  refine bodyPost_ret (v := .tuple #[.agg #[.int .i64 0, .int .i64 0, .int .i64 0], .int .i64 7]) (by simp [results, Tryz.results33, go_sem, o0, o1, o2]) rfl ?_
                  exact unhide hno 7 _ (unhide hx7) (by exact B9)
                · have hx5 := hide (ownsRow_below (unhide hxo') k5)
                  have hb5 := hide ((unhide hxb').trans (k5.mono (unhide hxb').size))
                  have hz5 := (unhide hb5).size
                  have hti := hide (And.intro (timeO_ok hrd) (RD_bd hrd))
                  clear k5 hrd hxo' hxb'
                  go_wp2_with (at_builtin; refine wpList_i Tryz.underlying113 (X := v5) (B := w4.heap.size) (g := G) (n := 2) (cap := c) (L := xs) rfl _ _ rfl rfl (unhide hx5) v5.heap.size rfl rfl (by omega) hz5 ?_)
                  intro G' c' w' ho' hb'
                  have hN : Hid (TmI n d dr X0 X1 X2 X3 w4 w' G' c' 3) := hide ⟨xs ++ [x9], ho', (unhide hb5).trans hb', tm_more (ownI_len (unhide hx5)) (unhide hxt') (unhide hti)⟩
                  clear ho' hb' hx5 hb5 hxt' hti
                  go_wp2
                  go_roundw
                  case rel => exact ⟨3, G', c', by omega, by first | rfl | trivial | simp, rfl, hN⟩
                  case measure => simp [intOf]
              · have sw := cell_later hxb m6
                have hall := hide (show wr.cell? ⟨Q0, 0, none⟩ = some (.int .i64 n) ∧ wr.cell? ⟨Q0, 1, none⟩ = some (.int .i64 d) ∧ wr.cell? ⟨Q0, 2, none⟩ = some (.bool dr) ∧ wr.cell? ⟨g, 6, none⟩ = some (.string X3) ∧ Below wr.heap.size wr wr from ⟨q0, q1, q2, sw, Below.refl _ _⟩)
                rw [show ((3 : Nat) : Int) + 3 = 6 from rfl]
                clear q0 q1 q2 sw hxb
                go_wp2_with fail
                go_region_held3 (fun w' => w'.cell? ⟨Q0, 0, none⟩ = some (.int .i64 n) ∧ w'.cell? ⟨Q0, 1, none⟩ = some (.int .i64 d) ∧ w'.cell? ⟨Q0, 2, none⟩ = some (.bool dr) ∧ w'.cell? ⟨g, 6, none⟩ = some (.string X3) ∧ Below wr.heap.size wr w')
                  (first | (refine keep4B ?_ hb; assumption) | (exact keep4Bd (unhide hall)))
                  ((go_at_call 62; refine (srd_any n d dr X3 _ (by unfold maxLen; omega)).mono ?_; rintro e v5 ⟨x9, ok9, rfl, hrd, hb⟩))
                rename_i hH
                have k5 := hH.2.2.2.2
                clear hH hall hb
                cases ok9
                · have hx7 := hide (unhide h7 0 (unhide hA') (unhide hso) (unhide hC') (.inr (.inr (.inr (timeO_no hrd)))))
                  have c10z := blk_below (blk_below c10 (unhide hxb')) k5
                  have c13z := blk_below (blk_below c13 (unhide hxb')) k5
                  have kbz := (unhide kb4).trans (((unhide hxb').trans (k5.mono (unhide hxb').size)).mono (show Q0 ≤ w4.heap.size by omega))
                  obtain ⟨x0, x1, x2⟩ := blk3 c10z
                  obtain ⟨y0, y1, y2⟩ := blk3 c13z
                  have f0 : v5.frozen? ⟨Q1, 0, none⟩ = false := Lib.frozen_of_heap c10z _
                  have f1 : v5.frozen? ⟨Q1, 1, none⟩ = false := Lib.frozen_of_heap c10z _
                  have f2 : v5.frozen? ⟨Q1, 2, none⟩ = false := Lib.frozen_of_heap c10z _
                  clear k5 hrd
                  go_wp2
                  have P9 := put3 (v0 := .int .i64 0) (v1 := .int .i64 0) (v2 := .int .i64 0) c10z
                  have B9 := set3_belowB (v0 := .int .i64 0) (v1 := .int .i64 0) (v2 := .int .i64 0) kbz (show Q0 ≤ Q1 by omega)
                  clear x0 x1 x2 y0 y1 y2 f0 f1 f2
                  generalize ((v5.setCell ⟨Q1, 0, none⟩ (.int .i64 0)).setCell ⟨Q1, 1, none⟩ (.int .i64 0)).setCell ⟨Q1, 2, none⟩ (.int .i64 0) = W9 at *
                  obtain ⟨o0, o1, o2⟩ := blk3 P9
                  refine bodyPost_ret (v := .tuple #[.agg #[.int .i64 0, .int .i64 0, .int .i64 0], .int .i64 7]) (by simp [results, Tryz.results33, go_sem, o0, o1, o2]) rfl ?_
                  exact unhide hno 7 _ (unhide hx7) (by exact B9)
                · have hx5 := hide (ownsRow_below (unhide hxo') k5)
                  have hb5 := hide ((unhide hxb').trans (k5.mono (unhide hxb').size))
                  have hz5 := (unhide hb5).size
                  have hti := hide (And.intro (timeO_ok hrd) (RD_bd hrd))
                  clear k5 hrd hxo' hxb'
                  go_wp2_with (at_builtin; refine wpList_i Tryz.underlying113 (X := v5) (B := w4.heap.size) (g := G) (n := 3) (cap := c) (L := xs) rfl _ _ rfl rfl (unhide hx5) v5.heap.size rfl rfl (by omega) hz5 ?_)
                  intro G' c' w' ho' hb'
                  have hN : Hid (TmI n d dr X0 X1 X2 X3 w4 w' G' c' 4) := hide ⟨xs ++ [x9], ho', (unhide hb5).trans hb', tm_more (ownI_len (unhide hx5)) (unhide hxt') (unhide hti)⟩
                  clear ho' hb' hx5 hb5 hxt' hti
                  go_wp2
                  go_roundw
                  case rel => exact ⟨4, G', c', by omega, by first | rfl | trivial | simp, rfl, hN⟩
                  case measure => simp [intOf]
              · rw [show ((4 : Nat) : Int) + 3 = 7 from rfl]
                obtain ⟨z0, z1, z2, z3, rfl⟩ := four_of (ownI_len (unhide hxo'))
                have g0 := ownI_at (k := 0) rfl (unhide hxo')
                have g1 := ownI_at (k := 1) rfl (unhide hxo')
                have g2 := ownI_at (k := 2) rfl (unhide hxo')
                have g3 := ownI_at (k := 3) rfl (unhide hxo')
                obtain ⟨T0, a0, b0'⟩ := unhide hxt' 0 z0 rfl
                obtain ⟨T1, a1, b1'⟩ := unhide hxt' 1 z1 rfl
                obtain ⟨T2, a2, b2'⟩ := unhide hxt' 2 z2 rfl
                obtain ⟨T3, a3, b3'⟩ := unhide hxt' 3 z3 rfl
                obtain ⟨nn, hnn⟩ : ∃ nn, z1 - z0 = nn := ⟨_, rfl⟩
                have hx8 := unhide h8 0 z0 z1 z2 z3 (unhide hA') (unhide hso) (unhide hC') T0 T1 T2 T3
                rw [hnn] at hx8
                have wn : IntKind.i64.wrap (z1 - z0) = nn := by rw [hnn, IntKind.wrap_i64]; omega
                have hx8' := hide hx8
                have hxbw := hide ((unhide kb4).trans ((unhide hxb').mono (show Q0 ≤ w4.heap.size by omega)))
                have hAz := (Below.refl wr.heap.size wr).alloc (Nat.le_refl _) (.cells #[.int .i64 0, .int .i64 0, .int .i64 0] 44)
                have g0a := cell_later hAz g0
                have g1a := cell_later hAz g1
                have hGn : G ≠ wr.heap.size := by have := World.block_lt_of_cell? _ _ g0; simp only at this; omega
                clear hAz
                have c10w := blk_below c10 (unhide hxb')
                have c13w := blk_below c13 (unhide hxb')
                clear hx8 T0 T1 T2 T3 q0 q1 q2 hxb hxo' hxt'
                have hVb := ((Below.refl wr.heap.size wr).alloc (Nat.le_refl _) (.cells #[.int .i64 0, .int .i64 z0, .int .i64 nn] 44)).drew
                have p22 : (wr.alloc (.cells #[.int .i64 0, .int .i64 z0, .int .i64 nn] 44)).drew.heap[wr.heap.size]? = some (.cells #[.int .i64 0, .int .i64 z0, .int .i64 nn] 44 (0, 0)) := alloc_new wr _
                have hVs : wr.heap.size < (wr.alloc (.cells #[.int .i64 0, .int .i64 z0, .int .i64 nn] 44)).drew.heap.size := (Array.getElem?_eq_some_iff.1 p22).1
                obtain ⟨V, hV⟩ : ∃ V, V = (wr.alloc (.cells #[.int .i64 0, .int .i64 z0, .int .i64 nn] 44)).drew := ⟨_, rfl⟩
                rw [← hV] at hVb p22 hVs
                have g2V := cell_later hVb g2
                have g3V := cell_later hVb g3
                have c10V := blk_below c10w hVb
                have c13V := blk_below c13w hVb
                have kbV := hide ((unhide hxbw).trans (hVb.mono (by have := (unhide hxbw).size; omega)))
                have hV' := hide hV
                have hen := (unhide hT').at0
                have he0 := clen_nonneg (unhide hT').ok.2.1
                have he9 := (unhide hT').ok.2.2
                have we : IntKind.i64.wrap (en + nn) = en + nn := by rw [IntKind.wrap_i64]; omega
                clear hV hen he0 he9
                by_cases hc : COk (0, z0, nn)
                · have hcd := hide (decide_eq_true hc)
                  have hc' := hide hc
                  clear hc
                  go_wp2_with fail
                  go_region
                  rw [← unhide hV']
                  generalize wr.heap.size = B2 at *
                  obtain ⟨e0, e1, e2⟩ := blk3 p22
                  clear g0 g1 g2 g3 g0a g1a hV' c10w c13w c10 c13 hxb' hVb
                  go_wp2_with fail
                  refine (sclip_any 0 z0 nn true _ (unhide hcd)).mono ?_
                  rintro e v6 ⟨rfl, k6⟩
                  have g2v := cell_later k6 g2V
                  have g3v := cell_later k6 g3V
                  have p22v := blk_below p22 k6
                  obtain ⟨e0v, e1v, e2v⟩ := blk3 p22v
                  have c10v := blk_below c10V k6
                  have c13v := blk_below c13V k6
                  have kbv := hide ((unhide kbV).trans (k6.mono (by have := (unhide kbV).size; omega)))
                  have hsv := k6.size
                  clear k6 g2V g3V p22 c10V c13V kbV e0 e1 e2
                  by_cases hz2 : z2 = en
                  · have n2 : (z2 != en) = false := by simp [hz2]
                    by_cases hz3 : z3 = en + nn
                    · have n3 : (z3 != en + nn) = false := by simp [hz3]
                      go_wp2_with fail
                      go_quiet (fail)
                      have hqb : Below v6.heap.size v6 (v6.drewN nq) := below_drewN (Below.refl _ _) _
                      have c10q := blk_below c10v hqb
                      have c13q := blk_below c13v hqb
                      have p22q := blk_below p22v hqb
                      have kbq := hide ((unhide kbv).trans (hqb.mono (by have := (unhide kbv).size; omega)))
                      generalize v6.drewN nq = v7 at *
                      have hK7 := hide ((unhide hK').below (w' := v7) (by rw [hQ0]; exact unhide kbq))
                      clear hqb g2v g3v e0v e1v e2v c10v c13v p22v kbv
                      go_wp2_with fail
                      refine reg33 v7 tb tq tc B2 tr 0 z0 nn (by omega) (unhide hK7) p22q ?_
                      intro g9 c9 x4 x5 x6 x7 x8 w9 ho9 hb9
                      obtain ⟨AL, hAL⟩ : ∃ AL, tr ++ [(0, z0, nn)] = AL := ⟨_, rfl⟩
                      obtain ⟨al, hal⟩ : ∃ al, tr.length + 1 = al := ⟨_, rfl⟩
                      have hlen : AL.length = al := by rw [← hAL, ← hal]; simp
                      rw [hAL, hal] at ho9
                      rw [hal]
                      have hokA : AOk AL := by rw [← hAL]; exact (unhide hT').ok.2.1.append (AOk.cons (unhide hc') AOk.nil)
                      have sj := sjoin_any (some ⟨g9, 0, none⟩) c9 AL w9 (by omega) hokA (kls_own ho9)
                      have st := fun (vb : Bool) (hvb : decide (TOk AL) = vb) (X : World) (hX : Below w9.heap.size w9 X) => strack_any (some ⟨g9, 0, none⟩) c9 AL vb X (by unfold maxLen; omega) ((kls_own ho9).below hX) hvb
                      rw [hlen] at sj st
                      obtain ⟨jl, hjl⟩ : ∃ jl, (join AL).length = jl := ⟨_, rfl⟩
                      have hjs := join_same (c := (0, z0, nn)) (unhide hT').jo
                      rw [hAL, hjl, hlen] at hjs
                      have sj2 : Calls Tryz.prog 26 #[.slice (some ⟨g9, 0, none⟩) al c9] w9 fun e w' => ∃ g c, e = .returned (.slice (some ⟨g, 0, none⟩) jl c) ∧ Below w9.heap.size w9 w' := sj.mono (fun e w' ⟨g, c, h1, _, _, h4⟩ => ⟨g, c, by rw [h1, hjl], h4⟩)
                      have c10r := blk_below c10q (hb9.mono (Nat.le_refl _))
                      have c13r := blk_below c13q (hb9.mono (Nat.le_refl _))
                      have p22r := blk_below p22q (hb9.mono (Nat.le_refl _))
                      have kbr := hide ((unhide kbq).trans (hb9.mono (by have := (unhide kbq).size; omega)))
                      have hadd := hide (fun (h : lastGoes tr (0, z0, nn) ∨ ¬ TOk AL) => (unhide hx8').trans (addO_10 (unhide hc') hz2 (by simp only; omega) (by rw [hAL]; exact h)))
                      have hgood := hide (fun (h : ¬ lastGoes tr (0, z0, nn)) (k : TOk AL) => (unhide hx8').trans (addO_0 (unhide hc') hz2 (by simp only; omega) h (by rw [hAL]; exact k)))
                      have sj' := hide sj2
                      have st' := hide st
                      have hjs' := hide hjs
                      clear sj sj2 st hjs ho9 hb9 hjl hlen hal hAL hokA c10q c13q p22q kbq hK7 n2 n3 hz2 hz3 we wn hnn
                      by_cases hlg : jl = al
                      · have hnl := hide (show ¬ lastGoes tr (0, z0, nn) from fun h => ((unhide hjs').2 h) hlg)
                        have t1 : ((jl : Int) != (al : Int)) = false := by simp [hlg]
                        have t2 : (jl != al) = false := by simp [hlg]
                        clear hlg
                        by_cases hTk : TOk AL
                        · have hd := hide (decide_eq_true hTk)
                          have hx0 := hide (unhide hgood (unhide hnl) hTk)
                          clear hTk
                          go_wp2_with fail
                          refine (unhide sj').mono ?_
                          rintro e w10 ⟨g10, c10', rfl, k10⟩
                          have h10 := hide k10
                          clear k10
                          go_wp2_with fail
                          refine (unhide st' true (unhide hd) _ (unhide h10)).mono ?_
                          rintro e w11 ⟨rfl, k11⟩
                          have kk := (unhide h10).trans (k11.mono (unhide h10).size)
                          have c10s := blk_below c10r kk
                          have p22s := blk_below p22r kk
                          have kbs := (unhide kbr).trans (kk.mono (by have := (unhide kbr).size; omega))
                          obtain ⟨x0, x1, x2⟩ := blk3 c10s
                          obtain ⟨y0, y1, y2⟩ := blk3 p22s
                          have f0 : w11.frozen? ⟨Q1, 0, none⟩ = false := Lib.frozen_of_heap c10s _
                          have f1 : w11.frozen? ⟨Q1, 1, none⟩ = false := Lib.frozen_of_heap c10s _
                          have f2 : w11.frozen? ⟨Q1, 2, none⟩ = false := Lib.frozen_of_heap c10s _
                          clear k11 kk c10r c13r p22r
                          go_wp2
                          have P9 := put3 (v0 := .int .i64 0) (v1 := .int .i64 z0) (v2 := .int .i64 nn) c10s
                          have B9 := set3_belowB (v0 := .int .i64 0) (v1 := .int .i64 z0) (v2 := .int .i64 nn) kbs (show Q0 ≤ Q1 by omega)
                          clear x0 x1 x2 y0 y1 y2 f0 f1 f2
                          generalize ((w11.setCell ⟨Q1, 0, none⟩ (.int .i64 0)).setCell ⟨Q1, 1, none⟩ (.int .i64 z0)).setCell ⟨Q1, 2, none⟩ (.int .i64 nn) = W9 at *
                          obtain ⟨o0, o1, o2⟩ := blk3 P9
                          refine bodyPost_ret (v := .tuple #[.agg #[.int .i64 0, .int .i64 z0, .int .i64 nn], .int .i64 0]) (by simp [results, Tryz.results33, go_sem, o0, o1, o2]) rfl ?_
                          exact ⟨by rw [unhide hx0], by rw [hQ0]; exact B9⟩
                        · have hd := hide (decide_eq_false hTk)
                          have hx10 := hide (unhide hadd (.inr hTk))
                          clear hTk
                          go_wp2_with fail
                          refine (unhide sj').mono ?_
                          rintro e w10 ⟨g10, c10', rfl, k10⟩
                          have h10 := hide k10
                          clear k10
                          go_wp2_with fail
                          refine (unhide st' false (unhide hd) _ (unhide h10)).mono ?_
                          rintro e w11 ⟨rfl, k11⟩
                          have kk := (unhide h10).trans (k11.mono (unhide h10).size)
                          have c10s := blk_below c10r kk
                          have c13s := blk_below c13r kk
                          have kbs := (unhide kbr).trans (kk.mono (by have := (unhide kbr).size; omega))
                          obtain ⟨x0, x1, x2⟩ := blk3 c10s
                          obtain ⟨y0, y1, y2⟩ := blk3 c13s
                          have f0 : w11.frozen? ⟨Q1, 0, none⟩ = false := Lib.frozen_of_heap c10s _
                          have f1 : w11.frozen? ⟨Q1, 1, none⟩ = false := Lib.frozen_of_heap c10s _
                          have f2 : w11.frozen? ⟨Q1, 2, none⟩ = false := Lib.frozen_of_heap c10s _
                          clear k11 kk c10r c13r p22r
                          go_wp2
                          have P9 := put3 (v0 := .int .i64 0) (v1 := .int .i64 0) (v2 := .int .i64 0) c10s
                          have B9 := set3_belowB (v0 := .int .i64 0) (v1 := .int .i64 0) (v2 := .int .i64 0) kbs (show Q0 ≤ Q1 by omega)
                          clear x0 x1 x2 y0 y1 y2 f0 f1 f2
                          generalize ((w11.setCell ⟨Q1, 0, none⟩ (.int .i64 0)).setCell ⟨Q1, 1, none⟩ (.int .i64 0)).setCell ⟨Q1, 2, none⟩ (.int .i64 0) = W9 at *
                          obtain ⟨o0, o1, o2⟩ := blk3 P9
                          refine bodyPost_ret (v := .tuple #[.agg #[.int .i64 0, .int .i64 0, .int .i64 0], .int .i64 10]) (by simp [results, Tryz.results33, go_sem, o0, o1, o2]) rfl ?_
                          exact unhide hno 10 _ (unhide hx10) (by exact B9)
                      · have hx10 := hide (unhide hadd (.inl ((unhide hjs').1 hlg)))
                        have t1 : ((jl : Int) != (al : Int)) = true := by simp; omega
                        have t2 : (jl != al) = true := by simpa using hlg
                        clear hlg
                        go_wp2_with fail
                        refine (unhide sj').mono ?_
                        rintro e w10 ⟨g10, c10', rfl, k10⟩
                        have c10s := blk_below c10r k10
                        have c13s := blk_below c13r k10
                        have kbs := (unhide kbr).trans (k10.mono (by have := (unhide kbr).size; omega))
                        obtain ⟨x0, x1, x2⟩ := blk3 c10s
                        obtain ⟨y0, y1, y2⟩ := blk3 c13s
                        have f0 : w10.frozen? ⟨Q1, 0, none⟩ = false := Lib.frozen_of_heap c10s _
                        have f1 : w10.frozen? ⟨Q1, 1, none⟩ = false := Lib.frozen_of_heap c10s _
                        have f2 : w10.frozen? ⟨Q1, 2, none⟩ = false := Lib.frozen_of_heap c10s _
                        clear k10 c10r c13r p22r
                        go_wp2
                        have P9 := put3 (v0 := .int .i64 0) (v1 := .int .i64 0) (v2 := .int .i64 0) c10s
                        have B9 := set3_belowB (v0 := .int .i64 0) (v1 := .int .i64 0) (v2 := .int .i64 0) kbs (show Q0 ≤ Q1 by omega)
                        clear x0 x1 x2 y0 y1 y2 f0 f1 f2
                        generalize ((w10.setCell ⟨Q1, 0, none⟩ (.int .i64 0)).setCell ⟨Q1, 1, none⟩ (.int .i64 0)).setCell ⟨Q1, 2, none⟩ (.int .i64 0) = W9 at *
                        obtain ⟨o0, o1, o2⟩ := blk3 P9
                        refine bodyPost_ret (v := .tuple #[.agg #[.int .i64 0, .int .i64 0, .int .i64 0], .int .i64 10]) (by simp [results, Tryz.results33, go_sem, o0, o1, o2]) rfl ?_
                        exact unhide hno 10 _ (unhide hx10) (by exact B9)
                    · have n3 : (z3 != en + nn) = true := by simpa using hz3
                      have hx9 := hide ((unhide hx8').trans (addO_9 (unhide hc') (.inr (by simp only; omega))))
                      go_wp2_with fail
                      go_quiet (fail)
                      have hqb : Below v6.heap.size v6 (v6.drewN nq) := below_drewN (Below.refl _ _) _
                      have c10q := blk_below c10v hqb
                      have c13q := blk_below c13v hqb
                      have kbq := (unhide kbv).trans (hqb.mono (by have := (unhide kbv).size; omega))
                      generalize v6.drewN nq = v7 at *
                      obtain ⟨x0, x1, x2⟩ := blk3 c10q
                      obtain ⟨y0, y1, y2⟩ := blk3 c13q
                      have f0 : v7.frozen? ⟨Q1, 0, none⟩ = false := Lib.frozen_of_heap c10q _
                      have f1 : v7.frozen? ⟨Q1, 1, none⟩ = false := Lib.frozen_of_heap c10q _
                      have f2 : v7.frozen? ⟨Q1, 2, none⟩ = false := Lib.frozen_of_heap c10q _
                      clear hqb g2v g3v e0v e1v e2v c10v c13v
                      go_wp2
                      have P9 := put3 (v0 := .int .i64 0) (v1 := .int .i64 0) (v2 := .int .i64 0) c10q
                      have B9 := set3_belowB (v0 := .int .i64 0) (v1 := .int .i64 0) (v2 := .int .i64 0) kbq (show Q0 ≤ Q1 by omega)
                      clear x0 x1 x2 y0 y1 y2 f0 f1 f2
                      generalize ((v7.setCell ⟨Q1, 0, none⟩ (.int .i64 0)).setCell ⟨Q1, 1, none⟩ (.int .i64 0)).setCell ⟨Q1, 2, none⟩ (.int .i64 0) = W9 at *
                      obtain ⟨o0, o1, o2⟩ := blk3 P9
                      refine bodyPost_ret (v := .tuple #[.agg #[.int .i64 0, .int .i64 0, .int .i64 0], .int .i64 9]) (by simp [results, Tryz.results33, go_sem, o0, o1, o2]) rfl ?_
                      exact unhide hno 9 _ (unhide hx9) (by exact B9)
                  · have n2 : (z2 != en) = true := by simpa using hz2
                    have hx9 := hide ((unhide hx8').trans (addO_9 (unhide hc') (.inl hz2)))
                    go_wp2_with fail
                    go_quiet (fail)
                    have hqb : Below v6.heap.size v6 (v6.drewN nq) := below_drewN (Below.refl _ _) _
                    have c10q := blk_below c10v hqb
                    have c13q := blk_below c13v hqb
                    have kbq := (unhide kbv).trans (hqb.mono (by have := (unhide kbv).size; omega))
                    generalize v6.drewN nq = v7 at *
                    obtain ⟨x0, x1, x2⟩ := blk3 c10q
                    obtain ⟨y0, y1, y2⟩ := blk3 c13q
                    have f0 : v7.frozen? ⟨Q1, 0, none⟩ = false := Lib.frozen_of_heap c10q _
                    have f1 : v7.frozen? ⟨Q1, 1, none⟩ = false := Lib.frozen_of_heap c10q _
                    have f2 : v7.frozen? ⟨Q1, 2, none⟩ = false := Lib.frozen_of_heap c10q _
                    clear hqb g2v g3v e0v e1v e2v c10v c13v
                    go_wp2
                    have P9 := put3 (v0 := .int .i64 0) (v1 := .int .i64 0) (v2 := .int .i64 0) c10q
                    have B9 := set3_belowB (v0 := .int .i64 0) (v1 := .int .i64 0) (v2 := .int .i64 0) kbq (show Q0 ≤ Q1 by omega)
                    clear x0 x1 x2 y0 y1 y2 f0 f1 f2
                    generalize ((v7.setCell ⟨Q1, 0, none⟩ (.int .i64 0)).setCell ⟨Q1, 1, none⟩ (.int .i64 0)).setCell ⟨Q1, 2, none⟩ (.int .i64 0) = W9 at *
                    obtain ⟨o0, o1, o2⟩ := blk3 P9
                    refine bodyPost_ret (v := .tuple #[.agg #[.int .i64 0, .int .i64 0, .int .i64 0], .int .i64 9]) (by simp [results, Tryz.results33, go_sem, o0, o1, o2]) rfl ?_
                    exact unhide hno 9 _ (unhide hx9) (by exact B9)
                · have hcd := hide (decide_eq_false hc)
                  have hx8 := hide ((unhide hx8').trans (addO_8 hc))
                  clear hc
                  go_wp2_with fail
                  go_region
                  rw [← unhide hV']
                  generalize wr.heap.size = B2 at *
                  obtain ⟨e0, e1, e2⟩ := blk3 p22
                  clear g0 g1 g2 g3 g0a g1a hV' c10w c13w c10 c13 hxb' hVb g2V g3V
                  go_wp2_with fail
                  refine (sclip_any 0 z0 nn false _ (unhide hcd)).mono ?_
                  rintro e v6 ⟨rfl, k6⟩
                  have c10v := blk_below c10V k6
                  have c13v := blk_below c13V k6
                  have kbv := (unhide kbV).trans (k6.mono (by have := (unhide kbV).size; omega))
                  obtain ⟨x0, x1, x2⟩ := blk3 c10v
                  obtain ⟨y0, y1, y2⟩ := blk3 c13v
                  have f0 : v6.frozen? ⟨Q1, 0, none⟩ = false := Lib.frozen_of_heap c10v _
                  have f1 : v6.frozen? ⟨Q1, 1, none⟩ = false := Lib.frozen_of_heap c10v _
                  have f2 : v6.frozen? ⟨Q1, 2, none⟩ = false := Lib.frozen_of_heap c10v _
                  clear k6 e0 e1 e2 c10V c13V
                  go_wp2
                  have P9 := put3 (v0 := .int .i64 0) (v1 := .int .i64 0) (v2 := .int .i64 0) c10v
                  have B9 := set3_belowB (v0 := .int .i64 0) (v1 := .int .i64 0) (v2 := .int .i64 0) kbv (show Q0 ≤ Q1 by omega)
                  clear x0 x1 x2 y0 y1 y2 f0 f1 f2
                  generalize ((v6.setCell ⟨Q1, 0, none⟩ (.int .i64 0)).setCell ⟨Q1, 1, none⟩ (.int .i64 0)).setCell ⟨Q1, 2, none⟩ (.int .i64 0) = W9 at *
                  obtain ⟨o0, o1, o2⟩ := blk3 P9
                  refine bodyPost_ret (v := .tuple #[.agg #[.int .i64 0, .int .i64 0, .int .i64 0], .int .i64 8]) (by simp [results, Tryz.results33, go_sem, o0, o1, o2]) rfl ?_
                  exact unhide hno 8 _ (unhide hx8) (by exact B9)
          · have hbB : (XB.toList == [66, 76]) = false := by rw [Lib.toList_data, beq_eq_false_iff_ne]; exact hB
            obtain ⟨b0, r, hbr⟩ : ∃ b0 r, XB.data.toList = b0 :: r := List.exists_cons_of_ne_nil eXB
            obtain ⟨Y, hY⟩ : ∃ Y, XB.extract 1 XB.size = Y := ⟨_, rfl⟩
            have hix : ∀ w, (Instr.index 9 (.string XB) (.int .i64 0)).run Tryz.prog w = .ok (.int .u8 b0.toNat) w := fun w => idx_str (k := 0) hbr (by rfl) w
            have hYs : Y.size ≤ 20000 := by rw [← hY]; simp; omega
            have hYr : Y.data.toList = r := by rw [← hY, ext_str hbr (by rw [Lib.size_eq, hbr]; simp)]; rw [Lib.size_eq, hbr]; simp
            have h1x : 1 ≤ XB.size := by rw [Lib.size_eq, hbr]; simp
            have hbr' := hide hbr
            rw [hbr] at hB
            have hB' := hide hB
            clear hbr hB
            go_wp2_with fail
            refine (snum_any Y w4 hYs).mono ?_
            rintro e w5 ⟨y, ok, rfl, hnr, rfl⟩
            rw [hYr] at hnr
            have hnr' := hide hnr
            clear hnr
            by_cases hgd : b0 = 82 ∧ ok = true ∧ 1 ≤ y ∧ y ≤ 500
            · obtain ⟨h82, hokk, hy1, hy2⟩ := hgd
              subst hokk
              have q82 : (((b0.toNat : Nat) : Int) != 82) = false := by rw [h82]; rfl
              have hso := hide (show srcO XB.data.toList = some y by rw [unhide hbr']; exact src_num_ok (unhide hnr') h82 hy1 hy2)
              clear h82
              go_wp2_with fail
              refine (src_any y true _ (by simp [hy1, hy2])).mono ?_
              rintro e w6 ⟨rfl, rfl⟩
              go_wp2_with fail
              obtain ⟨r0, r1, r2⟩ := blk3 c5
              have hQW : Q1 < w6.heap.size := (Array.getElem?_eq_some_iff.1 c10).1
              have hst : Hid (TmI n d dr X0 X1 X2 X3 w6 (w6.alloc (.cells #[] 2)) w6.heap.size 0 0) := hide ⟨[], ownI_lit0 w6 (Nat.le_refl _), (Below.refl _ _).alloc (Nat.le_refl _) _, fun j x h => by simp at h⟩
              clear m1 m2
              go_loopw [18, 19] (fun s t wr => ∃ k G c : Nat, k ≤ 4 ∧ t = .int .i64 ((k : Int) + 3) ∧ s = .slice (some ⟨G, 0, none⟩) k c ∧ Hid (TmI n d dr X0 X1 X2 X3 w6 wr G c k)) (fun _ t _ => 8 - (intOf t).toNat)
              case atStart => exact ⟨0, w6.heap.size, 0, by omega, by simp, rfl, hst⟩
              case round =>
                clear hst
                obtain ⟨k, G, c, hk, rfl, rfl, hTm⟩ := hrel
                obtain ⟨xs, hxo, hxb, hxt⟩ := unhide hTm
                have q0 := cell_later hxb r0
                have q1 := cell_later hxb r1
                have q2 := cell_later hxb r2
                have hxo' := hide hxo
                have hxb' := hide hxb
                have hxt' := hide hxt
                have hszz := hxb.size
                clear hTm hxo hxt r0 r1 r2
                obtain rfl | rfl | rfl | rfl | rfl : k = 0 ∨ k = 1 ∨ k = 2 ∨ k = 3 ∨ k = 4 := by omega
                · have sw := cell_later hxb m3
                  have hall := hide (show wr.cell? ⟨Q0, 0, none⟩ = some (.int .i64 n) ∧ wr.cell? ⟨Q0, 1, none⟩ = some (.int .i64 d) ∧ wr.cell? ⟨Q0, 2, none⟩ = some (.bool dr) ∧ wr.cell? ⟨g, 3, none⟩ = some (.string X0) ∧ Below wr.heap.size wr wr from ⟨q0, q1, q2, sw, Below.refl _ _⟩)
                  rw [show ((0 : Nat) : Int) + 3 = 3 from rfl]
                  clear q0 q1 q2 sw hxb
                  go_wp2_with fail
                  go_region_held3 (fun w' => w'.cell? ⟨Q0, 0, none⟩ = some (.int .i64 n) ∧ w'.cell? ⟨Q0, 1, none⟩ = some (.int .i64 d) ∧ w'.cell? ⟨Q0, 2, none⟩ = some (.bool dr) ∧ w'.cell? ⟨g, 3, none⟩ = some (.string X0) ∧ Below wr.heap.size wr w')
                    (first | (refine keep4B ?_ hb; assumption) | (exact keep4Bd (unhide hall)))
                    ((go_at_call 62; refine (srd_any n d dr X0 _ (by unfold maxLen; omega)).mono ?_; rintro e v5 ⟨x9, ok9, rfl, hrd, hb⟩))
                  rename_i hH
                  have k5 := hH.2.2.2.2
                  clear hH hall hb
                  cases ok9
                  · have hx7 := hide (unhide h7 y (unhide hA') (unhide hso) (unhide hC') (.inl (timeO_no hrd)))
                    have c10z := blk_below (blk_below c10 (unhide hxb')) k5
                    have c13z := blk_below (blk_below c13 (unhide hxb')) k5
                    have kbz := (unhide kb4).trans (((unhide hxb').trans (k5.mono (unhide hxb').size)).mono (show Q0 ≤ w6.heap.size by omega))
                    obtain ⟨x0, x1, x2⟩ := blk3 c10z
                    obtain ⟨y0, y1, y2⟩ := blk3 c13z
                    have f0 : v5.frozen? ⟨Q1, 0, none⟩ = false := Lib.frozen_of_heap c10z _
                    have f1 : v5.frozen? ⟨Q1, 1, none⟩ = false := Lib.frozen_of_heap c10z _
                    have f2 : v5.frozen? ⟨Q1, 2, none⟩ = false := Lib.frozen_of_heap c10z _
                    clear k5 hrd
                    go_wp2
                    have P9 := put3 (v0 := .int .i64 0) (v1 := .int .i64 0) (v2 := .int .i64 0) c10z
                    have B9 := set3_belowB (v0 := .int .i64 0) (v1 := .int .i64 0) (v2 := .int .i64 0) kbz (show Q0 ≤ Q1 by omega)
                    clear x0 x1 x2 y0 y1 y2 f0 f1 f2
                    generalize ((v5.setCell ⟨Q1, 0, none⟩ (.int .i64 0)).setCell ⟨Q1, 1, none⟩ (.int .i64 0)).setCell ⟨Q1, 2, none⟩ (.int .i64 0) = W9 at *
                    obtain ⟨o0, o1, o2⟩ := blk3 P9
                    refine bodyPost_ret (v := .tuple #[.agg #[.int .i64 0, .int .i64 0, .int .i64 0], .int .i64 7]) (by simp [results, Tryz.results33, go_sem, o0, o1, o2]) rfl ?_
                    exact unhide hno 7 _ (unhide hx7) (by exact B9)
                  · have hx5 := hide (ownsRow_below (unhide hxo') k5)
                    have hb5 := hide ((unhide hxb').trans (k5.mono (unhide hxb').size))
                    have hz5 := (unhide hb5).size
                    have hti := hide (And.intro (timeO_ok hrd) (RD_bd hrd))
                    clear k5 hrd hxo' hxb'
                    go_wp2_with (at_builtin; refine wpList_i Tryz.underlying113 (X := v5) (B := w6.heap.size) (g := G) (n := 0) (cap := c) (L := xs) rfl _ _ rfl rfl (unhide hx5) v5.heap.size rfl rfl (by omega) hz5 ?_)
                    intro G' c' w' ho' hb'
                    have hN : Hid (TmI n d dr X0 X1 X2 X3 w6 w' G' c' 1) := hide ⟨xs ++ [x9], ho', (unhide hb5).trans hb', tm_more (ownI_len (unhide hx5)) (unhide hxt') (unhide hti)⟩
                    clear ho' hb' hx5 hb5 hxt' hti
                    go_wp2
                    go_roundw
                    case rel => exact ⟨1, G', c', by omega, by first | rfl | trivial | simp, rfl, hN⟩
                    case measure => simp [intOf]
                · have sw := cell_later hxb m4
                  have hall := hide (show wr.cell? ⟨Q0, 0, none⟩ = some (.int .i64 n) ∧ wr.cell? ⟨Q0, 1, none⟩ = some (.int .i64 d) ∧ wr.cell? ⟨Q0, 2, none⟩ = some (.bool dr) ∧ wr.cell? ⟨g, 4, none⟩ = some (.string X1) ∧ Below wr.heap.size wr wr from ⟨q0, q1, q2, sw, Below.refl _ _⟩)
                  rw [show ((1 : Nat) : Int) + 3 = 4 from rfl]
                  clear q0 q1 q2 sw hxb
                  go_wp2_with fail
                  go_region_held3 (fun w' => w'.cell? ⟨Q0, 0, none⟩ = some (.int .i64 n) ∧ w'.cell? ⟨Q0, 1, none⟩ = some (.int .i64 d) ∧ w'.cell? ⟨Q0, 2, none⟩ = some (.bool dr) ∧ w'.cell? ⟨g, 4, none⟩ = some (.string X1) ∧ Below wr.heap.size wr w')
                    (first | (refine keep4B ?_ hb; assumption) | (exact keep4Bd (unhide hall)))
                    ((go_at_call 62; refine (srd_any n d dr X1 _ (by unfold maxLen; omega)).mono ?_; rintro e v5 ⟨x9, ok9, rfl, hrd, hb⟩))
                  rename_i hH
                  have k5 := hH.2.2.2.2
                  clear hH hall hb
                  cases ok9
                  · have hx7 := hide (unhide h7 y (unhide hA') (unhide hso) (unhide hC') (.inr (.inl (timeO_no hrd))))
                    have c10z := blk_below (blk_below c10 (unhide hxb')) k5
                    have c13z := blk_below (blk_below c13 (unhide hxb')) k5
                    have kbz := (unhide kb4).trans (((unhide hxb').trans (k5.mono (unhide hxb').size)).mono (show Q0 ≤ w6.heap.size by omega))
                    obtain ⟨x0, x1, x2⟩ := blk3 c10z
                    obtain ⟨y0, y1, y2⟩ := blk3 c13z
                    have f0 : v5.frozen? ⟨Q1, 0, none⟩ = false := Lib.frozen_of_heap c10z _
                    have f1 : v5.frozen? ⟨Q1, 1, none⟩ = false := Lib.frozen_of_heap c10z _
                    have f2 : v5.frozen? ⟨Q1, 2, none⟩ = false := Lib.frozen_of_heap c10z _
                    clear k5 hrd
                    go_wp2
                    have P9 := put3 (v0 := .int .i64 0) (v1 := .int .i64 0) (v2 := .int .i64 0) c10z
                    have B9 := set3_belowB (v0 := .int .i64 0) (v1 := .int .i64 0) (v2 := .int .i64 0) kbz (show Q0 ≤ Q1 by omega)
                    clear x0 x1 x2 y0 y1 y2 f0 f1 f2
                    generalize ((v5.setCell ⟨Q1, 0, none⟩ (.int .i64 0)).setCell ⟨Q1, 1, none⟩ (.int .i64 0)).setCell ⟨Q1, 2, none⟩ (.int .i64 0) = W9 at *
                    obtain ⟨o0, o1, o2⟩ := blk3 P9
                    refine bodyPost_ret (v := .tuple #[.agg #[.int .i64 0, .int .i64 0, .int .i64 0], .int .i64 7]) (by simp [results, Tryz.results33, go_sem, o0, o1, o2]) rfl ?_
                    exact unhide hno 7 _ (unhide hx7) (by exact B9)
                  · have hx5 := hide (ownsRow_below (unhide hxo') k5)
                    have hb5 := hide ((unhide hxb').trans (k5.mono (unhide hxb').size))
                    have hz5 := (unhide hb5).size
                    have hti := hide (And.intro (timeO_ok hrd) (RD_bd hrd))
                    clear k5 hrd hxo' hxb'
                    go_wp2_with (at_builtin; refine wpList_i Tryz.underlying113 (X := v5) (B := w6.heap.size) (g := G) (n := 1) (cap := c) (L := xs) rfl _ _ rfl rfl (unhide hx5) v5.heap.size rfl rfl (by omega) hz5 ?_)
                    intro G' c' w' ho' hb'
                    have hN : Hid (TmI n d dr X0 X1 X2 X3 w6 w' G' c' 2) := hide ⟨xs ++ [x9], ho', (unhide hb5).trans hb', tm_more (ownI_len (unhide hx5)) (unhide hxt') (unhide hti)⟩
                    clear ho' hb' hx5 hb5 hxt' hti
                    go_wp2
                    go_roundw
                    case rel => exact ⟨2, G', c', by omega, by first | rfl | trivial | simp, rfl, hN⟩
                    case measure => simp [intOf]
                · have sw := cell_later hxb m5
                  have hall := hide (show wr.cell? ⟨Q0, 0, none⟩ = some (.int .i64 n) ∧ wr.cell? ⟨Q0, 1, none⟩ = some (.int .i64 d) ∧ wr.cell? ⟨Q0, 2, none⟩ = some (.bool dr) ∧ wr.cell? ⟨g, 5, none⟩ = some (.string X2) ∧ Below wr.heap.size wr wr from ⟨q0, q1, q2, sw, Below.refl _ _⟩)
                  rw [show ((2 : Nat) : Int) + 3 = 5 from rfl]
                  clear q0 q1 q2 sw hxb
                  go_wp2_with fail
                  go_region_held3 (fun w' => w'.cell? ⟨Q0, 0, none⟩ = some (.int .i64 n) ∧ w'.cell? ⟨Q0, 1, none⟩ = some (.int .i64 d) ∧ w'.cell? ⟨Q0, 2, none⟩ = some (.bool dr) ∧ w'.cell? ⟨g, 5, none⟩ = some (.string X2) ∧ Below wr.heap.size wr w')
                    (first | (refine keep4B ?_ hb; assumption) | (exact keep4Bd (unhide hall)))
                    ((go_at_call 62; refine (srd_any n d dr X2 _ (by unfold maxLen; omega)).mono ?_; rintro e v5 ⟨x9, ok9, rfl, hrd, hb⟩))
                  rename_i hH
                  have k5 := hH.2.2.2.2
                  clear hH hall hb
                  cases ok9
                  · have hx7 := hide (unhide h7 y (unhide hA') (unhide hso) (unhide hC') (.inr (.inr (.inl (timeO_no hrd)))))
                    have c10z := blk_below (blk_below c10 (unhide hxb')) k5
                    have c13z := blk_below (blk_below c13 (unhide hxb')) k5
                    have kbz := (unhide kb4).trans (((unhide hxb').trans (k5.mono (unhide hxb').size)).mono (show Q0 ≤ w6.heap.size by omega))
                    obtain ⟨x0, x1, x2⟩ := blk3 c10z
                    obtain ⟨y0, y1, y2⟩ := blk3 c13z
                    have f0 : v5.frozen? ⟨Q1, 0, none⟩ = false := Lib.frozen_of_heap c10z _
                    have f1 : v5.frozen? ⟨Q1, 1, none⟩ = false := Lib.frozen_of_heap c10z _
                    have f2 : v5.frozen? ⟨Q1, 2, none⟩ = false := Lib.frozen_of_heap c10z _
                    clear k5 hrd
                    go_wp2
                    have P9 := put3 (v0 := .int .i64 0) (v1 := .int .i64 0) (v2 := .int .i64 0) c10z
                    have B9 := set3_belowB (v0 := .int .i64 0) (v1 := .int .i64 0) (v2 := .int .i64 0) kbz (show Q0 ≤ Q1 by omega)
                    clear x0 x1 x2 y0 y1 y2 f0 f1 f2
                    generalize ((v5.setCell ⟨Q1, 0, none⟩ (.int .i64 0)).setCell ⟨Q1, 1, none⟩ (.int .i64 0)).setCell ⟨Q1, 2, none⟩ (.int .i64 0) = W9 at *
                    obtain ⟨o0, o1, o2⟩ := blk3 P9
                    refine bodyPost_ret (v := .tuple #[.agg #[.int .i64 0, .int .i64 0, .int .i64 0], .int .i64 7]) (by simp [results, Tryz.results33, go_sem, o0, o1, o2]) rfl ?_
                    exact unhide hno 7 _ (unhide hx7) (by exact B9)
                  · have hx5 := hide (ownsRow_below (unhide hxo') k5)
                    have hb5 := hide ((unhide hxb').trans (k5.mono (unhide hxb').size))
                    have hz5 := (unhide hb5).size
                    have hti := hide (And.intro (timeO_ok hrd) (RD_bd hrd))
                    clear k5 hrd hxo' hxb'
                    go_wp2_with (at_builtin; refine wpList_i Tryz.underlying113 (X := v5) (B := w6.heap.size) (g := G) (n := 2) (cap := c) (L := xs) rfl _ _ rfl rfl (unhide hx5) v5.heap.size rfl rfl (by omega) hz5 ?_)
                    intro G' c' w' ho' hb'
                    have hN : Hid (TmI n d dr X0 X1 X2 X3 w6 w' G' c' 3) := hide ⟨xs ++ [x9], ho', (unhide hb5).trans hb', tm_more (ownI_len (unhide hx5)) (unhide hxt') (unhide hti)⟩
                    clear ho' hb' hx5 hb5 hxt' hti
                    go_wp2
                    go_roundw
                    case rel => exact ⟨3, G', c', by omega, by first | rfl | trivial | simp, rfl, hN⟩
                    case measure => simp [intOf]
                · have sw := cell_later hxb m6
                  have hall := hide (show wr.cell? ⟨Q0, 0, none⟩ = some (.int .i64 n) ∧ wr.cell? ⟨Q0, 1, none⟩ = some (.int .i64 d) ∧ wr.cell? ⟨Q0, 2, none⟩ = some (.bool dr) ∧ wr.cell? ⟨g, 6, none⟩ = some (.string X3) ∧ Below wr.heap.size wr wr from ⟨q0, q1, q2, sw, Below.refl _ _⟩)
                  rw [show ((3 : Nat) : Int) + 3 = 6 from rfl]
                  clear q0 q1 q2 sw hxb
                  go_wp2_with fail
                  go_region_held3 (fun w' => w'.cell? ⟨Q0, 0, none⟩ = some (.int .i64 n) ∧ w'.cell? ⟨Q0, 1, none⟩ = some (.int .i64 d) ∧ w'.cell? ⟨Q0, 2, none⟩ = some (.bool dr) ∧ w'.cell? ⟨g, 6, none⟩ = some (.string X3) ∧ Below wr.heap.size wr w')
                    (first | (refine keep4B ?_ hb; assumption) | (exact keep4Bd (unhide hall)))
                    ((go_at_call 62; refine (srd_any n d dr X3 _ (by unfold maxLen; omega)).mono ?_; rintro e v5 ⟨x9, ok9, rfl, hrd, hb⟩))
                  rename_i hH
                  have k5 := hH.2.2.2.2
                  clear hH hall hb
                  cases ok9
                  · have hx7 := hide (unhide h7 y (unhide hA') (unhide hso) (unhide hC') (.inr (.inr (.inr (timeO_no hrd)))))
                    have c10z := blk_below (blk_below c10 (unhide hxb')) k5
                    have c13z := blk_below (blk_below c13 (unhide hxb')) k5
                    have kbz := (unhide kb4).trans (((unhide hxb').trans (k5.mono (unhide hxb').size)).mono (show Q0 ≤ w6.heap.size by omega))
                    obtain ⟨x0, x1, x2⟩ := blk3 c10z
                    obtain ⟨y0, y1, y2⟩ := blk3 c13z
                    have f0 : v5.frozen? ⟨Q1, 0, none⟩ = false := Lib.frozen_of_heap c10z _
                    have f1 : v5.frozen? ⟨Q1, 1, none⟩ = false := Lib.frozen_of_heap c10z _
                    have f2 : v5.frozen? ⟨Q1, 2, none⟩ = false := Lib.frozen_of_heap c10z _
                    clear k5 hrd
                    go_wp2
                    have P9 := put3 (v0 := .int .i64 0) (v1 := .int .i64 0) (v2 := .int .i64 0) c10z
                    have B9 := set3_belowB (v0 := .int .i64 0) (v1 := .int .i64 0) (v2 := .int .i64 0) kbz (show Q0 ≤ Q1 by omega)
                    clear x0 x1 x2 y0 y1 y2 f0 f1 f2
                    generalize ((v5.setCell ⟨Q1, 0, none⟩ (.int .i64 0)).setCell ⟨Q1, 1, none⟩ (.int .i64 0)).setCell ⟨Q1, 2, none⟩ (.int .i64 0) = W9 at *
                    obtain ⟨o0, o1, o2⟩ := blk3 P9
                    refine bodyPost_ret (v := .tuple #[.agg #[.int .i64 0, .int .i64 0, .int .i64 0], .int .i64 7]) (by simp [results, Tryz.results33, go_sem, o0, o1, o2]) rfl ?_
                    exact unhide hno 7 _ (unhide hx7) (by exact B9)
                  · have hx5 := hide (ownsRow_below (unhide hxo') k5)
                    have hb5 := hide ((unhide hxb').trans (k5.mono (unhide hxb').size))
                    have hz5 := (unhide hb5).size
                    have hti := hide (And.intro (timeO_ok hrd) (RD_bd hrd))
                    clear k5 hrd hxo' hxb'
                    go_wp2_with (at_builtin; refine wpList_i Tryz.underlying113 (X := v5) (B := w6.heap.size) (g := G) (n := 3) (cap := c) (L := xs) rfl _ _ rfl rfl (unhide hx5) v5.heap.size rfl rfl (by omega) hz5 ?_)
                    intro G' c' w' ho' hb'
                    have hN : Hid (TmI n d dr X0 X1 X2 X3 w6 w' G' c' 4) := hide ⟨xs ++ [x9], ho', (unhide hb5).trans hb', tm_more (ownI_len (unhide hx5)) (unhide hxt') (unhide hti)⟩
                    clear ho' hb' hx5 hb5 hxt' hti
                    go_wp2
                    go_roundw
                    case rel => exact ⟨4, G', c', by omega, by first | rfl | trivial | simp, rfl, hN⟩
                    case measure => simp [intOf]
                · rw [show ((4 : Nat) : Int) + 3 = 7 from rfl]
                  obtain ⟨z0, z1, z2, z3, rfl⟩ := four_of (ownI_len (unhide hxo'))
                  have g0 := ownI_at (k := 0) rfl (unhide hxo')
                  have g1 := ownI_at (k := 1) rfl (unhide hxo')
                  have g2 := ownI_at (k := 2) rfl (unhide hxo')
                  have g3 := ownI_at (k := 3) rfl (unhide hxo')
                  obtain ⟨T0, a0, b0'⟩ := unhide hxt' 0 z0 rfl
                  obtain ⟨T1, a1, b1'⟩ := unhide hxt' 1 z1 rfl
                  obtain ⟨T2, a2, b2'⟩ := unhide hxt' 2 z2 rfl
                  obtain ⟨T3, a3, b3'⟩ := unhide hxt' 3 z3 rfl
                  obtain ⟨nn, hnn⟩ : ∃ nn, z1 - z0 = nn := ⟨_, rfl⟩
                  have hx8 := unhide h8 y z0 z1 z2 z3 (unhide hA') (unhide hso) (unhide hC') T0 T1 T2 T3
                  rw [hnn] at hx8
                  have wn : IntKind.i64.wrap (z1 - z0) = nn := by rw [hnn, IntKind.wrap_i64]; omega
                  have hx8' := hide hx8
                  have hxbw := hide ((unhide kb4).trans ((unhide hxb').mono (show Q0 ≤ w6.heap.size by omega)))
                  have hAz := (Below.refl wr.heap.size wr).alloc (Nat.le_refl _) (.cells #[.int .i64 0, .int .i64 0, .int .i64 0] 44)
                  have g0a := cell_later hAz g0
                  have g1a := cell_later hAz g1
                  have hGn : G ≠ wr.heap.size := by have := World.block_lt_of_cell? _ _ g0; simp only at this; omega
                  clear hAz
                  have c10w := blk_below c10 (unhide hxb')
                  have c13w := blk_below c13 (unhide hxb')
                  clear hx8 T0 T1 T2 T3 q0 q1 q2 hxb hxo' hxt'
                  have hVb := ((Below.refl wr.heap.size wr).alloc (Nat.le_refl _) (.cells #[.int .i64 y, .int .i64 z0, .int .i64 nn] 44)).drew
                  have p22 : (wr.alloc (.cells #[.int .i64 y, .int .i64 z0, .int .i64 nn] 44)).drew.heap[wr.heap.size]? = some (.cells #[.int .i64 y, .int .i64 z0, .int .i64 nn] 44 (0, 0)) := alloc_new wr _
                  have hVs : wr.heap.size < (wr.alloc (.cells #[.int .i64 y, .int .i64 z0, .int .i64 nn] 44)).drew.heap.size := (Array.getElem?_eq_some_iff.1 p22).1
                  obtain ⟨V, hV⟩ : ∃ V, V = (wr.alloc (.cells #[.int .i64 y, .int .i64 z0, .int .i64 nn] 44)).drew := ⟨_, rfl⟩
                  rw [← hV] at hVb p22 hVs
                  have g2V := cell_later hVb g2
                  have g3V := cell_later hVb g3
                  have c10V := blk_below c10w hVb
                  have c13V := blk_below c13w hVb
                  have kbV := hide ((unhide hxbw).trans (hVb.mono (by have := (unhide hxbw).size; omega)))
                  have hV' := hide hV
                  have hen := (unhide hT').at0
                  have he0 := clen_nonneg (unhide hT').ok.2.1
                  have he9 := (unhide hT').ok.2.2
                  have we : IntKind.i64.wrap (en + nn) = en + nn := by rw [IntKind.wrap_i64]; omega
                  clear hV hen he0 he9
                  by_cases hc : COk (y, z0, nn)
                  · have hcd := hide (decide_eq_true hc)
                    have hc' := hide hc
                    clear hc
                    go_wp2_with fail
                    go_region
                    rw [← unhide hV']
                    generalize wr.heap.size = B2 at *
                    obtain ⟨e0, e1, e2⟩ := blk3 p22
                    clear g0 g1 g2 g3 g0a g1a hV' c10w c13w c10 c13 hxb' hVb
                    go_wp2_with fail
                    refine (sclip_any y z0 nn true _ (unhide hcd)).mono ?_
                    rintro e v6 ⟨rfl, k6⟩
                    have g2v := cell_later k6 g2V
                    have g3v := cell_later k6 g3V
                    have p22v := blk_below p22 k6
                    obtain ⟨e0v, e1v, e2v⟩ := blk3 p22v
                    have c10v := blk_below c10V k6
                    have c13v := blk_below c13V k6
                    have kbv := hide ((unhide kbV).trans (k6.mono (by have := (unhide kbV).size; omega)))
                    have hsv := k6.size
                    clear k6 g2V g3V p22 c10V c13V kbV e0 e1 e2
                    by_cases hz2 : z2 = en
                    · have n2 : (z2 != en) = false := by simp [hz2]
                      by_cases hz3 : z3 = en + nn
                      · have n3 : (z3 != en + nn) = false := by simp [hz3]
                        go_wp2_with fail
                        go_quiet (fail)
                        have hqb : Below v6.heap.size v6 (v6.drewN nq) := below_drewN (Below.refl _ _) _
                        have c10q := blk_below c10v hqb
                        have c13q := blk_below c13v hqb
                        have p22q := blk_below p22v hqb
                        have kbq := hide ((unhide kbv).trans (hqb.mono (by have := (unhide kbv).size; omega)))
                        generalize v6.drewN nq = v7 at *
                        have hK7 := hide ((unhide hK').below (w' := v7) (by rw [hQ0]; exact unhide kbq))
                        clear hqb g2v g3v e0v e1v e2v c10v c13v p22v kbv
                        go_wp2_with fail
                        refine reg33 v7 tb tq tc B2 tr y z0 nn (by omega) (unhide hK7) p22q ?_
                        intro g9 c9 x4 x5 x6 x7 x8 w9 ho9 hb9
                        obtain ⟨AL, hAL⟩ : ∃ AL, tr ++ [(y, z0, nn)] = AL := ⟨_, rfl⟩
                        obtain ⟨al, hal⟩ : ∃ al, tr.length + 1 = al := ⟨_, rfl⟩
                        have hlen : AL.length = al := by rw [← hAL, ← hal]; simp
                        rw [hAL, hal] at ho9
                        rw [hal]
                        have hokA : AOk AL := by rw [← hAL]; exact (unhide hT').ok.2.1.append (AOk.cons (unhide hc') AOk.nil)
                        have sj := sjoin_any (some ⟨g9, 0, none⟩) c9 AL w9 (by omega) hokA (kls_own ho9)
                        have st := fun (vb : Bool) (hvb : decide (TOk AL) = vb) (X : World) (hX : Below w9.heap.size w9 X) => strack_any (some ⟨g9, 0, none⟩) c9 AL vb X (by unfold maxLen; omega) ((kls_own ho9).below hX) hvb
                        rw [hlen] at sj st
                        obtain ⟨jl, hjl⟩ : ∃ jl, (join AL).length = jl := ⟨_, rfl⟩
                        have hjs := join_same (c := (y, z0, nn)) (unhide hT').jo
                        rw [hAL, hjl, hlen] at hjs
                        have sj2 : Calls Tryz.prog 26 #[.slice (some ⟨g9, 0, none⟩) al c9] w9 fun e w' => ∃ g c, e = .returned (.slice (some ⟨g, 0, none⟩) jl c) ∧ Below w9.heap.size w9 w' := sj.mono (fun e w' ⟨g, c, h1, _, _, h4⟩ => ⟨g, c, by rw [h1, hjl], h4⟩)
                        have c10r := blk_below c10q (hb9.mono (Nat.le_refl _))
                        have c13r := blk_below c13q (hb9.mono (Nat.le_refl _))
                        have p22r := blk_below p22q (hb9.mono (Nat.le_refl _))
                        have kbr := hide ((unhide kbq).trans (hb9.mono (by have := (unhide kbq).size; omega)))
                        have hadd := hide (fun (h : lastGoes tr (y, z0, nn) ∨ ¬ TOk AL) => (unhide hx8').trans (addO_10 (unhide hc') hz2 (by simp only; omega) (by rw [hAL]; exact h)))
                        have hgood := hide (fun (h : ¬ lastGoes tr (y, z0, nn)) (k : TOk AL) => (unhide hx8').trans (addO_0 (unhide hc') hz2 (by simp only; omega) h (by rw [hAL]; exact k)))
                        have sj' := hide sj2
                        have st' := hide st
                        have hjs' := hide hjs
                        clear sj sj2 st hjs ho9 hb9 hjl hlen hal hAL hokA c10q c13q p22q kbq hK7 n2 n3 hz2 hz3 we wn hnn
                        by_cases hlg : jl = al
                        · have hnl := hide (show ¬ lastGoes tr (y, z0, nn) from fun h => ((unhide hjs').2 h) hlg)
                          have t1 : ((jl : Int) != (al : Int)) = false := by simp [hlg]
                          have t2 : (jl != al) = false := by simp [hlg]
                          clear hlg
                          by_cases hTk : TOk AL
                          · have hd := hide (decide_eq_true hTk)
                            have hx0 := hide (unhide hgood (unhide hnl) hTk)
                            clear hTk
                            go_wp2_with fail
                            refine (unhide sj').mono ?_
                            rintro e w10 ⟨g10, c10', rfl, k10⟩
                            have h10 := hide k10
                            clear k10
                            go_wp2_with fail
                            refine (unhide st' true (unhide hd) _ (unhide h10)).mono ?_
                            rintro e w11 ⟨rfl, k11⟩
                            have kk := (unhide h10).trans (k11.mono (unhide h10).size)
                            have c10s := blk_below c10r kk
                            have p22s := blk_below p22r kk
                            have kbs := (unhide kbr).trans (kk.mono (by have := (unhide kbr).size; omega))
                            obtain ⟨x0, x1, x2⟩ := blk3 c10s
                            obtain ⟨y0, y1, y2⟩ := blk3 p22s
                            have f0 : w11.frozen? ⟨Q1, 0, none⟩ = false := Lib.frozen_of_heap c10s _
                            have f1 : w11.frozen? ⟨Q1, 1, none⟩ = false := Lib.frozen_of_heap c10s _
                            have f2 : w11.frozen? ⟨Q1, 2, none⟩ = false := Lib.frozen_of_heap c10s _
                            clear k11 kk c10r c13r p22r
                            go_wp2
                            have P9 := put3 (v0 := .int .i64 y) (v1 := .int .i64 z0) (v2 := .int .i64 nn) c10s
                            have B9 := set3_belowB (v0 := .int .i64 y) (v1 := .int .i64 z0) (v2 := .int .i64 nn) kbs (show Q0 ≤ Q1 by omega)
                            clear x0 x1 x2 y0 y1 y2 f0 f1 f2
                            generalize ((w11.setCell ⟨Q1, 0, none⟩ (.int .i64 y)).setCell ⟨Q1, 1, none⟩ (.int .i64 z0)).setCell ⟨Q1, 2, none⟩ (.int .i64 nn) = W9 at *
                            obtain ⟨o0, o1, o2⟩ := blk3 P9
                            refine bodyPost_ret (v := .tuple #[.agg #[.int .i64 y, .int .i64 z0, .int .i64 nn], .int .i64 0]) (by simp [results, Tryz.results33, go_sem, o0, o1, o2]) rfl ?_
                            exact ⟨by rw [unhide hx0], by rw [hQ0]; exact B9⟩
                          · have hd := hide (decide_eq_false hTk)
                            have hx10 := hide (unhide hadd (.inr hTk))
                            clear hTk
                            go_wp2_with fail
                            refine (unhide sj').mono ?_
                            rintro e w10 ⟨g10, c10', rfl, k10⟩
                            have h10 := hide k10
                            clear k10
                            go_wp2_with fail
                            refine (unhide st' false (unhide hd) _ (unhide h10)).mono ?_
                            rintro e w11 ⟨rfl, k11⟩
                            have kk := (unhide h10).trans (k11.mono (unhide h10).size)
                            have c10s := blk_below c10r kk
                            have c13s := blk_below c13r kk
                            have kbs := (unhide kbr).trans (kk.mono (by have := (unhide kbr).size; omega))
                            obtain ⟨x0, x1, x2⟩ := blk3 c10s
                            obtain ⟨y0, y1, y2⟩ := blk3 c13s
                            have f0 : w11.frozen? ⟨Q1, 0, none⟩ = false := Lib.frozen_of_heap c10s _
                            have f1 : w11.frozen? ⟨Q1, 1, none⟩ = false := Lib.frozen_of_heap c10s _
                            have f2 : w11.frozen? ⟨Q1, 2, none⟩ = false := Lib.frozen_of_heap c10s _
                            clear k11 kk c10r c13r p22r
                            go_wp2
                            have P9 := put3 (v0 := .int .i64 0) (v1 := .int .i64 0) (v2 := .int .i64 0) c10s
                            have B9 := set3_belowB (v0 := .int .i64 0) (v1 := .int .i64 0) (v2 := .int .i64 0) kbs (show Q0 ≤ Q1 by omega)
                            clear x0 x1 x2 y0 y1 y2 f0 f1 f2
                            generalize ((w11.setCell ⟨Q1, 0, none⟩ (.int .i64 0)).setCell ⟨Q1, 1, none⟩ (.int .i64 0)).setCell ⟨Q1, 2, none⟩ (.int .i64 0) = W9 at *
                            obtain ⟨o0, o1, o2⟩ := blk3 P9
                            refine bodyPost_ret (v := .tuple #[.agg #[.int .i64 0, .int .i64 0, .int .i64 0], .int .i64 10]) (by simp [results, Tryz.results33, go_sem, o0, o1, o2]) rfl ?_
                            exact unhide hno 10 _ (unhide hx10) (by exact B9)
                        · have hx10 := hide (unhide hadd (.inl ((unhide hjs').1 hlg)))
                          have t1 : ((jl : Int) != (al : Int)) = true := by simp; omega
                          have t2 : (jl != al) = true := by simpa using hlg
                          clear hlg
                          go_wp2_with fail
                          refine (unhide sj').mono ?_
                          rintro e w10 ⟨g10, c10', rfl, k10⟩
                          have c10s := blk_below c10r k10
                          have c13s := blk_below c13r k10
                          have kbs := (unhide kbr).trans (k10.mono (by have := (unhide kbr).size; omega))
                          obtain ⟨x0, x1, x2⟩ := blk3 c10s
                          obtain ⟨y0, y1, y2⟩ := blk3 c13s
                          have f0 : w10.frozen? ⟨Q1, 0, none⟩ = false := Lib.frozen_of_heap c10s _
                          have f1 : w10.frozen? ⟨Q1, 1, none⟩ = false := Lib.frozen_of_heap c10s _
                          have f2 : w10.frozen? ⟨Q1, 2, none⟩ = false := Lib.frozen_of_heap c10s _
                          clear k10 c10r c13r p22r
                          go_wp2
                          have P9 := put3 (v0 := .int .i64 0) (v1 := .int .i64 0) (v2 := .int .i64 0) c10s
                          have B9 := set3_belowB (v0 := .int .i64 0) (v1 := .int .i64 0) (v2 := .int .i64 0) kbs (show Q0 ≤ Q1 by omega)
                          clear x0 x1 x2 y0 y1 y2 f0 f1 f2
                          generalize ((w10.setCell ⟨Q1, 0, none⟩ (.int .i64 0)).setCell ⟨Q1, 1, none⟩ (.int .i64 0)).setCell ⟨Q1, 2, none⟩ (.int .i64 0) = W9 at *
                          obtain ⟨o0, o1, o2⟩ := blk3 P9
                          refine bodyPost_ret (v := .tuple #[.agg #[.int .i64 0, .int .i64 0, .int .i64 0], .int .i64 10]) (by simp [results, Tryz.results33, go_sem, o0, o1, o2]) rfl ?_
                          exact unhide hno 10 _ (unhide hx10) (by exact B9)
                      · have n3 : (z3 != en + nn) = true := by simpa using hz3
                        have hx9 := hide ((unhide hx8').trans (addO_9 (unhide hc') (.inr (by simp only; omega))))
                        go_wp2_with fail
                        go_quiet (fail)
                        have hqb : Below v6.heap.size v6 (v6.drewN nq) := below_drewN (Below.refl _ _) _
                        have c10q := blk_below c10v hqb
                        have c13q := blk_below c13v hqb
                        have kbq := (unhide kbv).trans (hqb.mono (by have := (unhide kbv).size; omega))
                        generalize v6.drewN nq = v7 at *
                        obtain ⟨x0, x1, x2⟩ := blk3 c10q
                        obtain ⟨y0, y1, y2⟩ := blk3 c13q
                        have f0 : v7.frozen? ⟨Q1, 0, none⟩ = false := Lib.frozen_of_heap c10q _
                        have f1 : v7.frozen? ⟨Q1, 1, none⟩ = false := Lib.frozen_of_heap c10q _
                        have f2 : v7.frozen? ⟨Q1, 2, none⟩ = false := Lib.frozen_of_heap c10q _
                        clear hqb g2v g3v e0v e1v e2v c10v c13v
                        go_wp2
                        have P9 := put3 (v0 := .int .i64 0) (v1 := .int .i64 0) (v2 := .int .i64 0) c10q
                        have B9 := set3_belowB (v0 := .int .i64 0) (v1 := .int .i64 0) (v2 := .int .i64 0) kbq (show Q0 ≤ Q1 by omega)
                        clear x0 x1 x2 y0 y1 y2 f0 f1 f2
                        generalize ((v7.setCell ⟨Q1, 0, none⟩ (.int .i64 0)).setCell ⟨Q1, 1, none⟩ (.int .i64 0)).setCell ⟨Q1, 2, none⟩ (.int .i64 0) = W9 at *
                        obtain ⟨o0, o1, o2⟩ := blk3 P9
                        refine bodyPost_ret (v := .tuple #[.agg #[.int .i64 0, .int .i64 0, .int .i64 0], .int .i64 9]) (by simp [results, Tryz.results33, go_sem, o0, o1, o2]) rfl ?_
                        exact unhide hno 9 _ (unhide hx9) (by exact B9)
                    · have n2 : (z2 != en) = true := by simpa using hz2
                      have hx9 := hide ((unhide hx8').trans (addO_9 (unhide hc') (.inl hz2)))
                      go_wp2_with fail
                      go_quiet (fail)
                      have hqb : Below v6.heap.size v6 (v6.drewN nq) := below_drewN (Below.refl _ _) _
                      have c10q := blk_below c10v hqb
                      have c13q := blk_below c13v hqb
                      have kbq := (unhide kbv).trans (hqb.mono (by have := (unhide kbv).size; omega))
                      generalize v6.drewN nq = v7 at *
                      obtain ⟨x0, x1, x2⟩ := blk3 c10q
                      obtain ⟨y0, y1, y2⟩ := blk3 c13q
                      have f0 : v7.frozen? ⟨Q1, 0, none⟩ = false := Lib.frozen_of_heap c10q _
                      have f1 : v7.frozen? ⟨Q1, 1, none⟩ = false := Lib.frozen_of_heap c10q _
                      have f2 : v7.frozen? ⟨Q1, 2, none⟩ = false := Lib.frozen_of_heap c10q _
                      clear hqb g2v g3v e0v e1v e2v c10v c13v
                      go_wp2
                      have P9 := put3 (v0 := .int .i64 0) (v1 := .int .i64 0) (v2 := .int .i64 0) c10q
                      have B9 := set3_belowB (v0 := .int .i64 0) (v1 := .int .i64 0) (v2 := .int .i64 0) kbq (show Q0 ≤ Q1 by omega)
                      clear x0 x1 x2 y0 y1 y2 f0 f1 f2
                      generalize ((v7.setCell ⟨Q1, 0, none⟩ (.int .i64 0)).setCell ⟨Q1, 1, none⟩ (.int .i64 0)).setCell ⟨Q1, 2, none⟩ (.int .i64 0) = W9 at *
                      obtain ⟨o0, o1, o2⟩ := blk3 P9
                      refine bodyPost_ret (v := .tuple #[.agg #[.int .i64 0, .int .i64 0, .int .i64 0], .int .i64 9]) (by simp [results, Tryz.results33, go_sem, o0, o1, o2]) rfl ?_
                      exact unhide hno 9 _ (unhide hx9) (by exact B9)
                  · have hcd := hide (decide_eq_false hc)
                    have hx8 := hide ((unhide hx8').trans (addO_8 hc))
                    clear hc
                    go_wp2_with fail
                    go_region
                    rw [← unhide hV']
                    generalize wr.heap.size = B2 at *
                    obtain ⟨e0, e1, e2⟩ := blk3 p22
                    clear g0 g1 g2 g3 g0a g1a hV' c10w c13w c10 c13 hxb' hVb g2V g3V
                    go_wp2_with fail
                    refine (sclip_any y z0 nn false _ (unhide hcd)).mono ?_
                    rintro e v6 ⟨rfl, k6⟩
                    have c10v := blk_below c10V k6
                    have c13v := blk_below c13V k6
                    have kbv := (unhide kbV).trans (k6.mono (by have := (unhide kbV).size; omega))
                    obtain ⟨x0, x1, x2⟩ := blk3 c10v
                    obtain ⟨y0, y1, y2⟩ := blk3 c13v
                    have f0 : v6.frozen? ⟨Q1, 0, none⟩ = false := Lib.frozen_of_heap c10v _
                    have f1 : v6.frozen? ⟨Q1, 1, none⟩ = false := Lib.frozen_of_heap c10v _
                    have f2 : v6.frozen? ⟨Q1, 2, none⟩ = false := Lib.frozen_of_heap c10v _
                    clear k6 e0 e1 e2 c10V c13V
                    go_wp2
                    have P9 := put3 (v0 := .int .i64 0) (v1 := .int .i64 0) (v2 := .int .i64 0) c10v
                    have B9 := set3_belowB (v0 := .int .i64 0) (v1 := .int .i64 0) (v2 := .int .i64 0) kbv (show Q0 ≤ Q1 by omega)
                    clear x0 x1 x2 y0 y1 y2 f0 f1 f2
                    generalize ((v6.setCell ⟨Q1, 0, none⟩ (.int .i64 0)).setCell ⟨Q1, 1, none⟩ (.int .i64 0)).setCell ⟨Q1, 2, none⟩ (.int .i64 0) = W9 at *
                    obtain ⟨o0, o1, o2⟩ := blk3 P9
                    refine bodyPost_ret (v := .tuple #[.agg #[.int .i64 0, .int .i64 0, .int .i64 0], .int .i64 8]) (by simp [results, Tryz.results33, go_sem, o0, o1, o2]) rfl ?_
                    exact unhide hno 8 _ (unhide hx8) (by exact B9)
            · have hx6 := hide (unhide h6 (unhide hA') (.inl (by rw [unhide hbr']; exact src_num_no (unhide hnr') (unhide hB') hgd)))
              obtain ⟨x0, x1, x2⟩ := blk3 c10
              obtain ⟨y0, y1, y2⟩ := blk3 c13
              have f0 : w5.frozen? ⟨Q1, 0, none⟩ = false := Lib.frozen_of_heap c10 _
              have f1 : w5.frozen? ⟨Q1, 1, none⟩ = false := Lib.frozen_of_heap c10 _
              have f2 : w5.frozen? ⟨Q1, 2, none⟩ = false := Lib.frozen_of_heap c10 _
              by_cases h82 : b0 = 82
              · have q82 : (((b0.toNat : Nat) : Int) != 82) = false := by rw [h82]; rfl
                cases ok
                · go_wp2
                  have P9 := put3 (v0 := .int .i64 0) (v1 := .int .i64 0) (v2 := .int .i64 0) c10
                  have B9 := set3_belowB (v0 := .int .i64 0) (v1 := .int .i64 0) (v2 := .int .i64 0) (unhide kb4) (show Q0 ≤ Q1 by omega)
                  clear x0 x1 x2 y0 y1 y2 f0 f1 f2
                  generalize ((w5.setCell ⟨Q1, 0, none⟩ (.int .i64 0)).setCell ⟨Q1, 1, none⟩ (.int .i64 0)).setCell ⟨Q1, 2, none⟩ (.int .i64 0) = W9 at *
                  obtain ⟨o0, o1, o2⟩ := blk3 P9
                  refine bodyPost_ret (v := .tuple #[.agg #[.int .i64 0, .int .i64 0, .int .i64 0], .int .i64 6]) (by simp [results, Tryz.results33, go_sem, o0, o1, o2]) rfl ?_
                  exact unhide hno 6 _ (unhide hx6) (by exact B9)
                · have hy : ¬ (1 ≤ y ∧ y ≤ 500) := fun h => hgd ⟨h82, rfl, h.1, h.2⟩
                  go_wp2_with fail
                  refine (src_any y false _ (by simp; omega)).mono ?_
                  rintro e w6 ⟨rfl, rfl⟩
                  go_wp2
                  have P9 := put3 (v0 := .int .i64 0) (v1 := .int .i64 0) (v2 := .int .i64 0) c10
                  have B9 := set3_belowB (v0 := .int .i64 0) (v1 := .int .i64 0) (v2 := .int .i64 0) (unhide kb4) (show Q0 ≤ Q1 by omega)
                  clear x0 x1 x2 y0 y1 y2 f0 f1 f2
                  generalize ((w6.setCell ⟨Q1, 0, none⟩ (.int .i64 0)).setCell ⟨Q1, 1, none⟩ (.int .i64 0)).setCell ⟨Q1, 2, none⟩ (.int .i64 0) = W9 at *
                  obtain ⟨o0, o1, o2⟩ := blk3 P9
                  refine bodyPost_ret (v := .tuple #[.agg #[.int .i64 0, .int .i64 0, .int .i64 0], .int .i64 6]) (by simp [results, Tryz.results33, go_sem, o0, o1, o2]) rfl ?_
                  exact unhide hno 6 _ (unhide hx6) (by exact B9)
              · have q82 : (((b0.toNat : Nat) : Int) != 82) = true := by
                  simp
                  intro e
                  apply h82
                  exact UInt8.toNat_inj.1 (by have h : b0.toNat = 82 := by omega
                                              rw [h]; rfl)
                go_wp2
                have P9 := put3 (v0 := .int .i64 0) (v1 := .int .i64 0) (v2 := .int .i64 0) c10
                have B9 := set3_belowB (v0 := .int .i64 0) (v1 := .int .i64 0) (v2 := .int .i64 0) (unhide kb4) (show Q0 ≤ Q1 by omega)
                clear x0 x1 x2 y0 y1 y2 f0 f1 f2
                generalize ((w5.setCell ⟨Q1, 0, none⟩ (.int .i64 0)).setCell ⟨Q1, 1, none⟩ (.int .i64 0)).setCell ⟨Q1, 2, none⟩ (.int .i64 0) = W9 at *
                obtain ⟨o0, o1, o2⟩ := blk3 P9
                refine bodyPost_ret (v := .tuple #[.agg #[.int .i64 0, .int .i64 0, .int .i64 0], .int .i64 6]) (by simp [results, Tryz.results33, go_sem, o0, o1, o2]) rfl ?_
                exact unhide hno 6 _ (unhide hx6) (by exact B9)
        · have hbC : (XC.toList == [67]) = false := by rw [Lib.toList_data, beq_eq_false_iff_ne]; exact hC
          by_cases hB : XB.data.toList = [66, 76]
          · have hbB : (XB.toList == [66, 76]) = true := by rw [Lib.toList_data, hB]; rfl
            have hx6 := hide (unhide h6 (unhide hA') (.inr hC))
            obtain ⟨x0, x1, x2⟩ := blk3 c10
            obtain ⟨y0, y1, y2⟩ := blk3 c13
            have f0 : w4.frozen? ⟨Q1, 0, none⟩ = false := Lib.frozen_of_heap c10 _
            have f1 : w4.frozen? ⟨Q1, 1, none⟩ = false := Lib.frozen_of_heap c10 _
            have f2 : w4.frozen? ⟨Q1, 2, none⟩ = false := Lib.frozen_of_heap c10 _
            clear hB hC
            go_wp2
            have P9 := put3 (v0 := .int .i64 0) (v1 := .int .i64 0) (v2 := .int .i64 0) c10
            have B9 := set3_belowB (v0 := .int .i64 0) (v1 := .int .i64 0) (v2 := .int .i64 0) (unhide kb4) (show Q0 ≤ Q1 by omega)
            clear x0 x1 x2 y0 y1 y2 f0 f1 f2
            generalize ((w4.setCell ⟨Q1, 0, none⟩ (.int .i64 0)).setCell ⟨Q1, 1, none⟩ (.int .i64 0)).setCell ⟨Q1, 2, none⟩ (.int .i64 0) = W9 at *
            obtain ⟨o0, o1, o2⟩ := blk3 P9
            refine bodyPost_ret (v := .tuple #[.agg #[.int .i64 0, .int .i64 0, .int .i64 0], .int .i64 6]) (by simp [results, Tryz.results33, go_sem, o0, o1, o2]) rfl ?_
            exact unhide hno 6 _ (unhide hx6) (by exact B9)
          · have hbB : (XB.toList == [66, 76]) = false := by rw [Lib.toList_data, beq_eq_false_iff_ne]; exact hB
            obtain ⟨b0, r, hbr⟩ : ∃ b0 r, XB.data.toList = b0 :: r := List.exists_cons_of_ne_nil eXB
            obtain ⟨Y, hY⟩ : ∃ Y, XB.extract 1 XB.size = Y := ⟨_, rfl⟩
            have hix : ∀ w, (Instr.index 9 (.string XB) (.int .i64 0)).run Tryz.prog w = .ok (.int .u8 b0.toNat) w := fun w => idx_str (k := 0) hbr (by rfl) w
            have hYs : Y.size ≤ 20000 := by rw [← hY]; simp; omega
            have hx6 := hide (unhide h6 (unhide hA') (.inr hC))
            obtain ⟨x0, x1, x2⟩ := blk3 c10
            obtain ⟨y0, y1, y2⟩ := blk3 c13
            have f0 : w4.frozen? ⟨Q1, 0, none⟩ = false := Lib.frozen_of_heap c10 _
            have f1 : w4.frozen? ⟨Q1, 1, none⟩ = false := Lib.frozen_of_heap c10 _
            have f2 : w4.frozen? ⟨Q1, 2, none⟩ = false := Lib.frozen_of_heap c10 _
            clear hC
            have h1x : 1 ≤ XB.size := by rw [Lib.size_eq, hbr]; simp
            clear hbr
            go_wp2_with fail
            refine (snum_any Y w4 hYs).mono ?_
            rintro e w5 ⟨y, ok, rfl, hnr, rfl⟩
            clear hnr
            by_cases h82 : b0 = 82
            · have q82 : (((b0.toNat : Nat) : Int) != 82) = false := by rw [h82]; rfl
              cases ok
              · go_wp2
                have P9 := put3 (v0 := .int .i64 0) (v1 := .int .i64 0) (v2 := .int .i64 0) c10
                have B9 := set3_belowB (v0 := .int .i64 0) (v1 := .int .i64 0) (v2 := .int .i64 0) (unhide kb4) (show Q0 ≤ Q1 by omega)
                clear x0 x1 x2 y0 y1 y2 f0 f1 f2
                generalize ((w5.setCell ⟨Q1, 0, none⟩ (.int .i64 0)).setCell ⟨Q1, 1, none⟩ (.int .i64 0)).setCell ⟨Q1, 2, none⟩ (.int .i64 0) = W9 at *
                obtain ⟨o0, o1, o2⟩ := blk3 P9
                refine bodyPost_ret (v := .tuple #[.agg #[.int .i64 0, .int .i64 0, .int .i64 0], .int .i64 6]) (by simp [results, Tryz.results33, go_sem, o0, o1, o2]) rfl ?_
                exact unhide hno 6 _ (unhide hx6) (by exact B9)
              · by_cases hy : 1 ≤ y ∧ y ≤ 500
                · go_wp2_with fail
                  refine (src_any y true _ (by simp [hy])).mono ?_
                  rintro e w6 ⟨rfl, rfl⟩
                  go_wp2
                  have P9 := put3 (v0 := .int .i64 0) (v1 := .int .i64 0) (v2 := .int .i64 0) c10
                  have B9 := set3_belowB (v0 := .int .i64 0) (v1 := .int .i64 0) (v2 := .int .i64 0) (unhide kb4) (show Q0 ≤ Q1 by omega)
                  clear x0 x1 x2 y0 y1 y2 f0 f1 f2
                  generalize ((w6.setCell ⟨Q1, 0, none⟩ (.int .i64 0)).setCell ⟨Q1, 1, none⟩ (.int .i64 0)).setCell ⟨Q1, 2, none⟩ (.int .i64 0) = W9 at *
                  obtain ⟨o0, o1, o2⟩ := blk3 P9
                  refine bodyPost_ret (v := .tuple #[.agg #[.int .i64 0, .int .i64 0, .int .i64 0], .int .i64 6]) (by simp [results, Tryz.results33, go_sem, o0, o1, o2]) rfl ?_
                  exact unhide hno 6 _ (unhide hx6) (by exact B9)
                · go_wp2_with fail
                  refine (src_any y false _ (by simp; omega)).mono ?_
                  rintro e w6 ⟨rfl, rfl⟩
                  go_wp2
                  have P9 := put3 (v0 := .int .i64 0) (v1 := .int .i64 0) (v2 := .int .i64 0) c10
                  have B9 := set3_belowB (v0 := .int .i64 0) (v1 := .int .i64 0) (v2 := .int .i64 0) (unhide kb4) (show Q0 ≤ Q1 by omega)
                  clear x0 x1 x2 y0 y1 y2 f0 f1 f2
                  generalize ((w6.setCell ⟨Q1, 0, none⟩ (.int .i64 0)).setCell ⟨Q1, 1, none⟩ (.int .i64 0)).setCell ⟨Q1, 2, none⟩ (.int .i64 0) = W9 at *
                  obtain ⟨o0, o1, o2⟩ := blk3 P9
                  refine bodyPost_ret (v := .tuple #[.agg #[.int .i64 0, .int .i64 0, .int .i64 0], .int .i64 6]) (by simp [results, Tryz.results33, go_sem, o0, o1, o2]) rfl ?_
                  exact unhide hno 6 _ (unhide hx6) (by exact B9)
            · have q82 : (((b0.toNat : Nat) : Int) != 82) = true := by
                simp
                intro e
                apply h82
                exact UInt8.toNat_inj.1 (by have h : b0.toNat = 82 := by omega
                                            rw [h]; rfl)
              go_wp2
              have P9 := put3 (v0 := .int .i64 0) (v1 := .int .i64 0) (v2 := .int .i64 0) c10
              have B9 := set3_belowB (v0 := .int .i64 0) (v1 := .int .i64 0) (v2 := .int .i64 0) (unhide kb4) (show Q0 ≤ Q1 by omega)
              clear x0 x1 x2 y0 y1 y2 f0 f1 f2
              generalize ((w5.setCell ⟨Q1, 0, none⟩ (.int .i64 0)).setCell ⟨Q1, 1, none⟩ (.int .i64 0)).setCell ⟨Q1, 2, none⟩ (.int .i64 0) = W9 at *
              obtain ⟨o0, o1, o2⟩ := blk3 P9
              refine bodyPost_ret (v := .tuple #[.agg #[.int .i64 0, .int .i64 0, .int .i64 0], .int .i64 6]) (by simp [results, Tryz.results33, go_sem, o0, o1, o2]) rfl ?_
              exact unhide hno 6 _ (unhide hx6) (by exact B9)
      · have hbq : (XA.toList == N.toList) = false := by rw [Lib.toList_data, ← hN, toList_mk, beq_eq_false_iff_ne]; exact hA
        have hx5 := hide (unhide h5 hA)
        clear hA hN
        go_wp2_with fail
        go_region_held3 (fun w' => w'.cell? ⟨g, 0, none⟩ = some (.string XA) ∧ Below wr.heap.size wr w')
          (first | (refine keep1 ?_ hb; assumption) | (exact keep1d (unhide hall)))
          ((go_at_call 29; refine (sdig_val tr.length N (unhide hN') _ (by omega)).mono ?_; rintro e w4 ⟨rfl, hb⟩))
        rename_i hH
        obtain ⟨_, k4⟩ := hH
        have c10 := blk_below c10 k4
        have c13 := blk_below c13 k4
        have kb4 := (unhide kb3).trans (k4.mono (by omega))
        obtain ⟨x0, x1, x2⟩ := blk3 c10
        obtain ⟨y0, y1, y2⟩ := blk3 c13
        have f0 : w4.frozen? ⟨Q1, 0, none⟩ = false := Lib.frozen_of_heap c10 _
        have f1 : w4.frozen? ⟨Q1, 1, none⟩ = false := Lib.frozen_of_heap c10 _
        have f2 : w4.frozen? ⟨Q1, 2, none⟩ = false := Lib.frozen_of_heap c10 _
        clear k4 kb3 hall m0 m1 m2 m3 m4 m5 m6
        go_wp2
        have P9 := put3 (v0 := .int .i64 0) (v1 := .int .i64 0) (v2 := .int .i64 0) c10
        have B9 := set3_belowB (v0 := .int .i64 0) (v1 := .int .i64 0) (v2 := .int .i64 0) kb4 (show Q0 ≤ Q1 by omega)
        clear x0 x1 x2 y0 y1 y2 f0 f1 f2
        generalize ((w4.setCell ⟨Q1, 0, none⟩ (.int .i64 0)).setCell ⟨Q1, 1, none⟩ (.int .i64 0)).setCell ⟨Q1, 2, none⟩ (.int .i64 0) = W9 at *
        obtain ⟨o0, o1, o2⟩ := blk3 P9
        refine bodyPost_ret (v := .tuple #[.agg #[.int .i64 0, .int .i64 0, .int .i64 0], .int .i64 5]) (by simp [results, Tryz.results33, go_sem, o0, o1, o2]) rfl ?_
        exact unhide hno 5 _ (unhide hx5) (by exact B9)
end Go.Proofs.YtfhbmfndjbdhcaaGreatDoor
