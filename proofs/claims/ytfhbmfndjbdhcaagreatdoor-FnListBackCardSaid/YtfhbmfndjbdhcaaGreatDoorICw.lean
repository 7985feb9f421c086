/-
  The program's words of a clip's line: their contract.
  The clips of a list, each with the frame that it begins at: the iterator's contract, where its user writes one variable, one builder and rows of bytes.
-/
import Derived.Test.YtfhbmfndjbdhcaaGreatDoorSLs
import Derived.Test.YtfhbmfndjbdhcaaGreatDoorINw
import Derived.Test.YtfhbmfndjbdhcaaGreatDoorIAny
import Derived.Test.YtfhbmfndjbdhcaaGreatDoorISr
import Derived.Test.YtfhbmfndjbdhcaaGreatDoorILf
import Derived.Test.YtfhbmfndjbdhcaaGreatDoorIWo
import Derived.Test.YtfhbmfndjbdhcaaGreatDoorShelf
import Derived.Test.YtfhbmfndjbdhcaaGreatDoorJn
import Derived.RangeFuncNested
import Derived.RangeFuncBound
import Derived.RangeFuncCalls
import Derived.RangeFuncLeaves
import Derived.Shelf.Abstract
import Derived.Shelf.RegionOpen
import Derived.OwnWalkIn
import Derived.TacticsInMore
import Derived.LoopNIn
import Derived.LoopIn
import Derived.OrdersIn
namespace Go.Proofs.YtfhbmfndjbdhcaaGreatDoor
open Go.RowKit
set_option linter.unusedVariables false
set_option linter.unusedSimpArgs false

theorem inum_val (i : Nat) (s : ByteArray) (hs : (⟨(numW i).toArray⟩ : ByteArray) = s) (w : World) (hi : i < 999) :
    Calls Tryz.prog 39 #[.int .i64 i] w fun e w' => e = .returned (.string s) ∧ Below w.heap.size w w' := by subst hs; exact inum_any i w hi
theorem itext_val (n d : Int) (dr : Bool) (f : Int) (s : ByteArray) (hs : (⟨(Pl.tt n d dr f).toArray⟩ : ByteArray) = s) (w : World) :
    Calls Tryz.prog 41 #[.agg #[.int .i64 n, .int .i64 d, .bool dr], .int .i64 f] w fun e w' => e = .returned (.string s) ∧ Below w.heap.size w w' := by subst hs; exact itext_any n d dr f w
theorem set7_cell {X : World} {q b o : Nat} {v0 v1 v2 v3 v4 v5 v6 : Value} (h : q ≠ b) :
    (((((((X.setCell ⟨q, 0, none⟩ v0).setCell ⟨q, 1, none⟩ v1).setCell ⟨q, 2, none⟩ v2).setCell ⟨q, 3, none⟩ v3).setCell ⟨q, 4, none⟩ v4).setCell ⟨q, 5, none⟩ v5).setCell ⟨q, 6, none⟩ v6).cell? ⟨b, o, none⟩ = X.cell? ⟨b, o, none⟩ := by
  simp [World.cell?, World.setCell, h, Array.getElem?_modify]
theorem set7_below {V X : World} {q : Nat} {v0 v1 v2 v3 v4 v5 v6 : Value} (hb : Below V.heap.size V X) (h : V.heap.size ≤ q) :
    Below V.heap.size V (((((((X.setCell ⟨q, 0, none⟩ v0).setCell ⟨q, 1, none⟩ v1).setCell ⟨q, 2, none⟩ v2).setCell ⟨q, 3, none⟩ v3).setCell ⟨q, 4, none⟩ v4).setCell ⟨q, 5, none⟩ v5).setCell ⟨q, 6, none⟩ v6) :=
  ((((((hb.setCell (p := ⟨q, 0, none⟩) h _).setCell (p := ⟨q, 1, none⟩) h _).setCell (p := ⟨q, 2, none⟩) h _).setCell (p := ⟨q, 3, none⟩) h _).setCell (p := ⟨q, 4, none⟩) h _).setCell (p := ⟨q, 5, none⟩) h _).setCell (p := ⟨q, 6, none⟩) h _
theorem ne_succ {s : Nat → ByteArray} {k : Nat} (h : ∀ j, j < k → ¬ (s (3 + j)).toList = []) (hE : ¬ (s (3 + k)).toList = []) : ∀ j, j < k + 1 → ¬ (s (3 + j)).toList = [] := fun j hj => by
  rcases Nat.lt_or_ge j k with h1 | h1
  · exact h j h1
  · have : j = k := by omega
    subst this; exact hE
/-- the block of the words, k times among them -/
def wkk (s : Nat → ByteArray) (k j : Nat) : ByteArray := if j < k then s (3 + j) else ⟨#[]⟩
def wdK (s : Nat → ByteArray) (k : Nat) : Obj := .cells #[.string (s 0), .string (s 1), .string (s 2), .string (wkk s k 0), .string (wkk s k 1), .string (wkk s k 2), .string (wkk s k 3)] 57 (0, 0)
theorem wput0 {X : World} {q : Nat} {s : Nat → ByteArray} (h : X.heap[q]? = some (.cells #[.string (s 0), .string (s 1), .string (s 2), .string ⟨#[]⟩, .string ⟨#[]⟩, .string ⟨#[]⟩, .string ⟨#[]⟩] 57 (0, 0))) : (X.setCell ⟨q, 3, none⟩ (.string (s 3))).heap[q]? = some (wdK s 1) := by
  simp [World.setCell, h, Array.getElem?_modify, wdK, wkk]
theorem wput1 {X : World} {q : Nat} {s : Nat → ByteArray} (h : X.heap[q]? = some (.cells #[.string (s 0), .string (s 1), .string (s 2), .string (s 3), .string ⟨#[]⟩, .string ⟨#[]⟩, .string ⟨#[]⟩] 57 (0, 0))) : (X.setCell ⟨q, 4, none⟩ (.string (s 4))).heap[q]? = some (wdK s 2) := by
  simp [World.setCell, h, Array.getElem?_modify, wdK, wkk]
theorem wput2 {X : World} {q : Nat} {s : Nat → ByteArray} (h : X.heap[q]? = some (.cells #[.string (s 0), .string (s 1), .string (s 2), .string (s 3), .string (s 4), .string ⟨#[]⟩, .string ⟨#[]⟩] 57 (0, 0))) : (X.setCell ⟨q, 5, none⟩ (.string (s 5))).heap[q]? = some (wdK s 3) := by
  simp [World.setCell, h, Array.getElem?_modify, wdK, wkk]
theorem wput3 {X : World} {q : Nat} {s : Nat → ByteArray} (h : X.heap[q]? = some (.cells #[.string (s 0), .string (s 1), .string (s 2), .string (s 3), .string (s 4), .string (s 5), .string ⟨#[]⟩] 57 (0, 0))) : (X.setCell ⟨q, 6, none⟩ (.string (s 6))).heap[q]? = some (wdK s 4) := by
  simp [World.setCell, h, Array.getElem?_modify, wdK, wkk]
theorem set7_below' {V X : World} {B q : Nat} {v0 v1 v2 v3 v4 v5 v6 : Value} (hb : Below V.heap.size V X) (hB : B ≤ V.heap.size) (h : B ≤ q) :
    Below B V (((((((X.setCell ⟨q, 0, none⟩ v0).setCell ⟨q, 1, none⟩ v1).setCell ⟨q, 2, none⟩ v2).setCell ⟨q, 3, none⟩ v3).setCell ⟨q, 4, none⟩ v4).setCell ⟨q, 5, none⟩ v5).setCell ⟨q, 6, none⟩ v6) :=
  (((((((hb.mono hB).setCell (p := ⟨q, 0, none⟩) h _).setCell (p := ⟨q, 1, none⟩) h _).setCell (p := ⟨q, 2, none⟩) h _).setCell (p := ⟨q, 3, none⟩) h _).setCell (p := ⟨q, 4, none⟩) h _).setCell (p := ⟨q, 5, none⟩) h _).setCell (p := ⟨q, 6, none⟩) h _
/-- the block of the seven words -/
abbrev wdO (s : Nat → ByteArray) : Obj := .cells #[.string (s 0), .string (s 1), .string (s 2), .string (s 3), .string (s 4), .string (s 5), .string (s 6)] 57

set_option maxRecDepth 100000 in
set_option maxHeartbeats 1000000 in
theorem icw_any (n d : Int) (dr : Bool) (i : Nat) (at0 x1 x2 x3 : Int) (w : World) (hi : i < 999) (ha : 0 ≤ at0) (ha1 : at0 + x3 ≤ 10000000) (hc : COk (x1, x2, x3)) (ht : Tab w) (s : Nat → ByteArray)
    (h0 : (⟨(numW i).toArray⟩ : ByteArray) = s 0) (h1 : (⟨(srcW x1).toArray⟩ : ByteArray) = s 1) (h2 : (⟨#[67]⟩ : ByteArray) = s 2) (h3 : (⟨(Pl.tt n d dr x2).toArray⟩ : ByteArray) = s 3) (h4 : (⟨(Pl.tt n d dr (x2 + x3)).toArray⟩ : ByteArray) = s 4)
    (h5 : (⟨(Pl.tt n d dr at0).toArray⟩ : ByteArray) = s 5) (h6 : (⟨(Pl.tt n d dr (at0 + x3)).toArray⟩ : ByteArray) = s 6) :
    Calls Tryz.prog 20 #[.agg #[.int .i64 n, .int .i64 d, .bool dr], .int .i64 i, .int .i64 at0, .agg #[.int .i64 x1, .int .i64 x2, .int .i64 x3]] w fun e w' =>
      (∃ v, e = .returned (.tuple #[v, .bool (tOk n d dr at0 (x1, x2, x3))]) ∧ (tOk n d dr at0 (x1, x2, x3) = true → v = .agg #[.string (s 0), .string (s 1), .string (s 2), .string (s 3), .string (s 4), .string (s 5), .string (s 6)]) ∧ ∃ u0 u1 u2 u3 u4 u5 u6, v = .agg #[.string u0, .string u1, .string u2, .string u3, .string u4, .string u5, .string u6]) ∧ Below w.heap.size w w' := by
  obtain ⟨n0, n1, i0', i1', hsrc⟩ := hc
  simp only at n0 n1 i0' i1' hsrc
  have hx0 : 0 ≤ x1 := by omega
  have hx5 : x1 ≤ 500 := by omega
  have c34 := hide (fun w => inum_val i (s 0) h0 w hi)
  have c3 := hide (itext_val n d dr x2 (s 3) h3)
  have c4 := hide (itext_val n d dr (x2 + x3) (s 4) h4)
  have c5 := hide (itext_val n d dr at0 (s 5) h5)
  have c6 := hide (itext_val n d dr (at0 + x3) (s 6) h6)
  have h3' := hide h3
  have h4' := hide h4
  have h5' := hide h5
  have h6' := hide h6
  have ht' := hide ht
  have c35 := hide (fun (w' : World) (hb : Below w.heap.size w w') => iword_val x1 (s 1) h1 w' hx0 hx5 ((unhide ht').below hb))
  clear h0 h1 h3 h4 h5 h6 hsrc ht ht'
  obtain ⟨V, hV⟩ : ∃ V, V = ((w.alloc (.cells #[.int .i64 n, .int .i64 d, .bool dr] 25)).alloc (.cells #[.int .i64 x1, .int .i64 x2, .int .i64 x3] 44)).alloc (.cells #[.string ⟨#[]⟩, .string ⟨#[]⟩, .string ⟨#[]⟩, .string ⟨#[]⟩, .string ⟨#[]⟩, .string ⟨#[]⟩, .string ⟨#[]⟩] 57) := ⟨_, rfl⟩
  have hbV : Below w.heap.size w V := by rw [hV]; exact (((Below.refl _ w).alloc (Nat.le_refl _) _).alloc (by simp) _).alloc (by simp; omega) _
  have R0 : V.heap[w.heap.size]? = some (.cells #[.int .i64 n, .int .i64 d, .bool dr] 25 (0, 0)) := by
    rw [hV, Below.heap_alloc _ _ _ (by simp; omega), Below.heap_alloc _ _ _ (by simp)]; exact alloc_new _ _
  have C0 : V.heap[w.heap.size + 1]? = some (.cells #[.int .i64 x1, .int .i64 x2, .int .i64 x3] 44 (0, 0)) := by
    rw [hV, Below.heap_alloc _ _ _ (by simp)]
    have := alloc_new (w.alloc (.cells #[.int .i64 n, .int .i64 d, .bool dr] 25)) (.cells #[.int .i64 x1, .int .i64 x2, .int .i64 x3] 44)
    rwa [World.size_alloc] at this
  have G0 : V.heap[w.heap.size + 1 + 1]? = some (.cells #[.string ⟨#[]⟩, .string ⟨#[]⟩, .string ⟨#[]⟩, .string ⟨#[]⟩, .string ⟨#[]⟩, .string ⟨#[]⟩, .string ⟨#[]⟩] 57 (0, 0)) := by
    rw [hV]
    have := alloc_new ((w.alloc (.cells #[.int .i64 n, .int .i64 d, .bool dr] 25)).alloc (.cells #[.int .i64 x1, .int .i64 x2, .int .i64 x3] 44)) (.cells #[.string ⟨#[]⟩, .string ⟨#[]⟩, .string ⟨#[]⟩, .string ⟨#[]⟩, .string ⟨#[]⟩, .string ⟨#[]⟩, .string ⟨#[]⟩] 57)
    rwa [World.size_alloc, World.size_alloc] at this
  have c35' := hide (fun (w' : World) (hb : Below V.heap.size V w') => (unhide c35) w' (hbV.trans (hb.mono hbV.size)))
  clear c35
  have c35 := c35'
  clear c35'
  go_enter Tryz.func20, Tryz.ntmps20
  go_upto_region 1 with fail
  rw [← hV]
  clear hV
  have hVw := hbV.size
  generalize hRb : w.heap.size = Rb at *
  generalize hCb : Rb + 1 = Cb at *
  generalize hGb : Cb + 1 = Gb at *
  obtain ⟨z0, z1, z2⟩ := blk3 C0
  have hGV : Gb < V.heap.size := (Array.getElem?_eq_some_iff.1 G0).1
  have hGw : Rb ≤ Gb := by omega
  have hbV' := hide hbV
  have R00 := R0
  have G00 := G0
  have hCV : Cb < V.heap.size := (Array.getElem?_eq_some_iff.1 C0).1
  go_cut [10] from 10 to 48 (fun p wx => ∃ q, p = .pointer (some ⟨q, 0, none⟩) ∧ V.heap.size ≤ q ∧ Hid (wx.heap[q]? = some (.cells #[.string (s 0), .string (s 1), .string (s 2), .string ⟨#[]⟩, .string ⟨#[]⟩, .string ⟨#[]⟩, .string ⟨#[]⟩] 57 (0, 0))) ∧ Hid (Below V.heap.size V wx))
  case first =>
    refine wp_region_noPanic ?_
    refine wp_region_held_drew (S := (fun w' => w'.cell? ⟨Cb, 0, none⟩ = some (.int .i64 x1) ∧ Below V.heap.size V w')) (by kernel_rfl) ?_ (fun hH0 => ?_)
    · exact ⟨z0, (Below.refl _ _).drew⟩
    refine wpAnyH_take (i := 0) (oi := { dst := some 14, op := Go.Op.move (Go.Operand.tmp 1), type := 2, pos := _, after := #[], guard := none }) (v := ?_) rfl (by kernel_rfl) (by kernel_rfl) (by kernel_rfl) (fun _ _ _ h => h) (Or.inl ⟨by rfl, ?_⟩) hH0 ?_
    rotate_left
    · (intro w hSw; (try dsimp only at hSw); go_simp <;> with_reducible rfl)
    (try simp only [Act.put, List.setIfInBounds_toArray, List.set_cons_zero, List.set_cons_succ])
    refine wpAnyH_take (i := 2) (oi := { dst := some 16, op := Go.Op.fieldAddr 44 (Go.Operand.tmp 7) 0, type := 0, pos := _, after := #[], guard := none }) (v := ?_) rfl (by kernel_rfl) (by kernel_rfl) (by kernel_rfl) (fun _ _ _ h => h) (Or.inl ⟨by rfl, ?_⟩) hH0 ?_
    rotate_left
    · (intro w hSw; (try dsimp only at hSw); go_simp <;> with_reducible rfl)
    (try simp only [Act.put, List.setIfInBounds_toArray, List.set_cons_zero, List.set_cons_succ])
    refine wpAnyH_take (i := 3) (oi := { dst := some 17, op := Go.Op.load 2 (Go.Operand.tmp 16), type := 2, pos := _, after := #[{ on := 2, ground := Go.Ground.data }], guard := none }) (v := ?_) rfl (by kernel_rfl) (by kernel_rfl) (by kernel_rfl) (fun _ _ _ h => h) (Or.inl ⟨by rfl, ?_⟩) hH0 ?_
    rotate_left
    · (intro w hSw; (try dsimp only at hSw); go_simp <;> with_reducible rfl)
    (try simp only [Act.put, List.setIfInBounds_toArray, List.set_cons_zero, List.set_cons_succ])
    refine wpAnyH_ready (rs := [1, 6]) (by kernel_rfl) (by simp) ?_
    refine AllReadyH.cons (o := { dst := some 15, op := Go.Op.call { callee := Go.Callee.value (Go.Operand.func 39), args := #[Go.Operand.tmp 14], argTypes := #[2] }, type := 9, pos := _, after := #[{ on := 0, ground := Go.Ground.data }], guard := none }) rfl (fun K hK => ?_) (AllReadyH.cons (o := { dst := some 10, op := Go.Op.alloc 57, type := 0, pos := _, after := #[], guard := none }) rfl (fun K hK => ?_) AllReadyH.nil)
    · go_simp
      refine (unhide c34 _).mono ?_
      rintro e wa ⟨rfl, ka⟩
      refine hK.out _ _ ?_ (fun hH1 => ?_)
      · exact ⟨cell_later ka hH0.1, laterB hH0.2 ka⟩
      clear hK K
      (try simp only [Act.put, List.setIfInBounds_toArray, List.set_cons_zero, List.set_cons_succ])
      refine wpAnyH_ready (rs := [4, 6]) (by kernel_rfl) (by simp) ?_
      refine AllReadyH.cons (o := { dst := some 18, op := Go.Op.call { callee := Go.Callee.value (Go.Operand.func 40), args := #[Go.Operand.tmp 17], argTypes := #[2] }, type := 9, pos := _, after := #[{ on := 3, ground := Go.Ground.data }, { on := 1, ground := Go.Ground.chain }], guard := none }) rfl (fun K hK => ?_) (AllReadyH.cons (o := { dst := some 10, op := Go.Op.alloc 57, type := 0, pos := _, after := #[], guard := none }) rfl (fun K hK => ?_) AllReadyH.nil)
      · go_simp
        refine (unhide c35 _ hH1.2).mono ?_
        rintro e wb ⟨rfl, kb⟩
        refine hK.out _ _ ?_ (fun hH2 => ?_)
        · exact ⟨cell_later kb hH1.1, laterB hH1.2 kb⟩
        clear hK K
        (try simp only [Act.put, List.setIfInBounds_toArray, List.set_cons_zero, List.set_cons_succ])
        refine wpAnyH_take (i := 5) (oi := { dst := some 19, op := Go.Op.build 57 #[(0, Go.Operand.tmp 15), (1, Go.Operand.tmp 18), (2, Go.Operand.const (Go.Value.string { data := #[67] }))], type := 57, pos := _, after := #[{ on := 1, ground := Go.Ground.data }, { on := 4, ground := Go.Ground.data }], guard := none }) (v := ?_) rfl (by kernel_rfl) (by kernel_rfl) (by kernel_rfl) (fun _ _ _ h => h) (Or.inl ⟨by rfl, ?_⟩) hH2 ?_
        rotate_left
        · (intro w hSw; (try dsimp only at hSw); go_simp <;> with_reducible rfl)
        (try simp only [Act.put, List.setIfInBounds_toArray, List.set_cons_zero, List.set_cons_succ])
        refine wpAnyH_ready (rs := [6]) (by kernel_rfl) (by simp) ?_
        refine AllReadyH.cons (o := { dst := some 10, op := Go.Op.alloc 57, type := 0, pos := _, after := #[], guard := none }) rfl (fun K hK => ?_) AllReadyH.nil
        go_simp
        have kq := (Below.refl (wb).heap.size (wb)).alloc (Nat.le_refl _) (.cells #[.string ⟨#[]⟩, .string ⟨#[]⟩, .string ⟨#[]⟩, .string ⟨#[]⟩, .string ⟨#[]⟩, .string ⟨#[]⟩, .string ⟨#[]⟩] 57)
        have hq := alloc_new (wb) (.cells #[.string ⟨#[]⟩, .string ⟨#[]⟩, .string ⟨#[]⟩, .string ⟨#[]⟩, .string ⟨#[]⟩, .string ⟨#[]⟩, .string ⟨#[]⟩] 57)
        have hqV : V.heap.size ≤ (wb).heap.size := hH2.2.size
        refine hK.out _ _ ?_ (fun hH3 => ?_)
        · exact ⟨cell_later kq hH2.1, laterB hH2.2 kq⟩
        clear hK K
        generalize hqe : (wb).heap.size = q at *
        generalize hwe : (wb).alloc (.cells #[.string ⟨#[]⟩, .string ⟨#[]⟩, .string ⟨#[]⟩, .string ⟨#[]⟩, .string ⟨#[]⟩, .string ⟨#[]⟩, .string ⟨#[]⟩] 57) = wq at *
        (try simp only [Act.put, List.setIfInBounds_toArray, List.set_cons_zero, List.set_cons_succ])
        refine wpAnyH_ready (rs := [7]) (by kernel_rfl) (by simp) ?_
        refine AllReadyH.cons (o := { dst := none, op := Go.Op.store 57 (Go.Operand.tmp 10) (Go.Operand.tmp 19), type := 0, pos := _, after := #[{ on := 6, ground := Go.Ground.data }, { on := 5, ground := Go.Ground.data }, { on := 4, ground := Go.Ground.chain }, { on := 0, ground := Go.Ground.phase }, { on := 1, ground := Go.Ground.phase }, { on := 2, ground := Go.Ground.phase }, { on := 3, ground := Go.Ground.phase }, { on := 4, ground := Go.Ground.phase }, { on := 5, ground := Go.Ground.phase }, { on := 6, ground := Go.Ground.phase }], guard := none }) rfl (fun K hK => ?_) AllReadyH.nil
        obtain ⟨m0, m1, m2, m3, m4, m5, m6⟩ := blk7 hq
        obtain ⟨p0, p1, p2, p3, p4, p5, p6⟩ := blk7f hq
        go_simp
        refine hK.out _ _ ?_ (fun hH9 => ?_)
        · exact ⟨(set7_cell (by omega)).trans hH3.1, set7_below hH3.2 hqV⟩
        clear hK K
        (try simp only [Act.put, List.setIfInBounds_toArray, List.set_cons_zero, List.set_cons_succ])
        refine wpAnyH_done (by kernel_rfl) ?_ _
        refine NoPanic.normal ?_
        go_wp2
        go_meet
        case rel =>
          exact ⟨q, rfl, hqV, hide (put7 hq), hide hH9.2⟩

      · go_simp
        have kq := (Below.refl (wa).heap.size (wa)).alloc (Nat.le_refl _) (.cells #[.string ⟨#[]⟩, .string ⟨#[]⟩, .string ⟨#[]⟩, .string ⟨#[]⟩, .string ⟨#[]⟩, .string ⟨#[]⟩, .string ⟨#[]⟩] 57)
        have hq := alloc_new (wa) (.cells #[.string ⟨#[]⟩, .string ⟨#[]⟩, .string ⟨#[]⟩, .string ⟨#[]⟩, .string ⟨#[]⟩, .string ⟨#[]⟩, .string ⟨#[]⟩] 57)
        have hqV : V.heap.size ≤ (wa).heap.size := hH1.2.size
        refine hK.out _ _ ?_ (fun hH2 => ?_)
        · exact ⟨cell_later kq hH1.1, laterB hH1.2 kq⟩
        clear hK K
        generalize hqe : (wa).heap.size = q at *
        generalize hwe : (wa).alloc (.cells #[.string ⟨#[]⟩, .string ⟨#[]⟩, .string ⟨#[]⟩, .string ⟨#[]⟩, .string ⟨#[]⟩, .string ⟨#[]⟩, .string ⟨#[]⟩] 57) = wq at *
        (try simp only [Act.put, List.setIfInBounds_toArray, List.set_cons_zero, List.set_cons_succ])
        refine wpAnyH_ready (rs := [4]) (by kernel_rfl) (by simp) ?_
        refine AllReadyH.cons (o := { dst := some 18, op := Go.Op.call { callee := Go.Callee.value (Go.Operand.func 40), args := #[Go.Operand.tmp 17], argTypes := #[2] }, type := 9, pos := _, after := #[{ on := 3, ground := Go.Ground.data }, { on := 1, ground := Go.Ground.chain }], guard := none }) rfl (fun K hK => ?_) AllReadyH.nil
        go_simp
        refine (unhide c35 _ hH2.2).mono ?_
        rintro e wb ⟨rfl, kb⟩
        refine hK.out _ _ ?_ (fun hH3 => ?_)
        · exact ⟨cell_later kb hH2.1, laterB hH2.2 kb⟩
        clear hK K
        replace hq := blk_below hq kb
        (try simp only [Act.put, List.setIfInBounds_toArray, List.set_cons_zero, List.set_cons_succ])
        refine wpAnyH_take (i := 5) (oi := { dst := some 19, op := Go.Op.build 57 #[(0, Go.Operand.tmp 15), (1, Go.Operand.tmp 18), (2, Go.Operand.const (Go.Value.string { data := #[67] }))], type := 57, pos := _, after := #[{ on := 1, ground := Go.Ground.data }, { on := 4, ground := Go.Ground.data }], guard := none }) (v := ?_) rfl (by kernel_rfl) (by kernel_rfl) (by kernel_rfl) (fun _ _ _ h => h) (Or.inl ⟨by rfl, ?_⟩) hH3 ?_
        rotate_left
        · (intro w hSw; (try dsimp only at hSw); go_simp <;> with_reducible rfl)
        (try simp only [Act.put, List.setIfInBounds_toArray, List.set_cons_zero, List.set_cons_succ])
        refine wpAnyH_ready (rs := [7]) (by kernel_rfl) (by simp) ?_
        refine AllReadyH.cons (o := { dst := none, op := Go.Op.store 57 (Go.Operand.tmp 10) (Go.Operand.tmp 19), type := 0, pos := _, after := #[{ on := 6, ground := Go.Ground.data }, { on := 5, ground := Go.Ground.data }, { on := 4, ground := Go.Ground.chain }, { on := 0, ground := Go.Ground.phase }, { on := 1, ground := Go.Ground.phase }, { on := 2, ground := Go.Ground.phase }, { on := 3, ground := Go.Ground.phase }, { on := 4, ground := Go.Ground.phase }, { on := 5, ground := Go.Ground.phase }, { on := 6, ground := Go.Ground.phase }], guard := none }) rfl (fun K hK => ?_) AllReadyH.nil
        obtain ⟨m0, m1, m2, m3, m4, m5, m6⟩ := blk7 hq
        obtain ⟨p0, p1, p2, p3, p4, p5, p6⟩ := blk7f hq
        go_simp
        refine hK.out _ _ ?_ (fun hH9 => ?_)
        · exact ⟨(set7_cell (by omega)).trans hH3.1, set7_below hH3.2 hqV⟩
        clear hK K
        (try simp only [Act.put, List.setIfInBounds_toArray, List.set_cons_zero, List.set_cons_succ])
        refine wpAnyH_done (by kernel_rfl) ?_ _
        refine NoPanic.normal ?_
        go_wp2
        go_meet
        case rel =>
          exact ⟨q, rfl, hqV, hide (put7 hq), hide hH9.2⟩


    · go_simp
      have kq : Below V.drew.heap.size V.drew (V.alloc (.cells #[.string ⟨#[]⟩, .string ⟨#[]⟩, .string ⟨#[]⟩, .string ⟨#[]⟩, .string ⟨#[]⟩, .string ⟨#[]⟩, .string ⟨#[]⟩] 57)).drew := ((Below.refl V.drew.heap.size V.drew).alloc (Nat.le_refl _) (.cells #[.string ⟨#[]⟩, .string ⟨#[]⟩, .string ⟨#[]⟩, .string ⟨#[]⟩, .string ⟨#[]⟩, .string ⟨#[]⟩, .string ⟨#[]⟩] 57))
      have hq : (V.alloc (.cells #[.string ⟨#[]⟩, .string ⟨#[]⟩, .string ⟨#[]⟩, .string ⟨#[]⟩, .string ⟨#[]⟩, .string ⟨#[]⟩, .string ⟨#[]⟩] 57)).drew.heap[V.heap.size]? = some (.cells #[.string ⟨#[]⟩, .string ⟨#[]⟩, .string ⟨#[]⟩, .string ⟨#[]⟩, .string ⟨#[]⟩, .string ⟨#[]⟩, .string ⟨#[]⟩] 57 (0, 0)) := alloc_new V (.cells #[.string ⟨#[]⟩, .string ⟨#[]⟩, .string ⟨#[]⟩, .string ⟨#[]⟩, .string ⟨#[]⟩, .string ⟨#[]⟩, .string ⟨#[]⟩] 57)
      have hqV : V.heap.size ≤ V.heap.size := Nat.le_refl _
      refine hK.out _ _ ?_ (fun hH1 => ?_)
      · exact ⟨cell_later kq hH0.1, laterB hH0.2 kq⟩
      clear hK K kq
      generalize hwe : (V.alloc (.cells #[.string ⟨#[]⟩, .string ⟨#[]⟩, .string ⟨#[]⟩, .string ⟨#[]⟩, .string ⟨#[]⟩, .string ⟨#[]⟩, .string ⟨#[]⟩] 57)).drew = wq at *
      clear hwe
      (try simp only [Act.put, List.setIfInBounds_toArray, List.set_cons_zero, List.set_cons_succ])
      refine wpAnyH_ready (rs := [1]) (by kernel_rfl) (by simp) ?_
      refine AllReadyH.cons (o := { dst := some 15, op := Go.Op.call { callee := Go.Callee.value (Go.Operand.func 39), args := #[Go.Operand.tmp 14], argTypes := #[2] }, type := 9, pos := _, after := #[{ on := 0, ground := Go.Ground.data }], guard := none }) rfl (fun K hK => ?_) AllReadyH.nil
      go_simp
      refine (unhide c34 _).mono ?_
      rintro e wa ⟨rfl, ka⟩
      refine hK.out _ _ ?_ (fun hH2 => ?_)
      · exact ⟨cell_later ka hH1.1, laterB hH1.2 ka⟩
      clear hK K
      replace hq := blk_below hq ka
      (try simp only [Act.put, List.setIfInBounds_toArray, List.set_cons_zero, List.set_cons_succ])
      refine wpAnyH_ready (rs := [4]) (by kernel_rfl) (by simp) ?_
      refine AllReadyH.cons (o := { dst := some 18, op := Go.Op.call { callee := Go.Callee.value (Go.Operand.func 40), args := #[Go.Operand.tmp 17], argTypes := #[2] }, type := 9, pos := _, after := #[{ on := 3, ground := Go.Ground.data }, { on := 1, ground := Go.Ground.chain }], guard := none }) rfl (fun K hK => ?_) AllReadyH.nil
      go_simp
      refine (unhide c35 _ hH2.2).mono ?_
      rintro e wb ⟨rfl, kb⟩
      refine hK.out _ _ ?_ (fun hH3 => ?_)
      · exact ⟨cell_later kb hH2.1, laterB hH2.2 kb⟩
      clear hK K
      replace hq := blk_below hq kb
      (try simp only [Act.put, List.setIfInBounds_toArray, List.set_cons_zero, List.set_cons_succ])
      refine wpAnyH_take (i := 5) (oi := { dst := some 19, op := Go.Op.build 57 #[(0, Go.Operand.tmp 15), (1, Go.Operand.tmp 18), (2, Go.Operand.const (Go.Value.string { data := #[67] }))], type := 57, pos := _, after := #[{ on := 1, ground := Go.Ground.data }, { on := 4, ground := Go.Ground.data }], guard := none }) (v := ?_) rfl (by kernel_rfl) (by kernel_rfl) (by kernel_rfl) (fun _ _ _ h => h) (Or.inl ⟨by rfl, ?_⟩) hH3 ?_
      rotate_left
      · (intro w hSw; (try dsimp only at hSw); go_simp <;> with_reducible rfl)
      (try simp only [Act.put, List.setIfInBounds_toArray, List.set_cons_zero, List.set_cons_succ])
      refine wpAnyH_ready (rs := [7]) (by kernel_rfl) (by simp) ?_
      refine AllReadyH.cons (o := { dst := none, op := Go.Op.store 57 (Go.Operand.tmp 10) (Go.Operand.tmp 19), type := 0, pos := _, after := #[{ on := 6, ground := Go.Ground.data }, { on := 5, ground := Go.Ground.data }, { on := 4, ground := Go.Ground.chain }, { on := 0, ground := Go.Ground.phase }, { on := 1, ground := Go.Ground.phase }, { on := 2, ground := Go.Ground.phase }, { on := 3, ground := Go.Ground.phase }, { on := 4, ground := Go.Ground.phase }, { on := 5, ground := Go.Ground.phase }, { on := 6, ground := Go.Ground.phase }], guard := none }) rfl (fun K hK => ?_) AllReadyH.nil
      obtain ⟨m0, m1, m2, m3, m4, m5, m6⟩ := blk7 hq
      obtain ⟨p0, p1, p2, p3, p4, p5, p6⟩ := blk7f hq
      go_simp
      refine hK.out _ _ ?_ (fun hH9 => ?_)
      · exact ⟨(set7_cell (by omega)).trans hH3.1, set7_below hH3.2 hqV⟩
      clear hK K
      (try simp only [Act.put, List.setIfInBounds_toArray, List.set_cons_zero, List.set_cons_succ])
      refine wpAnyH_done (by kernel_rfl) ?_ _
      refine NoPanic.normal ?_
      go_wp2
      go_meet
      case rel =>
        exact ⟨V.heap.size, rfl, hqV, hide (put7 hq), hide hH9.2⟩

  case rest =>
    obtain ⟨q, rfl, hqV, hq, hb⟩ := hcut
    have C1 := blk_below C0 (unhide hb)
    have R1 := blk_below R0 (unhide hb)
    have G1 := blk_below G0 (unhide hb)
    clear z0 z1 z2 C0 R0 G0 c34 c35
    obtain ⟨z0, z1, z2⟩ := blk3 C1
    have hVc := (unhide hb).size
    go_wp2_with fail
    clear z0 z1 z2
    have ix0 : ∀ w, (Instr.index 84 (.agg #[.int .i64 x2, .int .i64 (x2 + x3), .int .i64 at0, .int .i64 (at0 + x3)]) (.int .i64 0)).run Tryz.prog w = .ok (.int .i64 x2) w := fun _ => by kernel_rfl
    have ix1 : ∀ w, (Instr.index 84 (.agg #[.int .i64 x2, .int .i64 (x2 + x3), .int .i64 at0, .int .i64 (at0 + x3)]) (.int .i64 1)).run Tryz.prog w = .ok (.int .i64 (x2 + x3)) w := fun _ => by kernel_rfl
    have ix2 : ∀ w, (Instr.index 84 (.agg #[.int .i64 x2, .int .i64 (x2 + x3), .int .i64 at0, .int .i64 (at0 + x3)]) (.int .i64 2)).run Tryz.prog w = .ok (.int .i64 at0) w := fun _ => by kernel_rfl
    have ix3 : ∀ w, (Instr.index 84 (.agg #[.int .i64 x2, .int .i64 (x2 + x3), .int .i64 at0, .int .i64 (at0 + x3)]) (.int .i64 3)).run Tryz.prog w = .ok (.int .i64 (at0 + x3)) w := fun _ => by kernel_rfl
    go_loopw [33] (fun t wr => ∃ k : Nat, k ≤ 4 ∧ t = .int .i64 k ∧ Hid (wr.heap[q]? = some (wdK s k)) ∧ Hid (Below V.heap.size V wr) ∧ Hid (∀ j, j < k → ¬ (s (3 + j)).toList = [])) (fun t _ => 4 - (intOf t).toNat)
    case atStart => exact ⟨0, by omega, rfl, hq, hb, hide (fun j h => by omega)⟩
    case round =>
      clear hq hb
      obtain ⟨k, hk4, rfl, hqk, hbk, hne⟩ := hrel
      have Rk := (unhide hbk).block Rb (Nat.lt_trans (by omega) hCV) |>.trans R00
      obtain rfl | rfl | rfl | rfl | rfl : k = 0 ∨ k = 1 ∨ k = 2 ∨ k = 3 ∨ k = 4 := by omega
      · have Gk := (unhide hbk).block Gb hGV |>.trans G00
        obtain ⟨r0, r1, r2⟩ := blk3 Rk
        replace hqk : Hid (wr.heap[q]? = some (.cells #[.string (s 0), .string (s 1), .string (s 2), .string ⟨#[]⟩, .string ⟨#[]⟩, .string ⟨#[]⟩, .string ⟨#[]⟩] 57 (0, 0))) := hqk
        rw [show ((0 : Nat) : Int) = 0 from rfl]
        go_wp2_with fail
        refine (unhide c3 _).mono ?_
        rintro e w1 ⟨rfl, hb1⟩
        have hq1 := blk_below (unhide hqk) hb1
        have G1 := blk_below Gk hb1
        have hB1 := hide ((unhide hbk).trans (hb1.mono (unhide hbk).size))
        clear r0 r1 r2 hb1 hqk Gk Rk
        obtain ⟨m0, m1, m2, m3, m4, m5, m6⟩ := blk7 hq1
        obtain ⟨p0, p1, p2, p3, p4, p5, p6⟩ := blk7f hq1
        obtain ⟨o0, o1, o2, o3, o4, o5, o6⟩ := blk7 G1
        obtain ⟨y0, y1, y2, y3, y4, y5, y6⟩ := blk7f G1
        go_wp2_with fail
        · have hE : (s 3).toList = [] := by simpa using ‹(s 3).toList.isEmpty = true›
          have hT9 := tOk_no1 (n := n) (d := d) (dr := dr) (a := at0) (x1 := x1) (x2 := x2) (x3 := x3) (toList_nil (unhide h3') hE)
          have P9 := put7 (v0 := .string (s 0)) (v1 := .string (s 1)) (v2 := .string (s 2)) (v3 := .string ⟨#[]⟩) (v4 := .string ⟨#[]⟩) (v5 := .string ⟨#[]⟩) (v6 := .string ⟨#[]⟩) G1
          have B9 := (unhide hbV').trans (set7_below' (v0 := .string (s 0)) (v1 := .string (s 1)) (v2 := .string (s 2)) (v3 := .string ⟨#[]⟩) (v4 := .string ⟨#[]⟩) (v5 := .string ⟨#[]⟩) (v6 := .string ⟨#[]⟩) (unhide hB1) hVw hGw)
          clear o0 o1 o2 o3 o4 o5 o6 y0 y1 y2 y3 y4 y5 y6 m0 m1 m2 m3 m4 m5 m6 p0 p1 p2 p3 p4 p5 p6
          generalize ((((((w1.setCell ⟨Gb, 0, none⟩ (.string (s 0))).setCell ⟨Gb, 1, none⟩ (.string (s 1))).setCell ⟨Gb, 2, none⟩ (.string (s 2))).setCell ⟨Gb, 3, none⟩ (.string ⟨#[]⟩)).setCell ⟨Gb, 4, none⟩ (.string ⟨#[]⟩)).setCell ⟨Gb, 5, none⟩ (.string ⟨#[]⟩)).setCell ⟨Gb, 6, none⟩ (.string ⟨#[]⟩) = W9 at *
          obtain ⟨o0, o1, o2, o3, o4, o5, o6⟩ := blk7 P9
          refine bodyPost_ret (v := .tuple #[.agg #[.string (s 0), .string (s 1), .string (s 2), .string ⟨#[]⟩, .string ⟨#[]⟩, .string ⟨#[]⟩, .string ⟨#[]⟩], .bool false]) (by simp [results, Tryz.results20, go_sem, o0, o1, o2, o3, o4, o5, o6]) rfl ?_
          rw [hT9]
          exact ⟨⟨_, rfl, fun h => Bool.noConfusion h, _, _, _, _, _, _, _, rfl⟩, by rw [hRb]; exact B9⟩
        · have hE : ¬ (s 3).toList = [] := by simpa using ‹(s 3).toList.isEmpty = false›
          go_roundw
          case rel => exact ⟨1, by omega, rfl, hide (wput0 hq1), hide ((unhide hB1).setCell (p := ⟨q, 3, none⟩) hqV _), hide (ne_succ (unhide hne) hE)⟩
          case measure => simp [intOf]
      · have Gk := (unhide hbk).block Gb hGV |>.trans G00
        obtain ⟨r0, r1, r2⟩ := blk3 Rk
        replace hqk : Hid (wr.heap[q]? = some (.cells #[.string (s 0), .string (s 1), .string (s 2), .string (s 3), .string ⟨#[]⟩, .string ⟨#[]⟩, .string ⟨#[]⟩] 57 (0, 0))) := hqk
        rw [show ((1 : Nat) : Int) = 1 from rfl]
        go_wp2_with fail
        refine (unhide c4 _).mono ?_
        rintro e w1 ⟨rfl, hb1⟩
        have hq1 := blk_below (unhide hqk) hb1
        have G1 := blk_below Gk hb1
        have hB1 := hide ((unhide hbk).trans (hb1.mono (unhide hbk).size))
        clear r0 r1 r2 hb1 hqk Gk Rk
        obtain ⟨m0, m1, m2, m3, m4, m5, m6⟩ := blk7 hq1
        obtain ⟨p0, p1, p2, p3, p4, p5, p6⟩ := blk7f hq1
        obtain ⟨o0, o1, o2, o3, o4, o5, o6⟩ := blk7 G1
        obtain ⟨y0, y1, y2, y3, y4, y5, y6⟩ := blk7f G1
        go_wp2_with fail
        · have hE : (s 4).toList = [] := by simpa using ‹(s 4).toList.isEmpty = true›
          have hT9 := tOk_no2 (n := n) (d := d) (dr := dr) (a := at0) (x1 := x1) (x2 := x2) (x3 := x3) (toList_nil (unhide h4') hE)
          have P9 := put7 (v0 := .string (s 0)) (v1 := .string (s 1)) (v2 := .string (s 2)) (v3 := .string (s 3)) (v4 := .string ⟨#[]⟩) (v5 := .string ⟨#[]⟩) (v6 := .string ⟨#[]⟩) G1
          have B9 := (unhide hbV').trans (set7_below' (v0 := .string (s 0)) (v1 := .string (s 1)) (v2 := .string (s 2)) (v3 := .string (s 3)) (v4 := .string ⟨#[]⟩) (v5 := .string ⟨#[]⟩) (v6 := .string ⟨#[]⟩) (unhide hB1) hVw hGw)
          clear o0 o1 o2 o3 o4 o5 o6 y0 y1 y2 y3 y4 y5 y6 m0 m1 m2 m3 m4 m5 m6 p0 p1 p2 p3 p4 p5 p6
          generalize ((((((w1.setCell ⟨Gb, 0, none⟩ (.string (s 0))).setCell ⟨Gb, 1, none⟩ (.string (s 1))).setCell ⟨Gb, 2, none⟩ (.string (s 2))).setCell ⟨Gb, 3, none⟩ (.string (s 3))).setCell ⟨Gb, 4, none⟩ (.string ⟨#[]⟩)).setCell ⟨Gb, 5, none⟩ (.string ⟨#[]⟩)).setCell ⟨Gb, 6, none⟩ (.string ⟨#[]⟩) = W9 at *
          obtain ⟨o0, o1, o2, o3, o4, o5, o6⟩ := blk7 P9
          refine bodyPost_ret (v := .tuple #[.agg #[.string (s 0), .string (s 1), .string (s 2), .string (s 3), .string ⟨#[]⟩, .string ⟨#[]⟩, .string ⟨#[]⟩], .bool false]) (by simp [results, Tryz.results20, go_sem, o0, o1, o2, o3, o4, o5, o6]) rfl ?_
          rw [hT9]
          exact ⟨⟨_, rfl, fun h => Bool.noConfusion h, _, _, _, _, _, _, _, rfl⟩, by rw [hRb]; exact B9⟩
        · have hE : ¬ (s 4).toList = [] := by simpa using ‹(s 4).toList.isEmpty = false›
          go_roundw
          case rel => exact ⟨2, by omega, rfl, hide (wput1 hq1), hide ((unhide hB1).setCell (p := ⟨q, 4, none⟩) hqV _), hide (ne_succ (unhide hne) hE)⟩
          case measure => simp [intOf]
      · have Gk := (unhide hbk).block Gb hGV |>.trans G00
        obtain ⟨r0, r1, r2⟩ := blk3 Rk
        replace hqk : Hid (wr.heap[q]? = some (.cells #[.string (s 0), .string (s 1), .string (s 2), .string (s 3), .string (s 4), .string ⟨#[]⟩, .string ⟨#[]⟩] 57 (0, 0))) := hqk
        rw [show ((2 : Nat) : Int) = 2 from rfl]
        go_wp2_with fail
        refine (unhide c5 _).mono ?_
        rintro e w1 ⟨rfl, hb1⟩
        have hq1 := blk_below (unhide hqk) hb1
        have G1 := blk_below Gk hb1
        have hB1 := hide ((unhide hbk).trans (hb1.mono (unhide hbk).size))
        clear r0 r1 r2 hb1 hqk Gk Rk
        obtain ⟨m0, m1, m2, m3, m4, m5, m6⟩ := blk7 hq1
        obtain ⟨p0, p1, p2, p3, p4, p5, p6⟩ := blk7f hq1
        obtain ⟨o0, o1, o2, o3, o4, o5, o6⟩ := blk7 G1
        obtain ⟨y0, y1, y2, y3, y4, y5, y6⟩ := blk7f G1
        go_wp2_with fail
        · have hE : (s 5).toList = [] := by simpa using ‹(s 5).toList.isEmpty = true›
          have hT9 := tOk_no3 (n := n) (d := d) (dr := dr) (a := at0) (x1 := x1) (x2 := x2) (x3 := x3) (toList_nil (unhide h5') hE)
          have P9 := put7 (v0 := .string (s 0)) (v1 := .string (s 1)) (v2 := .string (s 2)) (v3 := .string (s 3)) (v4 := .string (s 4)) (v5 := .string ⟨#[]⟩) (v6 := .string ⟨#[]⟩) G1
          have B9 := (unhide hbV').trans (set7_below' (v0 := .string (s 0)) (v1 := .string (s 1)) (v2 := .string (s 2)) (v3 := .string (s 3)) (v4 := .string (s 4)) (v5 := .string ⟨#[]⟩) (v6 := .string ⟨#[]⟩) (unhide hB1) hVw hGw)
          clear o0 o1 o2 o3 o4 o5 o6 y0 y1 y2 y3 y4 y5 y6 m0 m1 m2 m3 m4 m5 m6 p0 p1 p2 p3 p4 p5 p6
          generalize ((((((w1.setCell ⟨Gb, 0, none⟩ (.string (s 0))).setCell ⟨Gb, 1, none⟩ (.string (s 1))).setCell ⟨Gb, 2, none⟩ (.string (s 2))).setCell ⟨Gb, 3, none⟩ (.string (s 3))).setCell ⟨Gb, 4, none⟩ (.string (s 4))).setCell ⟨Gb, 5, none⟩ (.string ⟨#[]⟩)).setCell ⟨Gb, 6, none⟩ (.string ⟨#[]⟩) = W9 at *
          obtain ⟨o0, o1, o2, o3, o4, o5, o6⟩ := blk7 P9
          refine bodyPost_ret (v := .tuple #[.agg #[.string (s 0), .string (s 1), .string (s 2), .string (s 3), .string (s 4), .string ⟨#[]⟩, .string ⟨#[]⟩], .bool false]) (by simp [results, Tryz.results20, go_sem, o0, o1, o2, o3, o4, o5, o6]) rfl ?_
          rw [hT9]
          exact ⟨⟨_, rfl, fun h => Bool.noConfusion h, _, _, _, _, _, _, _, rfl⟩, by rw [hRb]; exact B9⟩
        · have hE : ¬ (s 5).toList = [] := by simpa using ‹(s 5).toList.isEmpty = false›
          go_roundw
          case rel => exact ⟨3, by omega, rfl, hide (wput2 hq1), hide ((unhide hB1).setCell (p := ⟨q, 5, none⟩) hqV _), hide (ne_succ (unhide hne) hE)⟩
          case measure => simp [intOf]
      · have Gk := (unhide hbk).block Gb hGV |>.trans G00
        obtain ⟨r0, r1, r2⟩ := blk3 Rk
        replace hqk : Hid (wr.heap[q]? = some (.cells #[.string (s 0), .string (s 1), .string (s 2), .string (s 3), .string (s 4), .string (s 5), .string ⟨#[]⟩] 57 (0, 0))) := hqk
        rw [show ((3 : Nat) : Int) = 3 from rfl]
        go_wp2_with fail
        refine (unhide c6 _).mono ?_
        rintro e w1 ⟨rfl, hb1⟩
        have hq1 := blk_below (unhide hqk) hb1
        have G1 := blk_below Gk hb1
        have hB1 := hide ((unhide hbk).trans (hb1.mono (unhide hbk).size))
        clear r0 r1 r2 hb1 hqk Gk Rk
        obtain ⟨m0, m1, m2, m3, m4, m5, m6⟩ := blk7 hq1
        obtain ⟨p0, p1, p2, p3, p4, p5, p6⟩ := blk7f hq1
        obtain ⟨o0, o1, o2, o3, o4, o5, o6⟩ := blk7 G1
        obtain ⟨y0, y1, y2, y3, y4, y5, y6⟩ := blk7f G1
        go_wp2_with fail
        · have hE : (s 6).toList = [] := by simpa using ‹(s 6).toList.isEmpty = true›
          have hT9 := tOk_no4 (n := n) (d := d) (dr := dr) (a := at0) (x1 := x1) (x2 := x2) (x3 := x3) (toList_nil (unhide h6') hE)
          have P9 := put7 (v0 := .string (s 0)) (v1 := .string (s 1)) (v2 := .string (s 2)) (v3 := .string (s 3)) (v4 := .string (s 4)) (v5 := .string (s 5)) (v6 := .string ⟨#[]⟩) G1
          have B9 := (unhide hbV').trans (set7_below' (v0 := .string (s 0)) (v1 := .string (s 1)) (v2 := .string (s 2)) (v3 := .string (s 3)) (v4 := .string (s 4)) (v5 := .string (s 5)) (v6 := .string ⟨#[]⟩) (unhide hB1) hVw hGw)
          clear o0 o1 o2 o3 o4 o5 o6 y0 y1 y2 y3 y4 y5 y6 m0 m1 m2 m3 m4 m5 m6 p0 p1 p2 p3 p4 p5 p6
          generalize ((((((w1.setCell ⟨Gb, 0, none⟩ (.string (s 0))).setCell ⟨Gb, 1, none⟩ (.string (s 1))).setCell ⟨Gb, 2, none⟩ (.string (s 2))).setCell ⟨Gb, 3, none⟩ (.string (s 3))).setCell ⟨Gb, 4, none⟩ (.string (s 4))).setCell ⟨Gb, 5, none⟩ (.string (s 5))).setCell ⟨Gb, 6, none⟩ (.string ⟨#[]⟩) = W9 at *
          obtain ⟨o0, o1, o2, o3, o4, o5, o6⟩ := blk7 P9
          refine bodyPost_ret (v := .tuple #[.agg #[.string (s 0), .string (s 1), .string (s 2), .string (s 3), .string (s 4), .string (s 5), .string ⟨#[]⟩], .bool false]) (by simp [results, Tryz.results20, go_sem, o0, o1, o2, o3, o4, o5, o6]) rfl ?_
          rw [hT9]
          exact ⟨⟨_, rfl, fun h => Bool.noConfusion h, _, _, _, _, _, _, _, rfl⟩, by rw [hRb]; exact B9⟩
        · have hE : ¬ (s 6).toList = [] := by simpa using ‹(s 6).toList.isEmpty = false›
          go_roundw
          case rel => exact ⟨4, by omega, rfl, hide (wput3 hq1), hide ((unhide hB1).setCell (p := ⟨q, 6, none⟩) hqV _), hide (ne_succ (unhide hne) hE)⟩
          case measure => simp [intOf]
      · have Gk := (unhide hbk).block Gb hGV |>.trans G00
        replace hqk : Hid (wr.heap[q]? = some (.cells #[.string (s 0), .string (s 1), .string (s 2), .string (s 3), .string (s 4), .string (s 5), .string (s 6)] 57 (0, 0))) := hqk
        obtain ⟨m0, m1, m2, m3, m4, m5, m6⟩ := blk7 (unhide hqk)
        obtain ⟨o0, o1, o2, o3, o4, o5, o6⟩ := blk7 Gk
        obtain ⟨y0, y1, y2, y3, y4, y5, y6⟩ := blk7f Gk
        have hT9 := tOk_yes (n := n) (d := d) (dr := dr) (a := at0) (x1 := x1) (x2 := x2) (x3 := x3) (toList_ne (unhide h3') (unhide hne 0 (by omega))) (toList_ne (unhide h4') (unhide hne 1 (by omega))) (toList_ne (unhide h5') (unhide hne 2 (by omega))) (toList_ne (unhide h6') (unhide hne 3 (by omega)))
        clear hqk Rk hne
        rw [show ((4 : Nat) : Int) = 4 from rfl]
        have P9 := put7 (v0 := .string (s 0)) (v1 := .string (s 1)) (v2 := .string (s 2)) (v3 := .string (s 3)) (v4 := .string (s 4)) (v5 := .string (s 5)) (v6 := .string (s 6)) Gk
        have B9 := (unhide hbV').trans (set7_below' (v0 := .string (s 0)) (v1 := .string (s 1)) (v2 := .string (s 2)) (v3 := .string (s 3)) (v4 := .string (s 4)) (v5 := .string (s 5)) (v6 := .string (s 6)) (unhide hbk) hVw hGw)
        clear Gk
        go_wp2
        clear o0 o1 o2 o3 o4 o5 o6 y0 y1 y2 y3 y4 y5 y6 m0 m1 m2 m3 m4 m5 m6
        generalize ((((((wr.setCell ⟨Gb, 0, none⟩ (.string (s 0))).setCell ⟨Gb, 1, none⟩ (.string (s 1))).setCell ⟨Gb, 2, none⟩ (.string (s 2))).setCell ⟨Gb, 3, none⟩ (.string (s 3))).setCell ⟨Gb, 4, none⟩ (.string (s 4))).setCell ⟨Gb, 5, none⟩ (.string (s 5))).setCell ⟨Gb, 6, none⟩ (.string (s 6)) = W9 at *
        obtain ⟨o0, o1, o2, o3, o4, o5, o6⟩ := blk7 P9
        refine bodyPost_ret (v := .tuple #[.agg #[.string (s 0), .string (s 1), .string (s 2), .string (s 3), .string (s 4), .string (s 5), .string (s 6)], .bool true]) (by simp [results, Tryz.results20, go_sem, o0, o1, o2, o3, o4, o5, o6]) rfl ?_
        rw [hT9]
        exact ⟨⟨_, rfl, fun _ => rfl, _, _, _, _, _, _, _, rfl⟩, by rw [hRb]; exact B9⟩

end Go.Proofs.YtfhbmfndjbdhcaaGreatDoor

namespace Go.Proofs.YtfhbmfndjbdhcaaGreatDoor
open Go.RowKit Go.Shelf
set_option linter.unusedVariables false
set_option linter.unusedSimpArgs false
attribute [local go_sem] Oper.semAt_some

theorem fin_take {n k : Nat} (hk : k < n) : (List.finRange n).take (k + 1) = (List.finRange n).take k ++ [⟨k, hk⟩] := by
  rw [List.take_add_one]
  have : (List.finRange n)[k]? = some ⟨k, hk⟩ := by
    rw [List.getElem?_eq_getElem (by simpa using hk)]; simp
  rw [this]; rfl
/-- no row of bytes -/
def NoB (o : Obj) : Prop := o.isCells = true ∧ ∀ c fz, o ≠ .cells c 5 fz
/-- whatever is cells and no row of bytes lies as it lay, but the blocks L and b -/
def KeepU (L b : Nat) (X Y : World) : Prop := X.heap.size ≤ Y.heap.size ∧ ∀ (k : Nat) (o : Obj), X.heap[k]? = some o → NoB o → k ≠ L → k ≠ b → Y.heap[k]? = some o
theorem KeepU.refl (L b : Nat) (W : World) : KeepU L b W W := ⟨Nat.le_refl _, fun _ _ h _ _ _ => h⟩
theorem KeepU.trans {L b : Nat} {X Y Z : World} (h : KeepU L b X Y) (k : KeepU L b Y Z) : KeepU L b X Z := ⟨Nat.le_trans h.1 k.1, fun i o hi hc h1 h2 => k.2 i o (h.2 i o hi hc h1 h2) hc h1 h2⟩
theorem KeepU.putObj {L b l : Nat} {W : World} {o o' : Obj} (h : W.heap[l]? = some o) (ho : o.isCells = false) : KeepU L b W (W.putObj l o') :=
  ⟨by simp, fun k x hk hc _ _ => by
    by_cases e : k = l
    · subst e; rw [h] at hk; cases hk; have h9 := hc.1; rw [ho] at h9; cases h9
    · exact (World.putObj_heap_other e).trans hk⟩
theorem KeepU.below {L b : Nat} {X Y : World} (hb : Below X.heap.size X Y) : KeepU L b X Y :=
  ⟨hb.size, fun k o hk hc h1 h2 => (hb.block k (Array.getElem?_eq_some_iff.1 hk).1).trans hk⟩
theorem KeepU.set {L b : Nat} (X : World) (o : Nat) (v : Value) : KeepU L b X (X.setCell ⟨L, o, none⟩ v) :=
  ⟨by simp [World.setCell], fun k x hk hc h1 h2 => (Below.heap_setCell X ⟨L, o, none⟩ v k (by simpa using h1)).trans hk⟩
theorem KeepU.others {L b : Nat} {X Y : World} (h : Lib.OthersKept 5 (some b) X Y) (hs : X.heap.size ≤ Y.heap.size) : KeepU L b X Y :=
  ⟨hs, fun k o hk hc h1 h2 => h k o hk (by simpa using h2) hc.2⟩
theorem keepU_alloc {L b : Nat} (W : World) (o : Obj) : KeepU L b W (W.alloc o) := KeepU.below ((Below.refl _ W).alloc (Nat.le_refl _) o)
theorem keepOthers_below {X Y : World} (hb : Below X.heap.size X Y) : KeepsOthers X Y := ⟨hb.size, fun k o hk _ => (hb.block k (Array.getElem?_eq_some_iff.1 hk).1).trans hk⟩
theorem keepOthers_oth {b : Nat} {X Y : World} {c : Array Value} {t : TypeId} {fz : Nat × Nat} (hb : X.heap[b]? = some (.cells c t fz)) (h : Lib.OthersKept 5 (some b) X Y) (hs : X.heap.size ≤ Y.heap.size) : KeepsOthers X Y :=
  ⟨hs, fun k o hk ho => h k o hk (fun e => by injection e with e; subst e; rw [hb] at hk; cases hk; cases ho) (fun c fz e => by subst e; cases ho)⟩
theorem noB_of (c : Array Value) (t : TypeId) (fz : Nat × Nat) (h : t ≠ 5) : NoB (.cells c t fz) := ⟨rfl, fun _ _ e => by injection e with _ e _; exact h e⟩
/-- what the iterator hands over -/
def plv (l : List Kl) (k : Nat) : Array Value := #[.int .i64 (clen (l.take k)), .agg #[.int .i64 (kAt l k).1, .int .i64 (kAt l k).2.1, .int .i64 (kAt l k).2.2]]

theorem keepU_blk {L b k : Nat} {X Y : World} {o : Obj} (h : KeepU L b X Y) (hk : X.heap[k]? = some o) (hn : NoB o) (h1 : k ≠ L) (h2 : k ≠ b) : Y.heap[k]? = some o := h.2 k o hk hn h1 h2
/-- the clips l behind the address a, in a row of clips, not in the blocks L and b -/
def KlsU (L b : Nat) (w : World) (a : Option Addr) (l : List Kl) : Prop := Kls w a l ∧ (l ≠ [] → ∀ g o, a = some ⟨g, o, none⟩ → g ≠ L ∧ g ≠ b ∧ ∃ c fz, w.heap[g]? = some (.cells c 44 fz))
theorem KlsU.keep {L b : Nat} {X Y : World} {a : Option Addr} {l : List Kl} (h : KlsU L b X a l) (hk : KeepU L b X Y) : KlsU L b Y a l := by
  refine ⟨fun j x hx => ?_, fun hn g o e => ?_⟩
  · obtain ⟨g, o, e, h1, c0, c1, c2⟩ := h.1 j x hx
    obtain ⟨n1, n2, c, fz, hb⟩ := h.2 (by intro hn; rw [hn] at hx; simp at hx) g o e
    have hY := hk.2 g _ hb (noB_of _ _ _ (by decide)) n1 n2
    have C : ∀ o, Y.cell? ⟨g, o, none⟩ = X.cell? ⟨g, o, none⟩ := fun o => World.cell?_of_block (a := ⟨g, o, none⟩) (hY.trans hb.symm)
    exact ⟨g, o, e, Nat.lt_of_lt_of_le h1 hk.1, (C _).trans c0, (C _).trans c1, (C _).trans c2⟩
  · obtain ⟨n1, n2, c, fz, hb⟩ := h.2 hn g o e
    exact ⟨n1, n2, c, fz, hk.2 g _ hb (noB_of _ _ _ (by decide)) n1 n2⟩
theorem keepU_b {L b : Nat} {w : World} (W : World) (l : Nat) (o o' : Obj) (hl : w.heap.size ≤ l) (h : W.heap[l]? = some o) (ho : o.isCells = false) (_ : o.isWalk = false) : KeepU L b W (W.putObj l o') := KeepU.putObj h ho

set_option maxRecDepth 100000 in
set_option maxHeartbeats 4000000 in
theorem placed_in (n l0 L b Bs : Nat) (a : Option Addr) (cap : Nat) (l : List Kl) (hl : l.length ≤ 300) (hA : AOk l) (W : World) (hk : KlsU L b W a l) (hL2 : L < W.heap.size) (hA2 : b < W.heap.size) (hBs : W.cell? ⟨Bs, 0, none⟩ = some (.slice a l.length cap))
    (J Jx : List (Fin l.length) → World → Prop) (hJ : ∀ s X Y, J s X → X.grownBy Y none → J s Y)
    (hY : ∀ pre x W1, J pre W1 → pre.length < l.length → YieldAt Fence.wide (n - 1) Tryz.prog l0 (plv l x.1) W1 fun e W' =>
      (e = .returned (.bool true) ∧ J (pre ++ [x]) W' ∧ KeepU L b W1 W') ∨ (e = .returned (.bool false) ∧ Jx (pre ++ [x]) W'))
    (h0 : J [] W) :
    CallsIn Fence.wide n Tryz.prog 38 #[.func (.yield l0) #[] #[], .pointer (some ⟨Bs, 0, none⟩)] W fun e W' => (∃ v, e = .returned v) ∧ ((∃ xs, xs = List.finRange l.length ∧ J xs W') ∨ (∃ pre, (∃ k, k ≤ l.length ∧ pre = (List.finRange l.length).take k) ∧ Jx pre W')) := by
  refine callsIn_of_wp Tryz.func38 rfl trivial ?_ rfl
  simp only [Tryz.ntmps38, List.size_toArray, List.length_cons, List.length_nil, Nat.reduceAdd, Nat.reduceSub, Array.replicate_succ, Array.replicate_zero, List.push_toArray, List.append_toArray, List.nil_append, List.cons_append]
  have hk' := hide hk
  have hA' := hide hA
  have hY' := hide hY
  have hJ' := hide hJ
  have h0' := hide h0
  clear hk hA hY hJ h0
  gi_wp2
  gi_loopw [3, 8] (fun s i wr => ∃ k : Nat, k ≤ l.length ∧ i = .int .i64 k ∧ s = .int .i64 (clen (l.take k)) ∧ Hid (J ((List.finRange l.length).take k) wr) ∧ Hid (KlsU L b wr a l) ∧ L < wr.heap.size ∧ b < wr.heap.size)
    (fun _ i _ => l.length - (intOf i).toNat)
  case atStart => exact ⟨0, Nat.zero_le _, rfl, by simp [clen], hide (by simpa using unhide h0'), hk', hL2, hA2⟩
  case round =>
    clear h0' hk' hL2 hA2 hBs
    obtain ⟨k, hkl, rfl, rfl, hJs, hks, hLw, hAw⟩ := hrel
    by_cases hlt : k < l.length
    · obtain ⟨g, o, x1, x2, x3, rfl, hx, d0, d1, d2⟩ := kls_at (unhide hks).1 (Below.refl _ _) hlt
      have hc := (unhide hA') _ (List.mem_of_getElem? hx)
      obtain ⟨n0, n1, i0, i1, _⟩ := hc
      simp only at n0 n1 i0 i1
      obtain ⟨q0, q1⟩ := take_bd ((unhide hA').take k) hkl
      obtain ⟨W1, hW1⟩ : ∃ W1, wr.alloc (.cells #[.int .i64 x1, .int .i64 x2, .int .i64 x3] 44) = W1 := ⟨_, rfl⟩
      have hg1 : wr.grownBy W1 none := by rw [← hW1]; exact World.grownBy_alloc _ _ _
      have hJ1 := (unhide hJ') _ _ _ (unhide hJs) hg1
      have hc1 : W1.heap[wr.heap.size]? = some (.cells #[.int .i64 x1, .int .i64 x2, .int .i64 x3] 44 (0, 0)) := by rw [← hW1]; exact World.alloc_heap_new _ _
      have hkX : KeepU L b wr W1 := by rw [← hW1]; exact keepU_alloc _ _
      obtain ⟨fn, tmps, assign, body, hy, hR⟩ := (unhide hY') _ ⟨k, hlt⟩ W1 hJ1 (by rw [List.length_take, List.length_finRange]; omega)
      have hpv : plv l k = #[.int .i64 (clen (l.take k)), .agg #[.int .i64 x1, .int .i64 x2, .int .i64 x3]] := by unfold plv; rw [kAt_eq hx]
      have hy' : (Instr.yield l0 #[.int .i64 (clen (l.take k)), .agg #[.int .i64 x1, .int .i64 x2, .int .i64 x3]]).run Tryz.prog W1 = .ok (.round l0 fn tmps assign body) W1 := by rw [← hpv]; exact hy
      have ho := hide (clen_take hx)
      have hg1' := hide hg1
      have hc1' := hide hc1
      have hkX' := hide hkX
      clear hy hg1 hc1 hJ1 hx hkX hpv
      generalize clen (l.take k) = ck at *
      subst hW1
      gi_wp2_with fail
      refine ⟨fun h => by simp [Fence.wide] at h, hR.mono ?_⟩
      rintro e W3 (⟨rfl, hJ3, hk3⟩ | ⟨rfl, hJx3⟩)
      · have C3 := hk3.2 _ _ (unhide hc1') (noB_of _ _ _ (by decide)) (by omega) (by omega)
        have hks3 := hide (((unhide hks).keep (unhide hkX')).keep hk3)
        have hA3 : b < W3.heap.size := Nat.lt_of_lt_of_le (Nat.lt_of_lt_of_le hAw (unhide hkX').1) hk3.1
        have hL3 : L < W3.heap.size := Nat.lt_of_lt_of_le (Nat.lt_of_lt_of_le hLw (unhide hkX').1) hk3.1
        obtain ⟨z0, z1, z2⟩ := blk3 C3
        have hJ3' := hide hJ3
        clear d0 d1 d2 hy' hR hg1' hc1' hJs hks hJ3 hk3 C3 hkX'
        generalize wr.heap.size = cb at *
        gi_wp2
        go_roundw
        case rel => exact ⟨k + 1, by omega, by go_num, by rw [unhide ho], hide (by rw [fin_take hlt]; exact unhide hJ3'), hks3, hL3, hA3⟩
        case measure => simp [intOf]; omega
      · gi_wp2
        refine bodyPost_ret (results_none rfl _ _ _) rfl ?_
        exact ⟨⟨_, rfl⟩, .inr ⟨_, ⟨k + 1, by omega, (fin_take hlt).symm⟩, hJx3⟩⟩
    · have hke : k = l.length := by omega
      clear hks
      gi_wp2
      go_end0
      refine ⟨⟨_, rfl⟩, .inl ⟨_, rfl, ?_⟩⟩
      have := unhide hJs
      rw [hke, List.take_of_length_le (by simp)] at this
      exact this

theorem placed_stops (n L b Bs : Nat) (a : Option Addr) (cap : Nat) (l : List Kl) (hl : l.length ≤ 300) (hA : AOk l) (w : World) (hk : KlsU L b w a l) (hL2 : L < w.heap.size) (hA2 : b < w.heap.size) (hBl : Bs < w.heap.size) (hBs : w.cell? ⟨Bs, 0, none⟩ = some (.slice a l.length cap)) :
    SeqStopsK Fence.wide n Tryz.prog 38 #[.pointer (some ⟨Bs, 0, none⟩)] (fun x : Fin l.length => plv l x.1) (KeepU L b) (fun xs => xs = List.finRange l.length) (fun pre => ∃ k, k ≤ l.length ∧ pre = (List.finRange l.length).take k) l.length w :=
  fun l0 J Jx W hW hJ hJx hY h0 => placed_in n l0 L b Bs a cap l hl hA W (hk.keep (KeepU.below hW)) (Nat.lt_of_lt_of_le hL2 hW.size) (Nat.lt_of_lt_of_le hA2 hW.size) ((hW.cell (p := ⟨Bs, 0, none⟩) hBl).trans hBs) J Jx (fun s X Y h hg => hJ s X Y none h hg (fun r e => by cases e)) hY h0

set_option maxHeartbeats 1000000 in
theorem placed_any (a : Option Addr) (len cap : Nat) (w : World) :
    Calls Tryz.prog 19 #[.slice a len cap] w fun e w' => e = .returned (.func (.func 38) #[] #[.pointer (some ⟨w.heap.size, 0, none⟩)]) ∧ w' = w.alloc (.cells #[.slice a len cap] 45) := by
  go_enter Tryz.func19, Tryz.ntmps19
  go_wp2
  go_ret
  exact ⟨rfl, rfl⟩

end Go.Proofs.YtfhbmfndjbdhcaaGreatDoor
