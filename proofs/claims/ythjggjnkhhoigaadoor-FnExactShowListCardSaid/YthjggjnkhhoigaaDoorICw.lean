/-
  The program's words of a clip's line: their contract.
-/
import Derived.Test.YthjggjnkhhoigaaDoorIWd
namespace Go.Proofs.YthjggjnkhhoigaaDoor
open Go.RowKit
set_option linter.unusedVariables false
set_option linter.unusedSimpArgs false

theorem inum_val (i : Nat) (s : ByteArray) (hs : (⟨(numW i).toArray⟩ : ByteArray) = s) (w : World) (hi : i < 999) :
    Calls Tryd.prog 34 #[.int .i64 i] w fun e w' => e = .returned (.string s) ∧ Below w.heap.size w w' := by subst hs; exact inum_any i w hi
theorem iword_val (x : Int) (s : ByteArray) (hs : (⟨(srcW x).toArray⟩ : ByteArray) = s) (w : World) (h0 : 0 ≤ x) (h1 : x ≤ 500) (ht : Tab w) :
    Calls Tryd.prog 35 #[.int .i64 x] w fun e w' => e = .returned (.string s) ∧ Below w.heap.size w w' := by subst hs; exact iword_any x w h0 h1 ht
theorem itext_val (n d : Int) (dr : Bool) (f : Int) (s : ByteArray) (hs : (⟨(Pl.tt n d dr f).toArray⟩ : ByteArray) = s) (w : World) :
    Calls Tryd.prog 36 #[.agg #[.int .i64 n, .int .i64 d, .bool dr], .int .i64 f] w fun e w' => e = .returned (.string s) ∧ Below w.heap.size w w' := by subst hs; exact itext_any n d dr f w
theorem blk7 {X : World} {b : Nat} {t : TypeId} {v0 v1 v2 v3 v4 v5 v6 : Value} (h : X.heap[b]? = some (.cells #[v0, v1, v2, v3, v4, v5, v6] t (0, 0))) :
    X.cell? ⟨b, 0, none⟩ = some v0 ∧ X.cell? ⟨b, 1, none⟩ = some v1 ∧ X.cell? ⟨b, 2, none⟩ = some v2 ∧ X.cell? ⟨b, 3, none⟩ = some v3 ∧ X.cell? ⟨b, 4, none⟩ = some v4 ∧ X.cell? ⟨b, 5, none⟩ = some v5 ∧ X.cell? ⟨b, 6, none⟩ = some v6 := by
  refine ⟨?_, ?_, ?_, ?_, ?_, ?_, ?_⟩ <;> simp [World.cell?, h]
theorem blk7f {X : World} {b : Nat} {t : TypeId} {v0 v1 v2 v3 v4 v5 v6 : Value} (h : X.heap[b]? = some (.cells #[v0, v1, v2, v3, v4, v5, v6] t (0, 0))) :
    X.frozen? ⟨b, 0, none⟩ = false ∧ X.frozen? ⟨b, 1, none⟩ = false ∧ X.frozen? ⟨b, 2, none⟩ = false ∧ X.frozen? ⟨b, 3, none⟩ = false ∧ X.frozen? ⟨b, 4, none⟩ = false ∧ X.frozen? ⟨b, 5, none⟩ = false ∧ X.frozen? ⟨b, 6, none⟩ = false := by
  refine ⟨?_, ?_, ?_, ?_, ?_, ?_, ?_⟩ <;> exact Lib.frozen_of_heap h _
theorem put7 {X : World} {q : Nat} {t : TypeId} {a0 a1 a2 a3 a4 a5 a6 v0 v1 v2 v3 v4 v5 v6 : Value} (h : X.heap[q]? = some (.cells #[a0, a1, a2, a3, a4, a5, a6] t (0, 0))) :
    (((((((X.setCell ⟨q, 0, none⟩ v0).setCell ⟨q, 1, none⟩ v1).setCell ⟨q, 2, none⟩ v2).setCell ⟨q, 3, none⟩ v3).setCell ⟨q, 4, none⟩ v4).setCell ⟨q, 5, none⟩ v5).setCell ⟨q, 6, none⟩ v6).heap[q]? = some (.cells #[v0, v1, v2, v3, v4, v5, v6] t (0, 0)) := by
  simp [World.setCell, h, Array.getElem?_modify]
theorem set7_cell {X : World} {q b o : Nat} {v0 v1 v2 v3 v4 v5 v6 : Value} (h : q ≠ b) :
    (((((((X.setCell ⟨q, 0, none⟩ v0).setCell ⟨q, 1, none⟩ v1).setCell ⟨q, 2, none⟩ v2).setCell ⟨q, 3, none⟩ v3).setCell ⟨q, 4, none⟩ v4).setCell ⟨q, 5, none⟩ v5).setCell ⟨q, 6, none⟩ v6).cell? ⟨b, o, none⟩ = X.cell? ⟨b, o, none⟩ := by
  simp [World.cell?, World.setCell, h, Array.getElem?_modify]
theorem set7_below {V X : World} {q : Nat} {v0 v1 v2 v3 v4 v5 v6 : Value} (hb : Below V.heap.size V X) (h : V.heap.size ≤ q) :
    Below V.heap.size V (((((((X.setCell ⟨q, 0, none⟩ v0).setCell ⟨q, 1, none⟩ v1).setCell ⟨q, 2, none⟩ v2).setCell ⟨q, 3, none⟩ v3).setCell ⟨q, 4, none⟩ v4).setCell ⟨q, 5, none⟩ v5).setCell ⟨q, 6, none⟩ v6) :=
  ((((((hb.setCell (p := ⟨q, 0, none⟩) h _).setCell (p := ⟨q, 1, none⟩) h _).setCell (p := ⟨q, 2, none⟩) h _).setCell (p := ⟨q, 3, none⟩) h _).setCell (p := ⟨q, 4, none⟩) h _).setCell (p := ⟨q, 5, none⟩) h _).setCell (p := ⟨q, 6, none⟩) h _
theorem ne_succ {s : Nat → ByteArray} {k : Nat} (h : ∀ j, j < k → ¬ (s (3 + j)).toList = []) (hE : ¬ (s (3 + k)).toList = []) : ∀ j, j < k + 1 → ¬ (s (3 + j)).toList = [] := fun j hj => by
  rcases Nat.lt_or_ge j k with h1 | h1
  · exact h j h1
  · have : j = k := by omega
    subst this; exact hE
/-- the block of the words, k times among them -/
def wkk (s : Nat → ByteArray) (k j : Nat) : ByteArray := if j < k then s (3 + j) else ⟨#[]⟩
def wdK (s : Nat → ByteArray) (k : Nat) : Obj := .cells #[.string (s 0), .string (s 1), .string (s 2), .string (wkk s k 0), .string (wkk s k 1), .string (wkk s k 2), .string (wkk s k 3)] 55 (0, 0)
theorem put0 {X : World} {q : Nat} {s : Nat → ByteArray} (h : X.heap[q]? = some (.cells #[.string (s 0), .string (s 1), .string (s 2), .string ⟨#[]⟩, .string ⟨#[]⟩, .string ⟨#[]⟩, .string ⟨#[]⟩] 55 (0, 0))) : (X.setCell ⟨q, 3, none⟩ (.string (s 3))).heap[q]? = some (wdK s 1) := by
  simp [World.setCell, h, Array.getElem?_modify, wdK, wkk]
theorem put1 {X : World} {q : Nat} {s : Nat → ByteArray} (h : X.heap[q]? = some (.cells #[.string (s 0), .string (s 1), .string (s 2), .string (s 3), .string ⟨#[]⟩, .string ⟨#[]⟩, .string ⟨#[]⟩] 55 (0, 0))) : (X.setCell ⟨q, 4, none⟩ (.string (s 4))).heap[q]? = some (wdK s 2) := by
  simp [World.setCell, h, Array.getElem?_modify, wdK, wkk]
theorem put2 {X : World} {q : Nat} {s : Nat → ByteArray} (h : X.heap[q]? = some (.cells #[.string (s 0), .string (s 1), .string (s 2), .string (s 3), .string (s 4), .string ⟨#[]⟩, .string ⟨#[]⟩] 55 (0, 0))) : (X.setCell ⟨q, 5, none⟩ (.string (s 5))).heap[q]? = some (wdK s 3) := by
  simp [World.setCell, h, Array.getElem?_modify, wdK, wkk]
theorem put3 {X : World} {q : Nat} {s : Nat → ByteArray} (h : X.heap[q]? = some (.cells #[.string (s 0), .string (s 1), .string (s 2), .string (s 3), .string (s 4), .string (s 5), .string ⟨#[]⟩] 55 (0, 0))) : (X.setCell ⟨q, 6, none⟩ (.string (s 6))).heap[q]? = some (wdK s 4) := by
  simp [World.setCell, h, Array.getElem?_modify, wdK, wkk]
theorem set7_below' {V X : World} {B q : Nat} {v0 v1 v2 v3 v4 v5 v6 : Value} (hb : Below V.heap.size V X) (hB : B ≤ V.heap.size) (h : B ≤ q) :
    Below B V (((((((X.setCell ⟨q, 0, none⟩ v0).setCell ⟨q, 1, none⟩ v1).setCell ⟨q, 2, none⟩ v2).setCell ⟨q, 3, none⟩ v3).setCell ⟨q, 4, none⟩ v4).setCell ⟨q, 5, none⟩ v5).setCell ⟨q, 6, none⟩ v6) :=
  (((((((hb.mono hB).setCell (p := ⟨q, 0, none⟩) h _).setCell (p := ⟨q, 1, none⟩) h _).setCell (p := ⟨q, 2, none⟩) h _).setCell (p := ⟨q, 3, none⟩) h _).setCell (p := ⟨q, 4, none⟩) h _).setCell (p := ⟨q, 5, none⟩) h _).setCell (p := ⟨q, 6, none⟩) h _
/-- the block of the seven words -/
abbrev wdO (s : Nat → ByteArray) : Obj := .cells #[.string (s 0), .string (s 1), .string (s 2), .string (s 3), .string (s 4), .string (s 5), .string (s 6)] 55

set_option maxRecDepth 100000 in
set_option maxHeartbeats 1000000 in
theorem icw_any (n d : Int) (dr : Bool) (i : Nat) (at0 x1 x2 x3 : Int) (w : World) (hi : i < 999) (ha : 0 ≤ at0) (ha1 : at0 + x3 ≤ 10000000) (hc : COk (x1, x2, x3)) (ht : Tab w) (s : Nat → ByteArray)
    (h0 : (⟨(numW i).toArray⟩ : ByteArray) = s 0) (h1 : (⟨(srcW x1).toArray⟩ : ByteArray) = s 1) (h2 : (⟨#[67]⟩ : ByteArray) = s 2) (h3 : (⟨(Pl.tt n d dr x2).toArray⟩ : ByteArray) = s 3) (h4 : (⟨(Pl.tt n d dr (x2 + x3)).toArray⟩ : ByteArray) = s 4)
    (h5 : (⟨(Pl.tt n d dr at0).toArray⟩ : ByteArray) = s 5) (h6 : (⟨(Pl.tt n d dr (at0 + x3)).toArray⟩ : ByteArray) = s 6) :
    Calls Tryd.prog 20 #[.agg #[.int .i64 n, .int .i64 d, .bool dr], .int .i64 i, .int .i64 at0, .agg #[.int .i64 x1, .int .i64 x2, .int .i64 x3]] w fun e w' =>
      (∃ v, e = .returned (.tuple #[v, .bool (tOk n d dr at0 (x1, x2, x3))]) ∧ (tOk n d dr at0 (x1, x2, x3) = true → v = .agg #[.string (s 0), .string (s 1), .string (s 2), .string (s 3), .string (s 4), .string (s 5), .string (s 6)]) ∧ ∃ u0 u1 u2 u3 u4 u5 u6, v = .agg #[.string u0, .string u1, .string u2, .string u3, .string u4, .string u5, .string u6]) ∧ Below w.heap.size w w' := by
  obtain ⟨n0, n1, i0', i1', hsrc⟩ := hc
  simp only at n0 n1 i0' i1' hsrc
  have hx0 : 0 ≤ x1 := by omega
  have hx5 : x1 ≤ 500 := by omega
  have c34 := hide (fun w => inum_val i (s 0) h0 w hi)
  have c3 := hide (itext_val n d dr x2 (s 3) h3)
  have c4 := hide (itext_val n d dr (x2 + x3) (s 4) h4)
  have c5 := hide (itext_val n d dr at0 (s 5) h5)
  have c6 := hide (itext_val n d dr (at0 + x3) (s 6) h6)
  have h3' := hide h3
  have h4' := hide h4
  have h5' := hide h5
  have h6' := hide h6
  have ht' := hide ht
  have c35 := hide (fun (w' : World) (hb : Below w.heap.size w w') => iword_val x1 (s 1) h1 w' hx0 hx5 ((unhide ht').below hb))
  clear h0 h1 h3 h4 h5 h6 hsrc ht ht'
  obtain ⟨V, hV⟩ : ∃ V, V = ((w.alloc (.cells #[.int .i64 n, .int .i64 d, .bool dr] 27)).alloc (.cells #[.int .i64 x1, .int .i64 x2, .int .i64 x3] 38)).alloc (.cells #[.string ⟨#[]⟩, .string ⟨#[]⟩, .string ⟨#[]⟩, .string ⟨#[]⟩, .string ⟨#[]⟩, .string ⟨#[]⟩, .string ⟨#[]⟩] 55) := ⟨_, rfl⟩
  have hbV : Below w.heap.size w V := by rw [hV]; exact (((Below.refl _ w).alloc (Nat.le_refl _) _).alloc (by simp) _).alloc (by simp; omega) _
  have R0 : V.heap[w.heap.size]? = some (.cells #[.int .i64 n, .int .i64 d, .bool dr] 27 (0, 0)) := by
    rw [hV, Below.heap_alloc _ _ _ (by simp; omega), Below.heap_alloc _ _ _ (by simp)]; exact alloc_new _ _
  have C0 : V.heap[w.heap.size + 1]? = some (.cells #[.int .i64 x1, .int .i64 x2, .int .i64 x3] 38 (0, 0)) := by
    rw [hV, Below.heap_alloc _ _ _ (by simp)]
    have := alloc_new (w.alloc (.cells #[.int .i64 n, .int .i64 d, .bool dr] 27)) (.cells #[.int .i64 x1, .int .i64 x2, .int .i64 x3] 38)
    rwa [World.size_alloc] at this
  have G0 : V.heap[w.heap.size + 1 + 1]? = some (.cells #[.string ⟨#[]⟩, .string ⟨#[]⟩, .string ⟨#[]⟩, .string ⟨#[]⟩, .string ⟨#[]⟩, .string ⟨#[]⟩, .string ⟨#[]⟩] 55 (0, 0)) := by
    rw [hV]
    have := alloc_new ((w.alloc (.cells #[.int .i64 n, .int .i64 d, .bool dr] 27)).alloc (.cells #[.int .i64 x1, .int .i64 x2, .int .i64 x3] 38)) (.cells #[.string ⟨#[]⟩, .string ⟨#[]⟩, .string ⟨#[]⟩, .string ⟨#[]⟩, .string ⟨#[]⟩, .string ⟨#[]⟩, .string ⟨#[]⟩] 55)
    rwa [World.size_alloc, World.size_alloc] at this
  have c35' := hide (fun (w' : World) (hb : Below V.heap.size V w') => (unhide c35) w' (hbV.trans (hb.mono hbV.size)))
  clear c35
  have c35 := c35'
  clear c35'
  go_enter Tryd.func20, Tryd.ntmps20
  go_upto_region 1 with fail
  rw [← hV]
  clear hV
  have hVw := hbV.size
  generalize hRb : w.heap.size = Rb at *
  generalize hCb : Rb + 1 = Cb at *
  generalize hGb : Cb + 1 = Gb at *
  obtain ⟨z0, z1, z2⟩ := blk3 C0
  have hGV : Gb < V.heap.size := (Array.getElem?_eq_some_iff.1 G0).1
  have hGw : Rb ≤ Gb := by omega
  have hbV' := hide hbV
  have R00 := R0
  have G00 := G0
  have hCV : Cb < V.heap.size := (Array.getElem?_eq_some_iff.1 C0).1
  go_cut [10] from 10 to 48 (fun p wx => ∃ q, p = .pointer (some ⟨q, 0, none⟩) ∧ V.heap.size ≤ q ∧ Hid (wx.heap[q]? = some (.cells #[.string (s 0), .string (s 1), .string (s 2), .string ⟨#[]⟩, .string ⟨#[]⟩, .string ⟨#[]⟩, .string ⟨#[]⟩] 55 (0, 0))) ∧ Hid (Below V.heap.size V wx))
  case first =>
    refine wp_region_noPanic ?_
    refine wp_region_held_drew (S := (fun w' => w'.cell? ⟨Cb, 0, none⟩ = some (.int .i64 x1) ∧ Below V.heap.size V w')) (by kernel_rfl) ?_ (fun hH0 => ?_)
    · exact ⟨z0, (Below.refl _ _).drew⟩
    refine wpAnyH_take (i := 0) (oi := { dst := some 14, op := Go.Op.move (Go.Operand.tmp 1), type := 2, pos := _, after := #[], guard := none }) (v := ?_) rfl (by kernel_rfl) (by kernel_rfl) (by kernel_rfl) (fun _ _ _ h => h) (Or.inl ⟨by rfl, ?_⟩) hH0 ?_
    rotate_left
    · (intro w hSw; (try dsimp only at hSw); go_simp <;> with_reducible rfl)
    (try simp only [Act.put, List.setIfInBounds_toArray, List.set_cons_zero, List.set_cons_succ])
    refine wpAnyH_take (i := 2) (oi := { dst := some 16, op := Go.Op.fieldAddr 38 (Go.Operand.tmp 7) 0, type := 0, pos := _, after := #[], guard := none }) (v := ?_) rfl (by kernel_rfl) (by kernel_rfl) (by kernel_rfl) (fun _ _ _ h => h) (Or.inl ⟨by rfl, ?_⟩) hH0 ?_
    rotate_left
    · (intro w hSw; (try dsimp only at hSw); go_simp <;> with_reducible rfl)
    (try simp only [Act.put, List.setIfInBounds_toArray, List.set_cons_zero, List.set_cons_succ])
    refine wpAnyH_take (i := 3) (oi := { dst := some 17, op := Go.Op.load 2 (Go.Operand.tmp 16), type := 2, pos := _, after := #[{ on := 2, ground := Go.Ground.data }], guard := none }) (v := ?_) rfl (by kernel_rfl) (by kernel_rfl) (by kernel_rfl) (fun _ _ _ h => h) (Or.inl ⟨by rfl, ?_⟩) hH0 ?_
    rotate_left
    · (intro w hSw; (try dsimp only at hSw); go_simp <;> with_reducible rfl)
    (try simp only [Act.put, List.setIfInBounds_toArray, List.set_cons_zero, List.set_cons_succ])
    refine wpAnyH_ready (rs := [1, 6]) (by kernel_rfl) (by simp) ?_
    refine AllReadyH.cons (o := { dst := some 15, op := Go.Op.call { callee := Go.Callee.value (Go.Operand.func 34), args := #[Go.Operand.tmp 14], argTypes := #[2] }, type := 9, pos := _, after := #[{ on := 0, ground := Go.Ground.data }], guard := none }) rfl (fun K hK => ?_) (AllReadyH.cons (o := { dst := some 10, op := Go.Op.alloc 55, type := 0, pos := _, after := #[], guard := none }) rfl (fun K hK => ?_) AllReadyH.nil)
    · go_simp
      refine (unhide c34 _).mono ?_
      rintro e wa ⟨rfl, ka⟩
      refine hK.out _ _ ?_ (fun hH1 => ?_)
      · exact ⟨cell_later ka hH0.1, laterB hH0.2 ka⟩
      clear hK K
      (try simp only [Act.put, List.setIfInBounds_toArray, List.set_cons_zero, List.set_cons_succ])
      refine wpAnyH_ready (rs := [4, 6]) (by kernel_rfl) (by simp) ?_
      refine AllReadyH.cons (o := { dst := some 18, op := Go.Op.call { callee := Go.Callee.value (Go.Operand.func 35), args := #[Go.Operand.tmp 17], argTypes := #[2] }, type := 9, pos := _, after := #[{ on := 3, ground := Go.Ground.data }, { on := 1, ground := Go.Ground.chain }], guard := none }) rfl (fun K hK => ?_) (AllReadyH.cons (o := { dst := some 10, op := Go.Op.alloc 55, type := 0, pos := _, after := #[], guard := none }) rfl (fun K hK => ?_) AllReadyH.nil)
      · go_simp
        refine (unhide c35 _ hH1.2).mono ?_
        rintro e wb ⟨rfl, kb⟩
        refine hK.out _ _ ?_ (fun hH2 => ?_)
        · exact ⟨cell_later kb hH1.1, laterB hH1.2 kb⟩
        clear hK K
        (try simp only [Act.put, List.setIfInBounds_toArray, List.set_cons_zero, List.set_cons_succ])
        refine wpAnyH_take (i := 5) (oi := { dst := some 19, op := Go.Op.build 55 #[(0, Go.Operand.tmp 15), (1, Go.Operand.tmp 18), (2, Go.Operand.const (Go.Value.string { data := #[67] }))], type := 55, pos := _, after := #[{ on := 1, ground := Go.Ground.data }, { on := 4, ground := Go.Ground.data }], guard := none }) (v := ?_) rfl (by kernel_rfl) (by kernel_rfl) (by kernel_rfl) (fun _ _ _ h => h) (Or.inl ⟨by rfl, ?_⟩) hH2 ?_
        rotate_left
        · (intro w hSw; (try dsimp only at hSw); go_simp <;> with_reducible rfl)
        (try simp only [Act.put, List.setIfInBounds_toArray, List.set_cons_zero, List.set_cons_succ])
        refine wpAnyH_ready (rs := [6]) (by kernel_rfl) (by simp) ?_
        refine AllReadyH.cons (o := { dst := some 10, op := Go.Op.alloc 55, type := 0, pos := _, after := #[], guard := none }) rfl (fun K hK => ?_) AllReadyH.nil
        go_simp
        have kq := (Below.refl (wb).heap.size (wb)).alloc (Nat.le_refl _) (.cells #[.string ⟨#[]⟩, .string ⟨#[]⟩, .string ⟨#[]⟩, .string ⟨#[]⟩, .string ⟨#[]⟩, .string ⟨#[]⟩, .string ⟨#[]⟩] 55)
        have hq := alloc_new (wb) (.cells #[.string ⟨#[]⟩, .string ⟨#[]⟩, .string ⟨#[]⟩, .string ⟨#[]⟩, .string ⟨#[]⟩, .string ⟨#[]⟩, .string ⟨#[]⟩] 55)
        have hqV : V.heap.size ≤ (wb).heap.size := hH2.2.size
        refine hK.out _ _ ?_ (fun hH3 => ?_)
        · exact ⟨cell_later kq hH2.1, laterB hH2.2 kq⟩
        clear hK K
        generalize hqe : (wb).heap.size = q at *
        generalize hwe : (wb).alloc (.cells #[.string ⟨#[]⟩, .string ⟨#[]⟩, .string ⟨#[]⟩, .string ⟨#[]⟩, .string ⟨#[]⟩, .string ⟨#[]⟩, .string ⟨#[]⟩] 55) = wq at *
        (try simp only [Act.put, List.setIfInBounds_toArray, List.set_cons_zero, List.set_cons_succ])
        refine wpAnyH_ready (rs := [7]) (by kernel_rfl) (by simp) ?_
        refine AllReadyH.cons (o := { dst := none, op := Go.Op.store 55 (Go.Operand.tmp 10) (Go.Operand.tmp 19), type := 0, pos := _, after := #[{ on := 6, ground := Go.Ground.data }, { on := 5, ground := Go.Ground.data }, { on := 4, ground := Go.Ground.chain }, { on := 0, ground := Go.Ground.phase }, { on := 1, ground := Go.Ground.phase }, { on := 2, ground := Go.Ground.phase }, { on := 3, ground := Go.Ground.phase }, { on := 4, ground := Go.Ground.phase }, { on := 5, ground := Go.Ground.phase }, { on := 6, ground := Go.Ground.phase }], guard := none }) rfl (fun K hK => ?_) AllReadyH.nil
        obtain ⟨m0, m1, m2, m3, m4, m5, m6⟩ := blk7 hq
        obtain ⟨p0, p1, p2, p3, p4, p5, p6⟩ := blk7f hq
        go_simp
        refine hK.out _ _ ?_ (fun hH9 => ?_)
        · exact ⟨(set7_cell (by omega)).trans hH3.1, set7_below hH3.2 hqV⟩
        clear hK K
        (try simp only [Act.put, List.setIfInBounds_toArray, List.set_cons_zero, List.set_cons_succ])
        refine wpAnyH_done (by kernel_rfl) ?_ _
        refine NoPanic.normal ?_
        go_wp2
        go_meet
        case rel =>
          exact ⟨q, rfl, hqV, hide (put7 hq), hide hH9.2⟩

      · go_simp
        have kq := (Below.refl (wa).heap.size (wa)).alloc (Nat.le_refl _) (.cells #[.string ⟨#[]⟩, .string ⟨#[]⟩, .string ⟨#[]⟩, .string ⟨#[]⟩, .string ⟨#[]⟩, .string ⟨#[]⟩, .string ⟨#[]⟩] 55)
        have hq := alloc_new (wa) (.cells #[.string ⟨#[]⟩, .string ⟨#[]⟩, .string ⟨#[]⟩, .string ⟨#[]⟩, .string ⟨#[]⟩, .string ⟨#[]⟩, .string ⟨#[]⟩] 55)
        have hqV : V.heap.size ≤ (wa).heap.size := hH1.2.size
        refine hK.out _ _ ?_ (fun hH2 => ?_)
        · exact ⟨cell_later kq hH1.1, laterB hH1.2 kq⟩
        clear hK K
        generalize hqe : (wa).heap.size = q at *
        generalize hwe : (wa).alloc (.cells #[.string ⟨#[]⟩, .string ⟨#[]⟩, .string ⟨#[]⟩, .string ⟨#[]⟩, .string ⟨#[]⟩, .string ⟨#[]⟩, .string ⟨#[]⟩] 55) = wq at *
        (try simp only [Act.put, List.setIfInBounds_toArray, List.set_cons_zero, List.set_cons_succ])
        refine wpAnyH_ready (rs := [4]) (by kernel_rfl) (by simp) ?_
        refine AllReadyH.cons (o := { dst := some 18, op := Go.Op.call { callee := Go.Callee.value (Go.Operand.func 35), args := #[Go.Operand.tmp 17], argTypes := #[2] }, type := 9, pos := _, after := #[{ on := 3, ground := Go.Ground.data }, { on := 1, ground := Go.Ground.chain }], guard := none }) rfl (fun K hK => ?_) AllReadyH.nil
        go_simp
        refine (unhide c35 _ hH2.2).mono ?_
        rintro e wb ⟨rfl, kb⟩
        refine hK.out _ _ ?_ (fun hH3 => ?_)
        · exact ⟨cell_later kb hH2.1, laterB hH2.2 kb⟩
        clear hK K
        replace hq := blk_below hq kb
        (try simp only [Act.put, List.setIfInBounds_toArray, List.set_cons_zero, List.set_cons_succ])
        refine wpAnyH_take (i := 5) (oi := { dst := some 19, op := Go.Op.build 55 #[(0, Go.Operand.tmp 15), (1, Go.Operand.tmp 18), (2, Go.Operand.const (Go.Value.string { data := #[67] }))], type := 55, pos := _, after := #[{ on := 1, ground := Go.Ground.data }, { on := 4, ground := Go.Ground.data }], guard := none }) (v := ?_) rfl (by kernel_rfl) (by kernel_rfl) (by kernel_rfl) (fun _ _ _ h => h) (Or.inl ⟨by rfl, ?_⟩) hH3 ?_
        rotate_left
        · (intro w hSw; (try dsimp only at hSw); go_simp <;> with_reducible rfl)
        (try simp only [Act.put, List.setIfInBounds_toArray, List.set_cons_zero, List.set_cons_succ])
        refine wpAnyH_ready (rs := [7]) (by kernel_rfl) (by simp) ?_
        refine AllReadyH.cons (o := { dst := none, op := Go.Op.store 55 (Go.Operand.tmp 10) (Go.Operand.tmp 19), type := 0, pos := _, after := #[{ on := 6, ground := Go.Ground.data }, { on := 5, ground := Go.Ground.data }, { on := 4, ground := Go.Ground.chain }, { on := 0, ground := Go.Ground.phase }, { on := 1, ground := Go.Ground.phase }, { on := 2, ground := Go.Ground.phase }, { on := 3, ground := Go.Ground.phase }, { on := 4, ground := Go.Ground.phase }, { on := 5, ground := Go.Ground.phase }, { on := 6, ground := Go.Ground.phase }], guard := none }) rfl (fun K hK => ?_) AllReadyH.nil
        obtain ⟨m0, m1, m2, m3, m4, m5, m6⟩ := blk7 hq
        obtain ⟨p0, p1, p2, p3, p4, p5, p6⟩ := blk7f hq
        go_simp
        refine hK.out _ _ ?_ (fun hH9 => ?_)
        · exact ⟨(set7_cell (by omega)).trans hH3.1, set7_below hH3.2 hqV⟩
        clear hK K
        (try simp only [Act.put, List.setIfInBounds_toArray, List.set_cons_zero, List.set_cons_succ])
        refine wpAnyH_done (by kernel_rfl) ?_ _
        refine NoPanic.normal ?_
        go_wp2
        go_meet
        case rel =>
          exact ⟨q, rfl, hqV, hide (put7 hq), hide hH9.2⟩


    · go_simp
      have kq : Below V.drew.heap.size V.drew (V.alloc (.cells #[.string ⟨#[]⟩, .string ⟨#[]⟩, .string ⟨#[]⟩, .string ⟨#[]⟩, .string ⟨#[]⟩, .string ⟨#[]⟩, .string ⟨#[]⟩] 55)).drew := ((Below.refl V.drew.heap.size V.drew).alloc (Nat.le_refl _) (.cells #[.string ⟨#[]⟩, .string ⟨#[]⟩, .string ⟨#[]⟩, .string ⟨#[]⟩, .string ⟨#[]⟩, .string ⟨#[]⟩, .string ⟨#[]⟩] 55))
      have hq : (V.alloc (.cells #[.string ⟨#[]⟩, .string ⟨#[]⟩, .string ⟨#[]⟩, .string ⟨#[]⟩, .string ⟨#[]⟩, .string ⟨#[]⟩, .string ⟨#[]⟩] 55)).drew.heap[V.heap.size]? = some (.cells #[.string ⟨#[]⟩, .string ⟨#[]⟩, .string ⟨#[]⟩, .string ⟨#[]⟩, .string ⟨#[]⟩, .string ⟨#[]⟩, .string ⟨#[]⟩] 55 (0, 0)) := alloc_new V (.cells #[.string ⟨#[]⟩, .string ⟨#[]⟩, .string ⟨#[]⟩, .string ⟨#[]⟩, .string ⟨#[]⟩, .string ⟨#[]⟩, .string ⟨#[]⟩] 55)
      have hqV : V.heap.size ≤ V.heap.size := Nat.le_refl _
      refine hK.out _ _ ?_ (fun hH1 => ?_)
      · exact ⟨cell_later kq hH0.1, laterB hH0.2 kq⟩
      clear hK K kq
      generalize hwe : (V.alloc (.cells #[.string ⟨#[]⟩, .string ⟨#[]⟩, .string ⟨#[]⟩, .string ⟨#[]⟩, .string ⟨#[]⟩, .string ⟨#[]⟩, .string ⟨#[]⟩] 55)).drew = wq at *
      clear hwe
      (try simp only [Act.put, List.setIfInBounds_toArray, List.set_cons_zero, List.set_cons_succ])
      refine wpAnyH_ready (rs := [1]) (by kernel_rfl) (by simp) ?_
      refine AllReadyH.cons (o := { dst := some 15, op := Go.Op.call { callee := Go.Callee.value (Go.Operand.func 34), args := #[Go.Operand.tmp 14], argTypes := #[2] }, type := 9, pos := _, after := #[{ on := 0, ground := Go.Ground.data }], guard := none }) rfl (fun K hK => ?_) AllReadyH.nil
      go_simp
      refine (unhide c34 _).mono ?_
      rintro e wa ⟨rfl, ka⟩
      refine hK.out _ _ ?_ (fun hH2 => ?_)
      · exact ⟨cell_later ka hH1.1, laterB hH1.2 ka⟩
      clear hK K
      replace hq := blk_below hq ka
      (try simp only [Act.put, List.setIfInBounds_toArray, List.set_cons_zero, List.set_cons_succ])
      refine wpAnyH_ready (rs := [4]) (by kernel_rfl) (by simp) ?_
      refine AllReadyH.cons (o := { dst := some 18, op := Go.Op.call { callee := Go.Callee.value (Go.Operand.func 35), args := #[Go.Operand.tmp 17], argTypes := #[2] }, type := 9, pos := _, after := #[{ on := 3, ground := Go.Ground.data }, { on := 1, ground := Go.Ground.chain }], guard := none }) rfl (fun K hK => ?_) AllReadyH.nil
      go_simp
      refine (unhide c35 _ hH2.2).mono ?_
      rintro e wb ⟨rfl, kb⟩
      refine hK.out _ _ ?_ (fun hH3 => ?_)
      · exact ⟨cell_later kb hH2.1, laterB hH2.2 kb⟩
      clear hK K
      replace hq := blk_below hq kb
      (try simp only [Act.put, List.setIfInBounds_toArray, List.set_cons_zero, List.set_cons_succ])
      refine wpAnyH_take (i := 5) (oi := { dst := some 19, op := Go.Op.build 55 #[(0, Go.Operand.tmp 15), (1, Go.Operand.tmp 18), (2, Go.Operand.const (Go.Value.string { data := #[67] }))], type := 55, pos := _, after := #[{ on := 1, ground := Go.Ground.data }, { on := 4, ground := Go.Ground.data }], guard := none }) (v := ?_) rfl (by kernel_rfl) (by kernel_rfl) (by kernel_rfl) (fun _ _ _ h => h) (Or.inl ⟨by rfl, ?_⟩) hH3 ?_
      rotate_left
      · (intro w hSw; (try dsimp only at hSw); go_simp <;> with_reducible rfl)
      (try simp only [Act.put, List.setIfInBounds_toArray, List.set_cons_zero, List.set_cons_succ])
      refine wpAnyH_ready (rs := [7]) (by kernel_rfl) (by simp) ?_
      refine AllReadyH.cons (o := { dst := none, op := Go.Op.store 55 (Go.Operand.tmp 10) (Go.Operand.tmp 19), type := 0, pos := _, after := #[{ on := 6, ground := Go.Ground.data }, { on := 5, ground := Go.Ground.data }, { on := 4, ground := Go.Ground.chain }, { on := 0, ground := Go.Ground.phase }, { on := 1, ground := Go.Ground.phase }, { on := 2, ground := Go.Ground.phase }, { on := 3, ground := Go.Ground.phase }, { on := 4, ground := Go.Ground.phase }, { on := 5, ground := Go.Ground.phase }, { on := 6, ground := Go.Ground.phase }], guard := none }) rfl (fun K hK => ?_) AllReadyH.nil
      obtain ⟨m0, m1, m2, m3, m4, m5, m6⟩ := blk7 hq
      obtain ⟨p0, p1, p2, p3, p4, p5, p6⟩ := blk7f hq
      go_simp
      refine hK.out _ _ ?_ (fun hH9 => ?_)
      · exact ⟨(set7_cell (by omega)).trans hH3.1, set7_below hH3.2 hqV⟩
      clear hK K
      (try simp only [Act.put, List.setIfInBounds_toArray, List.set_cons_zero, List.set_cons_succ])
      refine wpAnyH_done (by kernel_rfl) ?_ _
      refine NoPanic.normal ?_
      go_wp2
      go_meet
      case rel =>
        exact ⟨V.heap.size, rfl, hqV, hide (put7 hq), hide hH9.2⟩

  case rest =>
    obtain ⟨q, rfl, hqV, hq, hb⟩ := hcut
    have C1 := blk_below C0 (unhide hb)
    have R1 := blk_below R0 (unhide hb)
    have G1 := blk_below G0 (unhide hb)
    clear z0 z1 z2 C0 R0 G0 c34 c35
    obtain ⟨z0, z1, z2⟩ := blk3 C1
    have hVc := (unhide hb).size
    go_wp2_with fail
    clear z0 z1 z2
    have ix0 : ∀ w, (Instr.index 73 (.agg #[.int .i64 x2, .int .i64 (x2 + x3), .int .i64 at0, .int .i64 (at0 + x3)]) (.int .i64 0)).run Tryd.prog w = .ok (.int .i64 x2) w := fun _ => by kernel_rfl
    have ix1 : ∀ w, (Instr.index 73 (.agg #[.int .i64 x2, .int .i64 (x2 + x3), .int .i64 at0, .int .i64 (at0 + x3)]) (.int .i64 1)).run Tryd.prog w = .ok (.int .i64 (x2 + x3)) w := fun _ => by kernel_rfl
    have ix2 : ∀ w, (Instr.index 73 (.agg #[.int .i64 x2, .int .i64 (x2 + x3), .int .i64 at0, .int .i64 (at0 + x3)]) (.int .i64 2)).run Tryd.prog w = .ok (.int .i64 at0) w := fun _ => by kernel_rfl
    have ix3 : ∀ w, (Instr.index 73 (.agg #[.int .i64 x2, .int .i64 (x2 + x3), .int .i64 at0, .int .i64 (at0 + x3)]) (.int .i64 3)).run Tryd.prog w = .ok (.int .i64 (at0 + x3)) w := fun _ => by kernel_rfl
    go_loopw [33] (fun t wr => ∃ k : Nat, k ≤ 4 ∧ t = .int .i64 k ∧ Hid (wr.heap[q]? = some (wdK s k)) ∧ Hid (Below V.heap.size V wr) ∧ Hid (∀ j, j < k → ¬ (s (3 + j)).toList = [])) (fun t _ => 4 - (intOf t).toNat)
    case atStart => exact ⟨0, by omega, rfl, hq, hb, hide (fun j h => by omega)⟩
    case round =>
      clear hq hb
      obtain ⟨k, hk4, rfl, hqk, hbk, hne⟩ := hrel
      have Rk := (unhide hbk).block Rb (Nat.lt_trans (by omega) hCV) |>.trans R00
      obtain rfl | rfl | rfl | rfl | rfl : k = 0 ∨ k = 1 ∨ k = 2 ∨ k = 3 ∨ k = 4 := by omega
      · have Gk := (unhide hbk).block Gb hGV |>.trans G00
        obtain ⟨r0, r1, r2⟩ := blk3 Rk
        replace hqk : Hid (wr.heap[q]? = some (.cells #[.string (s 0), .string (s 1), .string (s 2), .string ⟨#[]⟩, .string ⟨#[]⟩, .string ⟨#[]⟩, .string ⟨#[]⟩] 55 (0, 0))) := hqk
        rw [show ((0 : Nat) : Int) = 0 from rfl]
        go_wp2_with fail
        refine (unhide c3 _).mono ?_
        rintro e w1 ⟨rfl, hb1⟩
        have hq1 := blk_below (unhide hqk) hb1
        have G1 := blk_below Gk hb1
        have hB1 := hide ((unhide hbk).trans (hb1.mono (unhide hbk).size))
        clear r0 r1 r2 hb1 hqk Gk Rk
        obtain ⟨m0, m1, m2, m3, m4, m5, m6⟩ := blk7 hq1
        obtain ⟨p0, p1, p2, p3, p4, p5, p6⟩ := blk7f hq1
        obtain ⟨o0, o1, o2, o3, o4, o5, o6⟩ := blk7 G1
        obtain ⟨y0, y1, y2, y3, y4, y5, y6⟩ := blk7f G1
        go_wp2_with fail
        · have hE : (s 3).toList = [] := by simpa using ‹(s 3).toList.isEmpty = true›
          have hT9 := tOk_no1 (n := n) (d := d) (dr := dr) (a := at0) (x1 := x1) (x2 := x2) (x3 := x3) (toList_nil (unhide h3') hE)
          have P9 := put7 (v0 := .string (s 0)) (v1 := .string (s 1)) (v2 := .string (s 2)) (v3 := .string ⟨#[]⟩) (v4 := .string ⟨#[]⟩) (v5 := .string ⟨#[]⟩) (v6 := .string ⟨#[]⟩) G1
          have B9 := (unhide hbV').trans (set7_below' (v0 := .string (s 0)) (v1 := .string (s 1)) (v2 := .string (s 2)) (v3 := .string ⟨#[]⟩) (v4 := .string ⟨#[]⟩) (v5 := .string ⟨#[]⟩) (v6 := .string ⟨#[]⟩) (unhide hB1) hVw hGw)
          clear o0 o1 o2 o3 o4 o5 o6 y0 y1 y2 y3 y4 y5 y6 m0 m1 m2 m3 m4 m5 m6 p0 p1 p2 p3 p4 p5 p6
          generalize ((((((w1.setCell ⟨Gb, 0, none⟩ (.string (s 0))).setCell ⟨Gb, 1, none⟩ (.string (s 1))).setCell ⟨Gb, 2, none⟩ (.string (s 2))).setCell ⟨Gb, 3, none⟩ (.string ⟨#[]⟩)).setCell ⟨Gb, 4, none⟩ (.string ⟨#[]⟩)).setCell ⟨Gb, 5, none⟩ (.string ⟨#[]⟩)).setCell ⟨Gb, 6, none⟩ (.string ⟨#[]⟩) = W9 at *
          obtain ⟨o0, o1, o2, o3, o4, o5, o6⟩ := blk7 P9
          refine bodyPost_ret (v := .tuple #[.agg #[.string (s 0), .string (s 1), .string (s 2), .string ⟨#[]⟩, .string ⟨#[]⟩, .string ⟨#[]⟩, .string ⟨#[]⟩], .bool false]) (by simp [results, Tryd.results20, go_sem, o0, o1, o2, o3, o4, o5, o6]) rfl ?_
          rw [hT9]
          exact ⟨⟨_, rfl, fun h => Bool.noConfusion h, _, _, _, _, _, _, _, rfl⟩, by rw [hRb]; exact B9⟩
        · have hE : ¬ (s 3).toList = [] := by simpa using ‹(s 3).toList.isEmpty = false›
          go_roundw
          case rel => exact ⟨1, by omega, rfl, hide (put0 hq1), hide ((unhide hB1).setCell (p := ⟨q, 3, none⟩) hqV _), hide (ne_succ (unhide hne) hE)⟩
          case measure => simp [intOf]
      · have Gk := (unhide hbk).block Gb hGV |>.trans G00
        obtain ⟨r0, r1, r2⟩ := blk3 Rk
        replace hqk : Hid (wr.heap[q]? = some (.cells #[.string (s 0), .string (s 1), .string (s 2), .string (s 3), .string ⟨#[]⟩, .string ⟨#[]⟩, .string ⟨#[]⟩] 55 (0, 0))) := hqk
        rw [show ((1 : Nat) : Int) = 1 from rfl]
        go_wp2_with fail
        refine (unhide c4 _).mono ?_
        rintro e w1 ⟨rfl, hb1⟩
        have hq1 := blk_below (unhide hqk) hb1
        have G1 := blk_below Gk hb1
        have hB1 := hide ((unhide hbk).trans (hb1.mono (unhide hbk).size))
        clear r0 r1 r2 hb1 hqk Gk Rk
        obtain ⟨m0, m1, m2, m3, m4, m5, m6⟩ := blk7 hq1
        obtain ⟨p0, p1, p2, p3, p4, p5, p6⟩ := blk7f hq1
        obtain ⟨o0, o1, o2, o3, o4, o5, o6⟩ := blk7 G1
        obtain ⟨y0, y1, y2, y3, y4, y5, y6⟩ := blk7f G1
        go_wp2_with fail
        · have hE : (s 4).toList = [] := by simpa using ‹(s 4).toList.isEmpty = true›
          have hT9 := tOk_no2 (n := n) (d := d) (dr := dr) (a := at0) (x1 := x1) (x2 := x2) (x3 := x3) (toList_nil (unhide h4') hE)
          have P9 := put7 (v0 := .string (s 0)) (v1 := .string (s 1)) (v2 := .string (s 2)) (v3 := .string (s 3)) (v4 := .string ⟨#[]⟩) (v5 := .string ⟨#[]⟩) (v6 := .string ⟨#[]⟩) G1
          have B9 := (unhide hbV').trans (set7_below' (v0 := .string (s 0)) (v1 := .string (s 1)) (v2 := .string (s 2)) (v3 := .string (s 3)) (v4 := .string ⟨#[]⟩) (v5 := .string ⟨#[]⟩) (v6 := .string ⟨#[]⟩) (unhide hB1) hVw hGw)
          clear o0 o1 o2 o3 o4 o5 o6 y0 y1 y2 y3 y4 y5 y6 m0 m1 m2 m3 m4 m5 m6 p0 p1 p2 p3 p4 p5 p6
          generalize ((((((w1.setCell ⟨Gb, 0, none⟩ (.string (s 0))).setCell ⟨Gb, 1, none⟩ (.string (s 1))).setCell ⟨Gb, 2, none⟩ (.string (s 2))).setCell ⟨Gb, 3, none⟩ (.string (s 3))).setCell ⟨Gb, 4, none⟩ (.string ⟨#[]⟩)).setCell ⟨Gb, 5, none⟩ (.string ⟨#[]⟩)).setCell ⟨Gb, 6, none⟩ (.string ⟨#[]⟩) = W9 at *
          obtain ⟨o0, o1, o2, o3, o4, o5, o6⟩ := blk7 P9
          refine bodyPost_ret (v := .tuple #[.agg #[.string (s 0), .string (s 1), .string (s 2), .string (s 3), .string ⟨#[]⟩, .string ⟨#[]⟩, .string ⟨#[]⟩], .bool false]) (by simp [results, Tryd.results20, go_sem, o0, o1, o2, o3, o4, o5, o6]) rfl ?_
          rw [hT9]
          exact ⟨⟨_, rfl, fun h => Bool.noConfusion h, _, _, _, _, _, _, _, rfl⟩, by rw [hRb]; exact B9⟩
        · have hE : ¬ (s 4).toList = [] := by simpa using ‹(s 4).toList.isEmpty = false›
          go_roundw
          case rel => exact ⟨2, by omega, rfl, hide (put1 hq1), hide ((unhide hB1).setCell (p := ⟨q, 4, none⟩) hqV _), hide (ne_succ (unhide hne) hE)⟩
          case measure => simp [intOf]
      · have Gk := (unhide hbk).block Gb hGV |>.trans G00
        obtain ⟨r0, r1, r2⟩ := blk3 Rk
        replace hqk : Hid (wr.heap[q]? = some (.cells #[.string (s 0), .string (s 1), .string (s 2), .string (s 3), .string (s 4), .string ⟨#[]⟩, .string ⟨#[]⟩] 55 (0, 0))) := hqk
        rw [show ((2 : Nat) : Int) = 2 from rfl]
        go_wp2_with fail
        refine (unhide c5 _).mono ?_
        rintro e w1 ⟨rfl, hb1⟩
        have hq1 := blk_below (unhide hqk) hb1
        have G1 := blk_below Gk hb1
        have hB1 := hide ((unhide hbk).trans (hb1.mono (unhide hbk).size))
        clear r0 r1 r2 hb1 hqk Gk Rk
        obtain ⟨m0, m1, m2, m3, m4, m5, m6⟩ := blk7 hq1
        obtain ⟨p0, p1, p2, p3, p4, p5, p6⟩ := blk7f hq1
        obtain ⟨o0, o1, o2, o3, o4, o5, o6⟩ := blk7 G1
        obtain ⟨y0, y1, y2, y3, y4, y5, y6⟩ := blk7f G1
        go_wp2_with fail
        · have hE : (s 5).toList = [] := by simpa using ‹(s 5).toList.isEmpty = true›
          have hT9 := tOk_no3 (n := n) (d := d) (dr := dr) (a := at0) (x1 := x1) (x2 := x2) (x3 := x3) (toList_nil (unhide h5') hE)
          have P9 := put7 (v0 := .string (s 0)) (v1 := .string (s 1)) (v2 := .string (s 2)) (v3 := .string (s 3)) (v4 := .string (s 4)) (v5 := .string ⟨#[]⟩) (v6 := .string ⟨#[]⟩) G1
          have B9 := (unhide hbV').trans (set7_below' (v0 := .string (s 0)) (v1 := .string (s 1)) (v2 := .string (s 2)) (v3 := .string (s 3)) (v4 := .string (s 4)) (v5 := .string ⟨#[]⟩) (v6 := .string ⟨#[]⟩) (unhide hB1) hVw hGw)
          clear o0 o1 o2 o3 o4 o5 o6 y0 y1 y2 y3 y4 y5 y6 m0 m1 m2 m3 m4 m5 m6 p0 p1 p2 p3 p4 p5 p6
          generalize ((((((w1.setCell ⟨Gb, 0, none⟩ (.string (s 0))).setCell ⟨Gb, 1, none⟩ (.string (s 1))).setCell ⟨Gb, 2, none⟩ (.string (s 2))).setCell ⟨Gb, 3, none⟩ (.string (s 3))).setCell ⟨Gb, 4, none⟩ (.string (s 4))).setCell ⟨Gb, 5, none⟩ (.string ⟨#[]⟩)).setCell ⟨Gb, 6, none⟩ (.string ⟨#[]⟩) = W9 at *
          obtain ⟨o0, o1, o2, o3, o4, o5, o6⟩ := blk7 P9
          refine bodyPost_ret (v := .tuple #[.agg #[.string (s 0), .string (s 1), .string (s 2), .string (s 3), .string (s 4), .string ⟨#[]⟩, .string ⟨#[]⟩], .bool false]) (by simp [results, Tryd.results20, go_sem, o0, o1, o2, o3, o4, o5, o6]) rfl ?_
          rw [hT9]
          exact ⟨⟨_, rfl, fun h => Bool.noConfusion h, _, _, _, _, _, _, _, rfl⟩, by rw [hRb]; exact B9⟩
        · have hE : ¬ (s 5).toList = [] := by simpa using ‹(s 5).toList.isEmpty = false›
          go_roundw
          case rel => exact ⟨3, by omega, rfl, hide (put2 hq1), hide ((unhide hB1).setCell (p := ⟨q, 5, none⟩) hqV _), hide (ne_succ (unhide hne) hE)⟩
          case measure => simp [intOf]
      · have Gk := (unhide hbk).block Gb hGV |>.trans G00
        obtain ⟨r0, r1, r2⟩ := blk3 Rk
        replace hqk : Hid (wr.heap[q]? = some (.cells #[.string (s 0), .string (s 1), .string (s 2), .string (s 3), .string (s 4), .string (s 5), .string ⟨#[]⟩] 55 (0, 0))) := hqk
        rw [show ((3 : Nat) : Int) = 3 from rfl]
        go_wp2_with fail
        refine (unhide c6 _).mono ?_
        rintro e w1 ⟨rfl, hb1⟩
        have hq1 := blk_below (unhide hqk) hb1
        have G1 := blk_below Gk hb1
        have hB1 := hide ((unhide hbk).trans (hb1.mono (unhide hbk).size))
        clear r0 r1 r2 hb1 hqk Gk Rk
        obtain ⟨m0, m1, m2, m3, m4, m5, m6⟩ := blk7 hq1
        obtain ⟨p0, p1, p2, p3, p4, p5, p6⟩ := blk7f hq1
        obtain ⟨o0, o1, o2, o3, o4, o5, o6⟩ := blk7 G1
        obtain ⟨y0, y1, y2, y3, y4, y5, y6⟩ := blk7f G1
        go_wp2_with fail
        · have hE : (s 6).toList = [] := by simpa using ‹(s 6).toList.isEmpty = true›
          have hT9 := tOk_no4 (n := n) (d := d) (dr := dr) (a := at0) (x1 := x1) (x2 := x2) (x3 := x3) (toList_nil (unhide h6') hE)
          have P9 := put7 (v0 := .string (s 0)) (v1 := .string (s 1)) (v2 := .string (s 2)) (v3 := .string (s 3)) (v4 := .string (s 4)) (v5 := .string (s 5)) (v6 := .string ⟨#[]⟩) G1
          have B9 := (unhide hbV').trans (set7_below' (v0 := .string (s 0)) (v1 := .string (s 1)) (v2 := .string (s 2)) (v3 := .string (s 3)) (v4 := .string (s 4)) (v5 := .string (s 5)) (v6 := .string ⟨#[]⟩) (unhide hB1) hVw hGw)
          clear o0 o1 o2 o3 o4 o5 o6 y0 y1 y2 y3 y4 y5 y6 m0 m1 m2 m3 m4 m5 m6 p0 p1 p2 p3 p4 p5 p6
          generalize ((((((w1.setCell ⟨Gb, 0, none⟩ (.string (s 0))).setCell ⟨Gb, 1, none⟩ (.string (s 1))).setCell ⟨Gb, 2, none⟩ (.string (s 2))).setCell ⟨Gb, 3, none⟩ (.string (s 3))).setCell ⟨Gb, 4, none⟩ (.string (s 4))).setCell ⟨Gb, 5, none⟩ (.string (s 5))).setCell ⟨Gb, 6, none⟩ (.string ⟨#[]⟩) = W9 at *
          obtain ⟨o0, o1, o2, o3, o4, o5, o6⟩ := blk7 P9
          refine bodyPost_ret (v := .tuple #[.agg #[.string (s 0), .string (s 1), .string (s 2), .string (s 3), .string (s 4), .string (s 5), .string ⟨#[]⟩], .bool false]) (by simp [results, Tryd.results20, go_sem, o0, o1, o2, o3, o4, o5, o6]) rfl ?_
          rw [hT9]
          exact ⟨⟨_, rfl, fun h => Bool.noConfusion h, _, _, _, _, _, _, _, rfl⟩, by rw [hRb]; exact B9⟩
        · have hE : ¬ (s 6).toList = [] := by simpa using ‹(s 6).toList.isEmpty = false›
          go_roundw
          case rel => exact ⟨4, by omega, rfl, hide (put3 hq1), hide ((unhide hB1).setCell (p := ⟨q, 6, none⟩) hqV _), hide (ne_succ (unhide hne) hE)⟩
          case measure => simp [intOf]
      · have Gk := (unhide hbk).block Gb hGV |>.trans G00
        replace hqk : Hid (wr.heap[q]? = some (.cells #[.string (s 0), .string (s 1), .string (s 2), .string (s 3), .string (s 4), .string (s 5), .string (s 6)] 55 (0, 0))) := hqk
        obtain ⟨m0, m1, m2, m3, m4, m5, m6⟩ := blk7 (unhide hqk)
        obtain ⟨o0, o1, o2, o3, o4, o5, o6⟩ := blk7 Gk
        obtain ⟨y0, y1, y2, y3, y4, y5, y6⟩ := blk7f Gk
        have hT9 := tOk_yes (n := n) (d := d) (dr := dr) (a := at0) (x1 := x1) (x2 := x2) (x3 := x3) (toList_ne (unhide h3') (unhide hne 0 (by omega))) (toList_ne (unhide h4') (unhide hne 1 (by omega))) (toList_ne (unhide h5') (unhide hne 2 (by omega))) (toList_ne (unhide h6') (unhide hne 3 (by omega)))
        clear hqk Rk hne
        rw [show ((4 : Nat) : Int) = 4 from rfl]
        have P9 := put7 (v0 := .string (s 0)) (v1 := .string (s 1)) (v2 := .string (s 2)) (v3 := .string (s 3)) (v4 := .string (s 4)) (v5 := .string (s 5)) (v6 := .string (s 6)) Gk
        have B9 := (unhide hbV').trans (set7_below' (v0 := .string (s 0)) (v1 := .string (s 1)) (v2 := .string (s 2)) (v3 := .string (s 3)) (v4 := .string (s 4)) (v5 := .string (s 5)) (v6 := .string (s 6)) (unhide hbk) hVw hGw)
        clear Gk
        go_wp2
        clear o0 o1 o2 o3 o4 o5 o6 y0 y1 y2 y3 y4 y5 y6 m0 m1 m2 m3 m4 m5 m6
        generalize ((((((wr.setCell ⟨Gb, 0, none⟩ (.string (s 0))).setCell ⟨Gb, 1, none⟩ (.string (s 1))).setCell ⟨Gb, 2, none⟩ (.string (s 2))).setCell ⟨Gb, 3, none⟩ (.string (s 3))).setCell ⟨Gb, 4, none⟩ (.string (s 4))).setCell ⟨Gb, 5, none⟩ (.string (s 5))).setCell ⟨Gb, 6, none⟩ (.string (s 6)) = W9 at *
        obtain ⟨o0, o1, o2, o3, o4, o5, o6⟩ := blk7 P9
        refine bodyPost_ret (v := .tuple #[.agg #[.string (s 0), .string (s 1), .string (s 2), .string (s 3), .string (s 4), .string (s 5), .string (s 6)], .bool true]) (by simp [results, Tryd.results20, go_sem, o0, o1, o2, o3, o4, o5, o6]) rfl ?_
        rw [hT9]
        exact ⟨⟨_, rfl, fun _ => rfl, _, _, _, _, _, _, _, rfl⟩, by rw [hRb]; exact B9⟩

end Go.Proofs.YthjggjnkhhoigaaDoor
