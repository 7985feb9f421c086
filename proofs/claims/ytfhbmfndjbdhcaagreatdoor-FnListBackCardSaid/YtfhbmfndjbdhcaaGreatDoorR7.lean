/-
  The region in which the program lays the reader of a list; no conditions.
-/
import Derived.Test.YtfhbmfndjbdhcaaGreatDoorItB
import Derived.Test.YtfhbmfndjbdhcaaGreatDoorIRe
namespace Go.Proofs.YtfhbmfndjbdhcaaGreatDoor
open Go.RowKit
set_option linter.unusedVariables false
set_option linter.unusedSimpArgs false

theorem fin7 {X v : World} {E M g B K : Nat} {n d : Int} {dr : Bool} {z0 z1 z2 z3 z4 z5 : Value} (hA : X.heap[E]? = some (.cells #[z0, z1, z2, z3, z4, z5] 98 (0, 0))) (hN : NumM X M K) (hO : Own X B g 0 0 []) (hb : Below v.heap.size v X) (hE : v.heap.size ≤ E) (h1 : M ≠ E) (h2 : E ≠ g) :
    RdBx ((((((X.setCell ⟨E, 0, none⟩ (.int .i64 n)).setCell ⟨E, 1, none⟩ (.int .i64 d)).setCell ⟨E, 2, none⟩ (.bool dr)).setCell ⟨E, 3, none⟩ (.map (some M))).setCell ⟨E, 4, none⟩ (.slice (some ⟨g, 0, none⟩) 0 0)).setCell ⟨E, 5, none⟩ (.int .i64 0)) E n d dr (.map (some M)) (.slice (some ⟨g, 0, none⟩) 0 0) 0 ∧ NumM ((((((X.setCell ⟨E, 0, none⟩ (.int .i64 n)).setCell ⟨E, 1, none⟩ (.int .i64 d)).setCell ⟨E, 2, none⟩ (.bool dr)).setCell ⟨E, 3, none⟩ (.map (some M))).setCell ⟨E, 4, none⟩ (.slice (some ⟨g, 0, none⟩) 0 0)).setCell ⟨E, 5, none⟩ (.int .i64 0)) M K ∧ Own ((((((X.setCell ⟨E, 0, none⟩ (.int .i64 n)).setCell ⟨E, 1, none⟩ (.int .i64 d)).setCell ⟨E, 2, none⟩ (.bool dr)).setCell ⟨E, 3, none⟩ (.map (some M))).setCell ⟨E, 4, none⟩ (.slice (some ⟨g, 0, none⟩) 0 0)).setCell ⟨E, 5, none⟩ (.int .i64 0)) B g 0 0 [] ∧ Below v.heap.size v ((((((X.setCell ⟨E, 0, none⟩ (.int .i64 n)).setCell ⟨E, 1, none⟩ (.int .i64 d)).setCell ⟨E, 2, none⟩ (.bool dr)).setCell ⟨E, 3, none⟩ (.map (some M))).setCell ⟨E, 4, none⟩ (.slice (some ⟨g, 0, none⟩) 0 0)).setCell ⟨E, 5, none⟩ (.int .i64 0)) := by
  refine ⟨?_, hN.kept ?_, own_set (own_set (own_set (own_set (own_set (own_set hO h2) h2) h2) h2) h2) h2, ?_⟩
  · simp [RdBx, World.setCell, hA, Array.getElem?_modify]
  · rw [Below.heap_setCell _ ⟨E, 5, none⟩ _ _ h1, Below.heap_setCell _ ⟨E, 4, none⟩ _ _ h1, Below.heap_setCell _ ⟨E, 3, none⟩ _ _ h1, Below.heap_setCell _ ⟨E, 2, none⟩ _ _ h1, Below.heap_setCell _ ⟨E, 1, none⟩ _ _ h1, Below.heap_setCell _ ⟨E, 0, none⟩ _ _ h1]
  · exact (((((hb.setCell (p := ⟨E, 0, none⟩) hE _).setCell (p := ⟨E, 1, none⟩) hE _).setCell (p := ⟨E, 2, none⟩) hE _).setCell (p := ⟨E, 3, none⟩) hE _).setCell (p := ⟨E, 4, none⟩) hE _).setCell (p := ⟨E, 5, none⟩) hE _
theorem keep6s {X : World} {E gr : Nat} {n d : Int} {dr : Bool} {w0 w1 w2 w3 w4 w5 : Value} (h : X.cell? ⟨gr, 0, none⟩ = some (.int .i64 n) ∧ X.cell? ⟨gr, 1, none⟩ = some (.int .i64 d) ∧ X.cell? ⟨gr, 2, none⟩ = some (.bool dr)) (hne : gr ≠ E) :
    ((((((X.setCell ⟨E, 0, none⟩ w0).setCell ⟨E, 1, none⟩ w1).setCell ⟨E, 2, none⟩ w2).setCell ⟨E, 3, none⟩ w3).setCell ⟨E, 4, none⟩ w4).setCell ⟨E, 5, none⟩ w5).cell? ⟨gr, 0, none⟩ = some (.int .i64 n) ∧ ((((((X.setCell ⟨E, 0, none⟩ w0).setCell ⟨E, 1, none⟩ w1).setCell ⟨E, 2, none⟩ w2).setCell ⟨E, 3, none⟩ w3).setCell ⟨E, 4, none⟩ w4).setCell ⟨E, 5, none⟩ w5).cell? ⟨gr, 1, none⟩ = some (.int .i64 d) ∧ ((((((X.setCell ⟨E, 0, none⟩ w0).setCell ⟨E, 1, none⟩ w1).setCell ⟨E, 2, none⟩ w2).setCell ⟨E, 3, none⟩ w3).setCell ⟨E, 4, none⟩ w4).setCell ⟨E, 5, none⟩ w5).cell? ⟨gr, 2, none⟩ = some (.bool dr) := by
  have hn : ∀ i j : Nat, (⟨E, i, none⟩ : Addr) ≠ ⟨gr, j, none⟩ := fun i j e => by injection e with e1 _ _; exact hne e1.symm
  have H : ∀ j, ((((((X.setCell ⟨E, 0, none⟩ w0).setCell ⟨E, 1, none⟩ w1).setCell ⟨E, 2, none⟩ w2).setCell ⟨E, 3, none⟩ w3).setCell ⟨E, 4, none⟩ w4).setCell ⟨E, 5, none⟩ w5).cell? ⟨gr, j, none⟩ = X.cell? ⟨gr, j, none⟩ := fun j => by
    rw [World.cell?_setCell_other _ _ _ _ (hn _ _), World.cell?_setCell_other _ _ _ _ (hn _ _), World.cell?_setCell_other _ _ _ _ (hn _ _), World.cell?_setCell_other _ _ _ _ (hn _ _), World.cell?_setCell_other _ _ _ _ (hn _ _), World.cell?_setCell_other _ _ _ _ (hn _ _)]
  exact ⟨(H _).trans h.1, (H _).trans h.2.1, (H _).trans h.2.2⟩
theorem blk6r {X : World} {b : Nat} {t : TypeId} {v0 v1 v2 v3 v4 v5 : Value} (h : X.heap[b]? = some (.cells #[v0, v1, v2, v3, v4, v5] t (0, 0))) :
    X.cell? ⟨b, 0, none⟩ = some v0 ∧ X.cell? ⟨b, 1, none⟩ = some v1 ∧ X.cell? ⟨b, 2, none⟩ = some v2 ∧ X.cell? ⟨b, 3, none⟩ = some v3 ∧ X.cell? ⟨b, 4, none⟩ = some v4 ∧ X.cell? ⟨b, 5, none⟩ = some v5 ∧ (∀ o, X.frozen? ⟨b, o, none⟩ = false) := by
  refine ⟨?_, ?_, ?_, ?_, ?_, ?_, fun o => ?_⟩ <;> simp [World.cell?, World.frozen?, h]

set_option maxRecDepth 100000 in
set_option maxHeartbeats 4000000 in
theorem reg7 {Q : Exit → Act → World → Prop} {u0 u3 u4 u5 u6 u7 u8 u9 u10 u11 u12 u13 u14 u15 u16 u17 u18 u19 u20 u21 u22 u23 u24 u25 u26 u27 u28 u29 u30 u31 u32 u33 u34 u35 u36 u37 u38 u39 u40 u41 u42 u43 u44 u45 u46 u47 u48 u49 : Value} (v : World) (n d : Int) (dr : Bool) (s : ByteArray) (gr K : Nat) (hs : s.size ≤ 20000) (hK : K = min (Lib.countByte s.data.toList 10) 301)
    (hR : v.cell? ⟨gr, 0, none⟩ = some (.int .i64 n) ∧ v.cell? ⟨gr, 1, none⟩ = some (.int .i64 d) ∧ v.cell? ⟨gr, 2, none⟩ = some (.bool dr))
    (hQ : ∀ (y28 y29 y30 y31 y32 y33 : Value) (E M g : Nat) (w' : World), RdBx w' E n d dr (.map (some M)) (.slice (some ⟨g, 0, none⟩) 0 0) 0 → NumM w' M K → Own w' v.heap.size g 0 0 [] → Below v.heap.size v w' → v.heap.size ≤ E → v.heap.size ≤ M → Q .normal { tmps := #[u0, .string s, .pointer (some ⟨gr, 0, none⟩), u3, u4, u5, .pointer (some ⟨E, 0, none⟩), u7, u8, u9, u10, u11, u12, u13, u14, u15, u16, u17, u18, u19, u20, u21, u22, u23, u24, u25, u26, u27, y28, y29, y30, y31, y32, y33, u34, u35, u36, u37, u38, u39, u40, u41, u42, u43, u44, u45, u46, u47, u48, u49], defers := [] } w') :
    (Code.region 7 #[{ dst := some 28, op := Go.Op.load 25 (Go.Operand.tmp 2), type := 25, pos := "l06_list.go:163", after := #[], guard := none }, { dst := some 29, op := Go.Op.move (Go.Operand.tmp 1), type := 9, pos := "l06_list.go:163", after := #[], guard := none }, { dst := some 30, op := Go.Op.call { callee := Go.Callee.value (Go.Operand.func 53), args := #[Go.Operand.tmp 29, Go.Operand.const (Go.Value.string { data := #[10] })], argTypes := #[9, 9] }, type := 3, pos := "l06_list.go:163", after := #[{ on := 1, ground := Go.Ground.data }], guard := none }, { dst := some 31, op := Go.Op.call { callee := Go.Callee.value (Go.Operand.func 52), args := #[Go.Operand.tmp 30], argTypes := #[3] }, type := 94, pos := "l06_list.go:163", after := #[{ on := 2, ground := Go.Ground.data }, { on := 2, ground := Go.Ground.chain }], guard := none }, { dst := some 32, op := Go.Op.buildSlice 45 0 #[], type := 45, pos := "l06_list.go:163", after := #[], guard := none }, { dst := some 33, op := Go.Op.build 98 #[(0, Go.Operand.tmp 28), (1, Go.Operand.tmp 31), (2, Go.Operand.tmp 32)], type := 98, pos := "l06_list.go:163", after := #[{ on := 0, ground := Go.Ground.data }, { on := 3, ground := Go.Ground.data }, { on := 4, ground := Go.Ground.data }], guard := none }, { dst := some 6, op := Go.Op.alloc 98, type := 0, pos := "l06_list.go:163", after := #[], guard := none }, { dst := none, op := Go.Op.store 98 (Go.Operand.tmp 6) (Go.Operand.tmp 33), type := 0, pos := "l06_list.go:163", after := #[{ on := 6, ground := Go.Ground.data }, { on := 5, ground := Go.Ground.data }, { on := 3, ground := Go.Ground.chain }, { on := 0, ground := Go.Ground.phase }, { on := 1, ground := Go.Ground.phase }, { on := 2, ground := Go.Ground.phase }, { on := 3, ground := Go.Ground.phase }, { on := 4, ground := Go.Ground.phase }, { on := 5, ground := Go.Ground.phase }, { on := 6, ground := Go.Ground.phase }], guard := none }] true).wp Tryz.prog Q { tmps := #[u0, .string s, .pointer (some ⟨gr, 0, none⟩), u3, u4, u5, u6, u7, u8, u9, u10, u11, u12, u13, u14, u15, u16, u17, u18, u19, u20, u21, u22, u23, u24, u25, u26, u27, u28, u29, u30, u31, u32, u33, u34, u35, u36, u37, u38, u39, u40, u41, u42, u43, u44, u45, u46, u47, u48, u49], defers := [] } v := by
  have hc : Lib.countByte s.data.toList 10 ≤ 1000000 := by unfold Lib.countByte; have := List.count_le_length (a := (10 : UInt8)) (l := s.data.toList); rw [← Lib.size_eq] at this; omega
  have hgr := World.block_lt_of_cell? _ _ hR.1
  simp only at hgr
  refine wp_region_noPanic ?_
  refine wp_region_held_drew (S := fun w' => w'.cell? ⟨gr, 0, none⟩ = some (.int .i64 n) ∧ w'.cell? ⟨gr, 1, none⟩ = some (.int .i64 d) ∧ w'.cell? ⟨gr, 2, none⟩ = some (.bool dr)) (by kernel_rfl) ?_ (fun hH => ?_)
  · exact hR
  have hb : Below v.heap.size v v.drew := (Below.refl _ _).drew
  generalize v.drew = x0 at *
  have hz0 := hb.size
  refine wpAnyH_take (i := 0) (oi := { dst := some 28, op := Go.Op.load 25 (Go.Operand.tmp 2), type := 25, pos := _, after := #[], guard := none }) (v := ?_) rfl (by kernel_rfl) (by kernel_rfl) (by kernel_rfl) (fun _ _ _ h => h) (Or.inl ⟨by rfl, ?_⟩) hH ?_
  rotate_left
  · (intro w hSw; (try dsimp only at hSw); go_simp <;> with_reducible rfl)
  (try simp only [Act.put, List.setIfInBounds_toArray, List.set_cons_zero, List.set_cons_succ])
  refine wpAnyH_take (i := 1) (oi := { dst := some 29, op := Go.Op.move (Go.Operand.tmp 1), type := 9, pos := _, after := #[], guard := none }) (v := ?_) rfl (by kernel_rfl) (by kernel_rfl) (by kernel_rfl) (fun _ _ _ h => h) (Or.inl ⟨by rfl, ?_⟩) hH ?_
  rotate_left
  · (intro w hSw; (try dsimp only at hSw); go_simp <;> with_reducible rfl)
  (try simp only [Act.put, List.setIfInBounds_toArray, List.set_cons_zero, List.set_cons_succ])
  refine wpAnyH_ready (rs := [2, 4, 6]) (by kernel_rfl) (by simp) ?_
  refine AllReadyH.cons (o := { dst := some 30, op := Go.Op.call { callee := Go.Callee.value (Go.Operand.func 53), args := #[Go.Operand.tmp 29, Go.Operand.const (Go.Value.string { data := #[10] })], argTypes := #[9, 9] }, type := 3, pos := _, after := #[{ on := 1, ground := Go.Ground.data }], guard := none }) rfl (fun K9 hK9 => ?_) ?_
  · go_simp
    go_at_call 53
    refine (Tryz.strings_Count_one s 10 _).mono ?_
    rintro e wc ⟨rfl, hwc⟩
    replace hwc := hwc.symm
    subst hwc
    (try simp only [])
    refine hK9.out _ _ ?_ (fun hH => ?_)
    · exact hH
    clear hK9 K9
    (try simp only [Act.put, List.setIfInBounds_toArray, List.set_cons_zero, List.set_cons_succ])
    refine wpAnyH_ready (rs := [3, 4, 6]) (by kernel_rfl) (by simp) ?_
    refine AllReadyH.cons (o := { dst := some 31, op := Go.Op.call { callee := Go.Callee.value (Go.Operand.func 52), args := #[Go.Operand.tmp 30], argTypes := #[3] }, type := 94, pos := _, after := #[{ on := 2, ground := Go.Ground.data }, { on := 2, ground := Go.Ground.chain }], guard := none }) rfl (fun K9 hK9 => ?_) ?_
    · go_simp
      go_at_call 52
      refine (inumw_any (Lib.countByte s.data.toList 10) K _ hc hK).mono ?_
      rintro e x1 ⟨rfl, hn, hb1⟩
      (try simp only [])
      refine hK9.out _ _ ?_ (fun hH => ?_)
      · exact ⟨cell_later hb1 hH.1, cell_later hb1 hH.2.1, cell_later hb1 hH.2.2⟩
      clear hK9 K9
      (try simp only [Act.put, List.setIfInBounds_toArray, List.set_cons_zero, List.set_cons_succ])
      have hl1 := hn.lt
      replace hb := hb.trans (hb1.mono hb.size)
      have hN := hn
      clear hn hb1
      refine wpAnyH_ready (rs := [4, 6]) (by kernel_rfl) (by simp) ?_
      refine AllReadyH.cons (o := { dst := some 32, op := Go.Op.buildSlice 45 0 #[], type := 45, pos := _, after := #[], guard := none }) rfl (fun K9 hK9 => ?_) ?_
      · go_simp
        have ha : (x1.alloc (.cells #[] 44)).heap[x1.heap.size]? = some (.cells #[] 44) := alloc_new _ _
        have hb1 : Below x1.heap.size x1 (x1.alloc (.cells #[] 44)) := (Below.refl _ _).alloc (Nat.le_refl _) _
        have ho : Own (x1.alloc (.cells #[] 44)) v.heap.size x1.heap.size 0 0 [] := own_lit0 x1 hb.size
        refine hK9.out _ _ ?_ (fun hH => ?_)
        · exact ⟨cell_later hb1 hH.1, cell_later hb1 hH.2.1, cell_later hb1 hH.2.2⟩
        clear hK9 K9
        (try simp only [Act.put, List.setIfInBounds_toArray, List.set_cons_zero, List.set_cons_succ])
        generalize x1.alloc (.cells #[] 44) = x2 at *
        have hl2 : x1.heap.size < x2.heap.size := (Array.getElem?_eq_some_iff.1 ha).1
        replace hb := hb.trans (hb1.mono hb.size)
        replace hN := hN.kept (hb1.block _ hN.lt)
        have hO := ho
        clear ho ha hb1
        refine wpAnyH_take (i := 5) (oi := { dst := some 33, op := Go.Op.build 98 #[(0, Go.Operand.tmp 28), (1, Go.Operand.tmp 31), (2, Go.Operand.tmp 32)], type := 98, pos := _, after := #[{ on := 0, ground := Go.Ground.data }, { on := 3, ground := Go.Ground.data }, { on := 4, ground := Go.Ground.data }], guard := none }) (v := ?_) rfl (by kernel_rfl) (by kernel_rfl) (by kernel_rfl) (fun _ _ _ h => h) (Or.inl ⟨by rfl, ?_⟩) hH ?_
        rotate_left
        · (intro w hSw; (try dsimp only at hSw); go_simp <;> with_reducible rfl)
        (try simp only [Act.put, List.setIfInBounds_toArray, List.set_cons_zero, List.set_cons_succ])
        refine wpAnyH_ready (rs := [6]) (by kernel_rfl) (by simp) ?_
        refine AllReadyH.cons (o := { dst := some 6, op := Go.Op.alloc 98, type := 0, pos := _, after := #[], guard := none }) rfl (fun K9 hK9 => ?_) AllReadyH.nil
        go_simp
        have ha : (x2.alloc (.cells #[.int .i64 0, .int .i64 0, .bool false, .map none, .slice none 0 0, .int .i64 0] 98)).heap[x2.heap.size]? = some (.cells #[.int .i64 0, .int .i64 0, .bool false, .map none, .slice none 0 0, .int .i64 0] 98) := alloc_new _ _
        have hb1 : Below x2.heap.size x2 (x2.alloc (.cells #[.int .i64 0, .int .i64 0, .bool false, .map none, .slice none 0 0, .int .i64 0] 98)) := (Below.refl _ _).alloc (Nat.le_refl _) _
        refine hK9.out _ _ ?_ (fun hH => ?_)
        · exact ⟨cell_later hb1 hH.1, cell_later hb1 hH.2.1, cell_later hb1 hH.2.2⟩
        clear hK9 K9
        (try simp only [Act.put, List.setIfInBounds_toArray, List.set_cons_zero, List.set_cons_succ])
        generalize x2.alloc (.cells #[.int .i64 0, .int .i64 0, .bool false, .map none, .slice none 0 0, .int .i64 0] 98) = x3 at *
        have hl3 : x2.heap.size < x3.heap.size := (Array.getElem?_eq_some_iff.1 ha).1
        replace hb := hb.trans (hb1.mono hb.size)
        replace hN := hN.kept (hb1.block _ hN.lt)
        replace hO := ownsRow_below hO hb1
        have hA := ha
        clear ha hb1
        refine wpAnyH_ready (rs := [7]) (by kernel_rfl) (by simp) ?_
        refine AllReadyH.cons (o := { dst := none, op := Go.Op.store 98 (Go.Operand.tmp 6) (Go.Operand.tmp 33), type := 0, pos := _, after := #[{ on := 6, ground := Go.Ground.data }, { on := 5, ground := Go.Ground.data }, { on := 3, ground := Go.Ground.chain }, { on := 0, ground := Go.Ground.phase }, { on := 1, ground := Go.Ground.phase }, { on := 2, ground := Go.Ground.phase }, { on := 3, ground := Go.Ground.phase }, { on := 4, ground := Go.Ground.phase }, { on := 5, ground := Go.Ground.phase }, { on := 6, ground := Go.Ground.phase }], guard := none }) rfl (fun K9 hK9 => ?_) AllReadyH.nil
        obtain ⟨a0, a1, a2, a3, a4, a5, af⟩ := blk6r hA
        have f0 := af 0
        have f1 := af 1
        have f2 := af 2
        have f3 := af 3
        have f4 := af 4
        have f5 := af 5
        clear af
        go_simp
        refine hK9.out _ _ ?_ (fun hH2 => ?_)
        · exact keep6s hH (by omega)
        clear hK9 K9
        (try simp only [Act.put, List.setIfInBounds_toArray, List.set_cons_zero, List.set_cons_succ])
        refine wpAnyH_done (by kernel_rfl) ?_ _
        refine NoPanic.normal ?_
        obtain ⟨r1, r2, r3, r4⟩ := fin7 (n := n) (d := d) (dr := dr) hA hN hO hb (by omega) (by omega) (by omega)
        exact hQ _ _ _ _ _ _ _ _ _ _ r1 r2 r3 r4 (by omega) (by omega)
      refine AllReadyH.cons (o := { dst := some 6, op := Go.Op.alloc 98, type := 0, pos := _, after := #[], guard := none }) rfl (fun K9 hK9 => ?_) AllReadyH.nil
      go_simp
      have ha : (x1.alloc (.cells #[.int .i64 0, .int .i64 0, .bool false, .map none, .slice none 0 0, .int .i64 0] 98)).heap[x1.heap.size]? = some (.cells #[.int .i64 0, .int .i64 0, .bool false, .map none, .slice none 0 0, .int .i64 0] 98) := alloc_new _ _
      have hb1 : Below x1.heap.size x1 (x1.alloc (.cells #[.int .i64 0, .int .i64 0, .bool false, .map none, .slice none 0 0, .int .i64 0] 98)) := (Below.refl _ _).alloc (Nat.le_refl _) _
      refine hK9.out _ _ ?_ (fun hH => ?_)
      · exact ⟨cell_later hb1 hH.1, cell_later hb1 hH.2.1, cell_later hb1 hH.2.2⟩
      clear hK9 K9
      (try simp only [Act.put, List.setIfInBounds_toArray, List.set_cons_zero, List.set_cons_succ])
      generalize x1.alloc (.cells #[.int .i64 0, .int .i64 0, .bool false, .map none, .slice none 0 0, .int .i64 0] 98) = x2 at *
      have hl2 : x1.heap.size < x2.heap.size := (Array.getElem?_eq_some_iff.1 ha).1
      replace hb := hb.trans (hb1.mono hb.size)
      replace hN := hN.kept (hb1.block _ hN.lt)
      have hA := ha
      clear ha hb1
      refine wpAnyH_ready (rs := [4]) (by kernel_rfl) (by simp) ?_
      refine AllReadyH.cons (o := { dst := some 32, op := Go.Op.buildSlice 45 0 #[], type := 45, pos := _, after := #[], guard := none }) rfl (fun K9 hK9 => ?_) AllReadyH.nil
      go_simp
      have ha : (x2.alloc (.cells #[] 44)).heap[x2.heap.size]? = some (.cells #[] 44) := alloc_new _ _
      have hb1 : Below x2.heap.size x2 (x2.alloc (.cells #[] 44)) := (Below.refl _ _).alloc (Nat.le_refl _) _
      have ho : Own (x2.alloc (.cells #[] 44)) v.heap.size x2.heap.size 0 0 [] := own_lit0 x2 hb.size
      refine hK9.out _ _ ?_ (fun hH => ?_)
      · exact ⟨cell_later hb1 hH.1, cell_later hb1 hH.2.1, cell_later hb1 hH.2.2⟩
      clear hK9 K9
      (try simp only [Act.put, List.setIfInBounds_toArray, List.set_cons_zero, List.set_cons_succ])
      generalize x2.alloc (.cells #[] 44) = x3 at *
      have hl3 : x2.heap.size < x3.heap.size := (Array.getElem?_eq_some_iff.1 ha).1
      replace hb := hb.trans (hb1.mono hb.size)
      replace hN := hN.kept (hb1.block _ hN.lt)
      replace hA := (hb1.block _ (Array.getElem?_eq_some_iff.1 hA).1).trans hA
      have hO := ho
      clear ho ha hb1
      refine wpAnyH_take (i := 5) (oi := { dst := some 33, op := Go.Op.build 98 #[(0, Go.Operand.tmp 28), (1, Go.Operand.tmp 31), (2, Go.Operand.tmp 32)], type := 98, pos := _, after := #[{ on := 0, ground := Go.Ground.data }, { on := 3, ground := Go.Ground.data }, { on := 4, ground := Go.Ground.data }], guard := none }) (v := ?_) rfl (by kernel_rfl) (by kernel_rfl) (by kernel_rfl) (fun _ _ _ h => h) (Or.inl ⟨by rfl, ?_⟩) hH ?_
      rotate_left
      · (intro w hSw; (try dsimp only at hSw); go_simp <;> with_reducible rfl)
      (try simp only [Act.put, List.setIfInBounds_toArray, List.set_cons_zero, List.set_cons_succ])
      refine wpAnyH_ready (rs := [7]) (by kernel_rfl) (by simp) ?_
      refine AllReadyH.cons (o := { dst := none, op := Go.Op.store 98 (Go.Operand.tmp 6) (Go.Operand.tmp 33), type := 0, pos := _, after := #[{ on := 6, ground := Go.Ground.data }, { on := 5, ground := Go.Ground.data }, { on := 3, ground := Go.Ground.chain }, { on := 0, ground := Go.Ground.phase }, { on := 1, ground := Go.Ground.phase }, { on := 2, ground := Go.Ground.phase }, { on := 3, ground := Go.Ground.phase }, { on := 4, ground := Go.Ground.phase }, { on := 5, ground := Go.Ground.phase }, { on := 6, ground := Go.Ground.phase }], guard := none }) rfl (fun K9 hK9 => ?_) AllReadyH.nil
      obtain ⟨a0, a1, a2, a3, a4, a5, af⟩ := blk6r hA
      have f0 := af 0
      have f1 := af 1
      have f2 := af 2
      have f3 := af 3
      have f4 := af 4
      have f5 := af 5
      clear af
      go_simp
      refine hK9.out _ _ ?_ (fun hH2 => ?_)
      · exact keep6s hH (by omega)
      clear hK9 K9
      (try simp only [Act.put, List.setIfInBounds_toArray, List.set_cons_zero, List.set_cons_succ])
      refine wpAnyH_done (by kernel_rfl) ?_ _
      refine NoPanic.normal ?_
      obtain ⟨r1, r2, r3, r4⟩ := fin7 (n := n) (d := d) (dr := dr) hA hN hO hb (by omega) (by omega) (by omega)
      exact hQ _ _ _ _ _ _ _ _ _ _ r1 r2 r3 r4 (by omega) (by omega)
    refine AllReadyH.cons (o := { dst := some 32, op := Go.Op.buildSlice 45 0 #[], type := 45, pos := _, after := #[], guard := none }) rfl (fun K9 hK9 => ?_) ?_
    · go_simp
      have ha : (x0.alloc (.cells #[] 44)).heap[x0.heap.size]? = some (.cells #[] 44) := alloc_new _ _
      have hb1 : Below x0.heap.size x0 (x0.alloc (.cells #[] 44)) := (Below.refl _ _).alloc (Nat.le_refl _) _
      have ho : Own (x0.alloc (.cells #[] 44)) v.heap.size x0.heap.size 0 0 [] := own_lit0 x0 hb.size
      refine hK9.out _ _ ?_ (fun hH => ?_)
      · exact ⟨cell_later hb1 hH.1, cell_later hb1 hH.2.1, cell_later hb1 hH.2.2⟩
      clear hK9 K9
      (try simp only [Act.put, List.setIfInBounds_toArray, List.set_cons_zero, List.set_cons_succ])
      generalize x0.alloc (.cells #[] 44) = x1 at *
      have hl1 : x0.heap.size < x1.heap.size := (Array.getElem?_eq_some_iff.1 ha).1
      replace hb := hb.trans (hb1.mono hb.size)
      have hO := ho
      clear ho ha hb1
      refine wpAnyH_ready (rs := [3, 6]) (by kernel_rfl) (by simp) ?_
      refine AllReadyH.cons (o := { dst := some 31, op := Go.Op.call { callee := Go.Callee.value (Go.Operand.func 52), args := #[Go.Operand.tmp 30], argTypes := #[3] }, type := 94, pos := _, after := #[{ on := 2, ground := Go.Ground.data }, { on := 2, ground := Go.Ground.chain }], guard := none }) rfl (fun K9 hK9 => ?_) ?_
      · go_simp
        go_at_call 52
        refine (inumw_any (Lib.countByte s.data.toList 10) K _ hc hK).mono ?_
        rintro e x2 ⟨rfl, hn, hb1⟩
        (try simp only [])
        refine hK9.out _ _ ?_ (fun hH => ?_)
        · exact ⟨cell_later hb1 hH.1, cell_later hb1 hH.2.1, cell_later hb1 hH.2.2⟩
        clear hK9 K9
        (try simp only [Act.put, List.setIfInBounds_toArray, List.set_cons_zero, List.set_cons_succ])
        have hl2 := hn.lt
        replace hb := hb.trans (hb1.mono hb.size)
        replace hO := ownsRow_below hO hb1
        have hN := hn
        clear hn hb1
        refine wpAnyH_take (i := 5) (oi := { dst := some 33, op := Go.Op.build 98 #[(0, Go.Operand.tmp 28), (1, Go.Operand.tmp 31), (2, Go.Operand.tmp 32)], type := 98, pos := _, after := #[{ on := 0, ground := Go.Ground.data }, { on := 3, ground := Go.Ground.data }, { on := 4, ground := Go.Ground.data }], guard := none }) (v := ?_) rfl (by kernel_rfl) (by kernel_rfl) (by kernel_rfl) (fun _ _ _ h => h) (Or.inl ⟨by rfl, ?_⟩) hH ?_
        rotate_left
        · (intro w hSw; (try dsimp only at hSw); go_simp <;> with_reducible rfl)
        (try simp only [Act.put, List.setIfInBounds_toArray, List.set_cons_zero, List.set_cons_succ])
        refine wpAnyH_ready (rs := [6]) (by kernel_rfl) (by simp) ?_
        refine AllReadyH.cons (o := { dst := some 6, op := Go.Op.alloc 98, type := 0, pos := _, after := #[], guard := none }) rfl (fun K9 hK9 => ?_) AllReadyH.nil
        go_simp
        have ha : (x2.alloc (.cells #[.int .i64 0, .int .i64 0, .bool false, .map none, .slice none 0 0, .int .i64 0] 98)).heap[x2.heap.size]? = some (.cells #[.int .i64 0, .int .i64 0, .bool false, .map none, .slice none 0 0, .int .i64 0] 98) := alloc_new _ _
        have hb1 : Below x2.heap.size x2 (x2.alloc (.cells #[.int .i64 0, .int .i64 0, .bool false, .map none, .slice none 0 0, .int .i64 0] 98)) := (Below.refl _ _).alloc (Nat.le_refl _) _
        refine hK9.out _ _ ?_ (fun hH => ?_)
        · exact ⟨cell_later hb1 hH.1, cell_later hb1 hH.2.1, cell_later hb1 hH.2.2⟩
        clear hK9 K9
        (try simp only [Act.put, List.setIfInBounds_toArray, List.set_cons_zero, List.set_cons_succ])
        generalize x2.alloc (.cells #[.int .i64 0, .int .i64 0, .bool false, .map none, .slice none 0 0, .int .i64 0] 98) = x3 at *
        have hl3 : x2.heap.size < x3.heap.size := (Array.getElem?_eq_some_iff.1 ha).1
        replace hb := hb.trans (hb1.mono hb.size)
        replace hN := hN.kept (hb1.block _ hN.lt)
        replace hO := ownsRow_below hO hb1
        have hA := ha
        clear ha hb1
        refine wpAnyH_ready (rs := [7]) (by kernel_rfl) (by simp) ?_
        refine AllReadyH.cons (o := { dst := none, op := Go.Op.store 98 (Go.Operand.tmp 6) (Go.Operand.tmp 33), type := 0, pos := _, after := #[{ on := 6, ground := Go.Ground.data }, { on := 5, ground := Go.Ground.data }, { on := 3, ground := Go.Ground.chain }, { on := 0, ground := Go.Ground.phase }, { on := 1, ground := Go.Ground.phase }, { on := 2, ground := Go.Ground.phase }, { on := 3, ground := Go.Ground.phase }, { on := 4, ground := Go.Ground.phase }, { on := 5, ground := Go.Ground.phase }, { on := 6, ground := Go.Ground.phase }], guard := none }) rfl (fun K9 hK9 => ?_) AllReadyH.nil
        obtain ⟨a0, a1, a2, a3, a4, a5, af⟩ := blk6r hA
        have f0 := af 0
        have f1 := af 1
        have f2 := af 2
        have f3 := af 3
        have f4 := af 4
        have f5 := af 5
        clear af
        go_simp
        refine hK9.out _ _ ?_ (fun hH2 => ?_)
        · exact keep6s hH (by omega)
        clear hK9 K9
        (try simp only [Act.put, List.setIfInBounds_toArray, List.set_cons_zero, List.set_cons_succ])
        refine wpAnyH_done (by kernel_rfl) ?_ _
        refine NoPanic.normal ?_
        obtain ⟨r1, r2, r3, r4⟩ := fin7 (n := n) (d := d) (dr := dr) hA hN hO hb (by omega) (by omega) (by omega)
        exact hQ _ _ _ _ _ _ _ _ _ _ r1 r2 r3 r4 (by omega) (by omega)
      refine AllReadyH.cons (o := { dst := some 6, op := Go.Op.alloc 98, type := 0, pos := _, after := #[], guard := none }) rfl (fun K9 hK9 => ?_) AllReadyH.nil
      go_simp
      have ha : (x1.alloc (.cells #[.int .i64 0, .int .i64 0, .bool false, .map none, .slice none 0 0, .int .i64 0] 98)).heap[x1.heap.size]? = some (.cells #[.int .i64 0, .int .i64 0, .bool false, .map none, .slice none 0 0, .int .i64 0] 98) := alloc_new _ _
      have hb1 : Below x1.heap.size x1 (x1.alloc (.cells #[.int .i64 0, .int .i64 0, .bool false, .map none, .slice none 0 0, .int .i64 0] 98)) := (Below.refl _ _).alloc (Nat.le_refl _) _
      refine hK9.out _ _ ?_ (fun hH => ?_)
      · exact ⟨cell_later hb1 hH.1, cell_later hb1 hH.2.1, cell_later hb1 hH.2.2⟩
      clear hK9 K9
      (try simp only [Act.put, List.setIfInBounds_toArray, List.set_cons_zero, List.set_cons_succ])
      generalize x1.alloc (.cells #[.int .i64 0, .int .i64 0, .bool false, .map none, .slice none 0 0, .int .i64 0] 98) = x2 at *
      have hl2 : x1.heap.size < x2.heap.size := (Array.getElem?_eq_some_iff.1 ha).1
      replace hb := hb.trans (hb1.mono hb.size)
      replace hO := ownsRow_below hO hb1
      have hA := ha
      clear ha hb1
      refine wpAnyH_ready (rs := [3]) (by kernel_rfl) (by simp) ?_
      refine AllReadyH.cons (o := { dst := some 31, op := Go.Op.call { callee := Go.Callee.value (Go.Operand.func 52), args := #[Go.Operand.tmp 30], argTypes := #[3] }, type := 94, pos := _, after := #[{ on := 2, ground := Go.Ground.data }, { on := 2, ground := Go.Ground.chain }], guard := none }) rfl (fun K9 hK9 => ?_) AllReadyH.nil
      go_simp
      go_at_call 52
      refine (inumw_any (Lib.countByte s.data.toList 10) K _ hc hK).mono ?_
      rintro e x3 ⟨rfl, hn, hb1⟩
      (try simp only [])
      refine hK9.out _ _ ?_ (fun hH => ?_)
      · exact ⟨cell_later hb1 hH.1, cell_later hb1 hH.2.1, cell_later hb1 hH.2.2⟩
      clear hK9 K9
      (try simp only [Act.put, List.setIfInBounds_toArray, List.set_cons_zero, List.set_cons_succ])
      have hl3 := hn.lt
      replace hb := hb.trans (hb1.mono hb.size)
      replace hO := ownsRow_below hO hb1
      replace hA := (hb1.block _ (Array.getElem?_eq_some_iff.1 hA).1).trans hA
      have hN := hn
      clear hn hb1
      refine wpAnyH_take (i := 5) (oi := { dst := some 33, op := Go.Op.build 98 #[(0, Go.Operand.tmp 28), (1, Go.Operand.tmp 31), (2, Go.Operand.tmp 32)], type := 98, pos := _, after := #[{ on := 0, ground := Go.Ground.data }, { on := 3, ground := Go.Ground.data }, { on := 4, ground := Go.Ground.data }], guard := none }) (v := ?_) rfl (by kernel_rfl) (by kernel_rfl) (by kernel_rfl) (fun _ _ _ h => h) (Or.inl ⟨by rfl, ?_⟩) hH ?_
      rotate_left
      · (intro w hSw; (try dsimp only at hSw); go_simp <;> with_reducible rfl)
      (try simp only [Act.put, List.setIfInBounds_toArray, List.set_cons_zero, List.set_cons_succ])
      refine wpAnyH_ready (rs := [7]) (by kernel_rfl) (by simp) ?_
      refine AllReadyH.cons (o := { dst := none, op := Go.Op.store 98 (Go.Operand.tmp 6) (Go.Operand.tmp 33), type := 0, pos := _, after := #[{ on := 6, ground := Go.Ground.data }, { on := 5, ground := Go.Ground.data }, { on := 3, ground := Go.Ground.chain }, { on := 0, ground := Go.Ground.phase }, { on := 1, ground := Go.Ground.phase }, { on := 2, ground := Go.Ground.phase }, { on := 3, ground := Go.Ground.phase }, { on := 4, ground := Go.Ground.phase }, { on := 5, ground := Go.Ground.phase }, { on := 6, ground := Go.Ground.phase }], guard := none }) rfl (fun K9 hK9 => ?_) AllReadyH.nil
      obtain ⟨a0, a1, a2, a3, a4, a5, af⟩ := blk6r hA
      have f0 := af 0
      have f1 := af 1
      have f2 := af 2
      have f3 := af 3
      have f4 := af 4
      have f5 := af 5
      clear af
      go_simp
      refine hK9.out _ _ ?_ (fun hH2 => ?_)
      · exact keep6s hH (by omega)
      clear hK9 K9
      (try simp only [Act.put, List.setIfInBounds_toArray, List.set_cons_zero, List.set_cons_succ])
      refine wpAnyH_done (by kernel_rfl) ?_ _
      refine NoPanic.normal ?_
      obtain ⟨r1, r2, r3, r4⟩ := fin7 (n := n) (d := d) (dr := dr) hA hN hO hb (by omega) (by omega) (by omega)
      exact hQ _ _ _ _ _ _ _ _ _ _ r1 r2 r3 r4 (by omega) (by omega)
    refine AllReadyH.cons (o := { dst := some 6, op := Go.Op.alloc 98, type := 0, pos := _, after := #[], guard := none }) rfl (fun K9 hK9 => ?_) AllReadyH.nil
    go_simp
    have ha : (x0.alloc (.cells #[.int .i64 0, .int .i64 0, .bool false, .map none, .slice none 0 0, .int .i64 0] 98)).heap[x0.heap.size]? = some (.cells #[.int .i64 0, .int .i64 0, .bool false, .map none, .slice none 0 0, .int .i64 0] 98) := alloc_new _ _
    have hb1 : Below x0.heap.size x0 (x0.alloc (.cells #[.int .i64 0, .int .i64 0, .bool false, .map none, .slice none 0 0, .int .i64 0] 98)) := (Below.refl _ _).alloc (Nat.le_refl _) _
    refine hK9.out _ _ ?_ (fun hH => ?_)
    · exact ⟨cell_later hb1 hH.1, cell_later hb1 hH.2.1, cell_later hb1 hH.2.2⟩
    clear hK9 K9
    (try simp only [Act.put, List.setIfInBounds_toArray, List.set_cons_zero, List.set_cons_succ])
    generalize x0.alloc (.cells #[.int .i64 0, .int .i64 0, .bool false, .map none, .slice none 0 0, .int .i64 0] 98) = x1 at *
    have hl1 : x0.heap.size < x1.heap.size := (Array.getElem?_eq_some_iff.1 ha).1
    replace hb := hb.trans (hb1.mono hb.size)
    have hA := ha
    clear ha hb1
    refine wpAnyH_ready (rs := [3, 4]) (by kernel_rfl) (by simp) ?_
    refine AllReadyH.cons (o := { dst := some 31, op := Go.Op.call { callee := Go.Callee.value (Go.Operand.func 52), args := #[Go.Operand.tmp 30], argTypes := #[3] }, type := 94, pos := _, after := #[{ on := 2, ground := Go.Ground.data }, { on := 2, ground := Go.Ground.chain }], guard := none }) rfl (fun K9 hK9 => ?_) ?_
    · go_simp
      go_at_call 52
      refine (inumw_any (Lib.countByte s.data.toList 10) K _ hc hK).mono ?_
      rintro e x2 ⟨rfl, hn, hb1⟩
      (try simp only [])
      refine hK9.out _ _ ?_ (fun hH => ?_)
      · exact ⟨cell_later hb1 hH.1, cell_later hb1 hH.2.1, cell_later hb1 hH.2.2⟩
      clear hK9 K9
      (try simp only [Act.put, List.setIfInBounds_toArray, List.set_cons_zero, List.set_cons_succ])
      have hl2 := hn.lt
      replace hb := hb.trans (hb1.mono hb.size)
      replace hA := (hb1.block _ (Array.getElem?_eq_some_iff.1 hA).1).trans hA
      have hN := hn
      clear hn hb1
      refine wpAnyH_ready (rs := [4]) (by kernel_rfl) (by simp) ?_
      refine AllReadyH.cons (o := { dst := some 32, op := Go.Op.buildSlice 45 0 #[], type := 45, pos := _, after := #[], guard := none }) rfl (fun K9 hK9 => ?_) AllReadyH.nil
      go_simp
      have ha : (x2.alloc (.cells #[] 44)).heap[x2.heap.size]? = some (.cells #[] 44) := alloc_new _ _
      have hb1 : Below x2.heap.size x2 (x2.alloc (.cells #[] 44)) := (Below.refl _ _).alloc (Nat.le_refl _) _
      have ho : Own (x2.alloc (.cells #[] 44)) v.heap.size x2.heap.size 0 0 [] := own_lit0 x2 hb.size
      refine hK9.out _ _ ?_ (fun hH => ?_)
      · exact ⟨cell_later hb1 hH.1, cell_later hb1 hH.2.1, cell_later hb1 hH.2.2⟩
      clear hK9 K9
      (try simp only [Act.put, List.setIfInBounds_toArray, List.set_cons_zero, List.set_cons_succ])
      generalize x2.alloc (.cells #[] 44) = x3 at *
      have hl3 : x2.heap.size < x3.heap.size := (Array.getElem?_eq_some_iff.1 ha).1
      replace hb := hb.trans (hb1.mono hb.size)
      replace hN := hN.kept (hb1.block _ hN.lt)
      replace hA := (hb1.block _ (Array.getElem?_eq_some_iff.1 hA).1).trans hA
      have hO := ho
      clear ho ha hb1
      refine wpAnyH_take (i := 5) (oi := { dst := some 33, op := Go.Op.build 98 #[(0, Go.Operand.tmp 28), (1, Go.Operand.tmp 31), (2, Go.Operand.tmp 32)], type := 98, pos := _, after := #[{ on := 0, ground := Go.Ground.data }, { on := 3, ground := Go.Ground.data }, { on := 4, ground := Go.Ground.data }], guard := none }) (v := ?_) rfl (by kernel_rfl) (by kernel_rfl) (by kernel_rfl) (fun _ _ _ h => h) (Or.inl ⟨by rfl, ?_⟩) hH ?_
      rotate_left
      · (intro w hSw; (try dsimp only at hSw); go_simp <;> with_reducible rfl)
      (try simp only [Act.put, List.setIfInBounds_toArray, List.set_cons_zero, List.set_cons_succ])
      refine wpAnyH_ready (rs := [7]) (by kernel_rfl) (by simp) ?_
      refine AllReadyH.cons (o := { dst := none, op := Go.Op.store 98 (Go.Operand.tmp 6) (Go.Operand.tmp 33), type := 0, pos := _, after := #[{ on := 6, ground := Go.Ground.data }, { on := 5, ground := Go.Ground.data }, { on := 3, ground := Go.Ground.chain }, { on := 0, ground := Go.Ground.phase }, { on := 1, ground := Go.Ground.phase }, { on := 2, ground := Go.Ground.phase }, { on := 3, ground := Go.Ground.phase }, { on := 4, ground := Go.Ground.phase }, { on := 5, ground := Go.Ground.phase }, { on := 6, ground := Go.Ground.phase }], guard := none }) rfl (fun K9 hK9 => ?_) AllReadyH.nil
      obtain ⟨a0, a1, a2, a3, a4, a5, af⟩ := blk6r hA
      have f0 := af 0
      have f1 := af 1
      have f2 := af 2
      have f3 := af 3
      have f4 := af 4
      have f5 := af 5
      clear af
      go_simp
      refine hK9.out _ _ ?_ (fun hH2 => ?_)
      · exact keep6s hH (by omega)
      clear hK9 K9
      (try simp only [Act.put, List.setIfInBounds_toArray, List.set_cons_zero, List.set_cons_succ])
      refine wpAnyH_done (by kernel_rfl) ?_ _
      refine NoPanic.normal ?_
      obtain ⟨r1, r2, r3, r4⟩ := fin7 (n := n) (d := d) (dr := dr) hA hN hO hb (by omega) (by omega) (by omega)
      exact hQ _ _ _ _ _ _ _ _ _ _ r1 r2 r3 r4 (by omega) (by omega)
    refine AllReadyH.cons (o := { dst := some 32, op := Go.Op.buildSlice 45 0 #[], type := 45, pos := _, after := #[], guard := none }) rfl (fun K9 hK9 => ?_) AllReadyH.nil
    go_simp
    have ha : (x1.alloc (.cells #[] 44)).heap[x1.heap.size]? = some (.cells #[] 44) := alloc_new _ _
    have hb1 : Below x1.heap.size x1 (x1.alloc (.cells #[] 44)) := (Below.refl _ _).alloc (Nat.le_refl _) _
    have ho : Own (x1.alloc (.cells #[] 44)) v.heap.size x1.heap.size 0 0 [] := own_lit0 x1 hb.size
    refine hK9.out _ _ ?_ (fun hH => ?_)
    · exact ⟨cell_later hb1 hH.1, cell_later hb1 hH.2.1, cell_later hb1 hH.2.2⟩
    clear hK9 K9
    (try simp only [Act.put, List.setIfInBounds_toArray, List.set_cons_zero, List.set_cons_succ])
    generalize x1.alloc (.cells #[] 44) = x2 at *
    have hl2 : x1.heap.size < x2.heap.size := (Array.getElem?_eq_some_iff.1 ha).1
    replace hb := hb.trans (hb1.mono hb.size)
    replace hA := (hb1.block _ (Array.getElem?_eq_some_iff.1 hA).1).trans hA
    have hO := ho
    clear ho ha hb1
    refine wpAnyH_ready (rs := [3]) (by kernel_rfl) (by simp) ?_
    refine AllReadyH.cons (o := { dst := some 31, op := Go.Op.call { callee := Go.Callee.value (Go.Operand.func 52), args := #[Go.Operand.tmp 30], argTypes := #[3] }, type := 94, pos := _, after := #[{ on := 2, ground := Go.Ground.data }, { on := 2, ground := Go.Ground.chain }], guard := none }) rfl (fun K9 hK9 => ?_) AllReadyH.nil
    go_simp
    go_at_call 52
    refine (inumw_any (Lib.countByte s.data.toList 10) K _ hc hK).mono ?_
    rintro e x3 ⟨rfl, hn, hb1⟩
    (try simp only [])
    refine hK9.out _ _ ?_ (fun hH => ?_)
    · exact ⟨cell_later hb1 hH.1, cell_later hb1 hH.2.1, cell_later hb1 hH.2.2⟩
    clear hK9 K9
    (try simp only [Act.put, List.setIfInBounds_toArray, List.set_cons_zero, List.set_cons_succ])
    have hl3 := hn.lt
    replace hb := hb.trans (hb1.mono hb.size)
    replace hO := ownsRow_below hO hb1
    replace hA := (hb1.block _ (Array.getElem?_eq_some_iff.1 hA).1).trans hA
    have hN := hn
    clear hn hb1
    refine wpAnyH_take (i := 5) (oi := { dst := some 33, op := Go.Op.build 98 #[(0, Go.Operand.tmp 28), (1, Go.Operand.tmp 31), (2, Go.Operand.tmp 32)], type := 98, pos := _, after := #[{ on := 0, ground := Go.Ground.data }, { on := 3, ground := Go.Ground.data }, { on := 4, ground := Go.Ground.data }], guard := none }) (v := ?_) rfl (by kernel_rfl) (by kernel_rfl) (by kernel_rfl) (fun _ _ _ h => h) (Or.inl ⟨by rfl, ?_⟩) hH ?_
    rotate_left
    · (intro w hSw; (try dsimp only at hSw); go_simp <;> with_reducible rfl)
    (try simp only [Act.put, List.setIfInBounds_toArray, List.set_cons_zero, List.set_cons_succ])
    refine wpAnyH_ready (rs := [7]) (by kernel_rfl) (by simp) ?_
    refine AllReadyH.cons (o := { dst := none, op := Go.Op.store 98 (Go.Operand.tmp 6) (Go.Operand.tmp 33), type := 0, pos := _, after := #[{ on := 6, ground := Go.Ground.data }, { on := 5, ground := Go.Ground.data }, { on := 3, ground := Go.Ground.chain }, { on := 0, ground := Go.Ground.phase }, { on := 1, ground := Go.Ground.phase }, { on := 2, ground := Go.Ground.phase }, { on := 3, ground := Go.Ground.phase }, { on := 4, ground := Go.Ground.phase }, { on := 5, ground := Go.Ground.phase }, { on := 6, ground := Go.Ground.phase }], guard := none }) rfl (fun K9 hK9 => ?_) AllReadyH.nil
    obtain ⟨a0, a1, a2, a3, a4, a5, af⟩ := blk6r hA
    have f0 := af 0
    have f1 := af 1
    have f2 := af 2
    have f3 := af 3
    have f4 := af 4
    have f5 := af 5
    clear af
    go_simp
    refine hK9.out _ _ ?_ (fun hH2 => ?_)
    · exact keep6s hH (by omega)
    clear hK9 K9
    (try simp only [Act.put, List.setIfInBounds_toArray, List.set_cons_zero, List.set_cons_succ])
    refine wpAnyH_done (by kernel_rfl) ?_ _
    refine NoPanic.normal ?_
    obtain ⟨r1, r2, r3, r4⟩ := fin7 (n := n) (d := d) (dr := dr) hA hN hO hb (by omega) (by omega) (by omega)
    exact hQ _ _ _ _ _ _ _ _ _ _ r1 r2 r3 r4 (by omega) (by omega)
  refine AllReadyH.cons (o := { dst := some 32, op := Go.Op.buildSlice 45 0 #[], type := 45, pos := _, after := #[], guard := none }) rfl (fun K9 hK9 => ?_) ?_
  · go_simp
    have ha : (x0.alloc (.cells #[] 44)).heap[x0.heap.size]? = some (.cells #[] 44) := alloc_new _ _
    have hb1 : Below x0.heap.size x0 (x0.alloc (.cells #[] 44)) := (Below.refl _ _).alloc (Nat.le_refl _) _
    have ho : Own (x0.alloc (.cells #[] 44)) v.heap.size x0.heap.size 0 0 [] := own_lit0 x0 hb.size
    refine hK9.out _ _ ?_ (fun hH => ?_)
    · exact ⟨cell_later hb1 hH.1, cell_later hb1 hH.2.1, cell_later hb1 hH.2.2⟩
    clear hK9 K9
    (try simp only [Act.put, List.setIfInBounds_toArray, List.set_cons_zero, List.set_cons_succ])
    generalize x0.alloc (.cells #[] 44) = x1 at *
    have hl1 : x0.heap.size < x1.heap.size := (Array.getElem?_eq_some_iff.1 ha).1
    replace hb := hb.trans (hb1.mono hb.size)
    have hO := ho
    clear ho ha hb1
    refine wpAnyH_ready (rs := [2, 6]) (by kernel_rfl) (by simp) ?_
    refine AllReadyH.cons (o := { dst := some 30, op := Go.Op.call { callee := Go.Callee.value (Go.Operand.func 53), args := #[Go.Operand.tmp 29, Go.Operand.const (Go.Value.string { data := #[10] })], argTypes := #[9, 9] }, type := 3, pos := _, after := #[{ on := 1, ground := Go.Ground.data }], guard := none }) rfl (fun K9 hK9 => ?_) ?_
    · go_simp
      go_at_call 53
      refine (Tryz.strings_Count_one s 10 _).mono ?_
      rintro e wc ⟨rfl, hwc⟩
      replace hwc := hwc.symm
      subst hwc
      (try simp only [])
      refine hK9.out _ _ ?_ (fun hH => ?_)
      · exact hH
      clear hK9 K9
      (try simp only [Act.put, List.setIfInBounds_toArray, List.set_cons_zero, List.set_cons_succ])
      refine wpAnyH_ready (rs := [3, 6]) (by kernel_rfl) (by simp) ?_
      refine AllReadyH.cons (o := { dst := some 31, op := Go.Op.call { callee := Go.Callee.value (Go.Operand.func 52), args := #[Go.Operand.tmp 30], argTypes := #[3] }, type := 94, pos := _, after := #[{ on := 2, ground := Go.Ground.data }, { on := 2, ground := Go.Ground.chain }], guard := none }) rfl (fun K9 hK9 => ?_) ?_
      · go_simp
        go_at_call 52
        refine (inumw_any (Lib.countByte s.data.toList 10) K _ hc hK).mono ?_
        rintro e x2 ⟨rfl, hn, hb1⟩
        (try simp only [])
        refine hK9.out _ _ ?_ (fun hH => ?_)
        · exact ⟨cell_later hb1 hH.1, cell_later hb1 hH.2.1, cell_later hb1 hH.2.2⟩
        clear hK9 K9
        (try simp only [Act.put, List.setIfInBounds_toArray, List.set_cons_zero, List.set_cons_succ])
        have hl2 := hn.lt
        replace hb := hb.trans (hb1.mono hb.size)
        replace hO := ownsRow_below hO hb1
        have hN := hn
        clear hn hb1
        refine wpAnyH_take (i := 5) (oi := { dst := some 33, op := Go.Op.build 98 #[(0, Go.Operand.tmp 28), (1, Go.Operand.tmp 31), (2, Go.Operand.tmp 32)], type := 98, pos := _, after := #[{ on := 0, ground := Go.Ground.data }, { on := 3, ground := Go.Ground.data }, { on := 4, ground := Go.Ground.data }], guard := none }) (v := ?_) rfl (by kernel_rfl) (by kernel_rfl) (by kernel_rfl) (fun _ _ _ h => h) (Or.inl ⟨by rfl, ?_⟩) hH ?_
        rotate_left
        · (intro w hSw; (try dsimp only at hSw); go_simp <;> with_reducible rfl)
        (try simp only [Act.put, List.setIfInBounds_toArray, List.set_cons_zero, List.set_cons_succ])
        refine wpAnyH_ready (rs := [6]) (by kernel_rfl) (by simp) ?_
        refine AllReadyH.cons (o := { dst := some 6, op := Go.Op.alloc 98, type := 0, pos := _, after := #[], guard := none }) rfl (fun K9 hK9 => ?_) AllReadyH.nil
        go_simp
        have ha : (x2.alloc (.cells #[.int .i64 0, .int .i64 0, .bool false, .map none, .slice none 0 0, .int .i64 0] 98)).heap[x2.heap.size]? = some (.cells #[.int .i64 0, .int .i64 0, .bool false, .map none, .slice none 0 0, .int .i64 0] 98) := alloc_new _ _
        have hb1 : Below x2.heap.size x2 (x2.alloc (.cells #[.int .i64 0, .int .i64 0, .bool false, .map none, .slice none 0 0, .int .i64 0] 98)) := (Below.refl _ _).alloc (Nat.le_refl _) _
        refine hK9.out _ _ ?_ (fun hH => ?_)
        · exact ⟨cell_later hb1 hH.1, cell_later hb1 hH.2.1, cell_later hb1 hH.2.2⟩
        clear hK9 K9
        (try simp only [Act.put, List.setIfInBounds_toArray, List.set_cons_zero, List.set_cons_succ])
        generalize x2.alloc (.cells #[.int .i64 0, .int .i64 0, .bool false, .map none, .slice none 0 0, .int .i64 0] 98) = x3 at *
        have hl3 : x2.heap.size < x3.heap.size := (Array.getElem?_eq_some_iff.1 ha).1
        replace hb := hb.trans (hb1.mono hb.size)
        replace hN := hN.kept (hb1.block _ hN.lt)
        replace hO := ownsRow_below hO hb1
        have hA := ha
        clear ha hb1
        refine wpAnyH_ready (rs := [7]) (by kernel_rfl) (by simp) ?_
        refine AllReadyH.cons (o := { dst := none, op := Go.Op.store 98 (Go.Operand.tmp 6) (Go.Operand.tmp 33), type := 0, pos := _, after := #[{ on := 6, ground := Go.Ground.data }, { on := 5, ground := Go.Ground.data }, { on := 3, ground := Go.Ground.chain }, { on := 0, ground := Go.Ground.phase }, { on := 1, ground := Go.Ground.phase }, { on := 2, ground := Go.Ground.phase }, { on := 3, ground := Go.Ground.phase }, { on := 4, ground := Go.Ground.phase }, { on := 5, ground := Go.Ground.phase }, { on := 6, ground := Go.Ground.phase }], guard := none }) rfl (fun K9 hK9 => ?_) AllReadyH.nil
        obtain ⟨a0, a1, a2, a3, a4, a5, af⟩ := blk6r hA
        have f0 := af 0
        have f1 := af 1
        have f2 := af 2
        have f3 := af 3
        have f4 := af 4
        have f5 := af 5
        clear af
        go_simp
        refine hK9.out _ _ ?_ (fun hH2 => ?_)
        · exact keep6s hH (by omega)
        clear hK9 K9
        (try simp only [Act.put, List.setIfInBounds_toArray, List.set_cons_zero, List.set_cons_succ])
        refine wpAnyH_done (by kernel_rfl) ?_ _
        refine NoPanic.normal ?_
        obtain ⟨r1, r2, r3, r4⟩ := fin7 (n := n) (d := d) (dr := dr) hA hN hO hb (by omega) (by omega) (by omega)
        exact hQ _ _ _ _ _ _ _ _ _ _ r1 r2 r3 r4 (by omega) (by omega)
      refine AllReadyH.cons (o := { dst := some 6, op := Go.Op.alloc 98, type := 0, pos := _, after := #[], guard := none }) rfl (fun K9 hK9 => ?_) AllReadyH.nil
      go_simp
      have ha : (x1.alloc (.cells #[.int .i64 0, .int .i64 0, .bool false, .map none, .slice none 0 0, .int .i64 0] 98)).heap[x1.heap.size]? = some (.cells #[.int .i64 0, .int .i64 0, .bool false, .map none, .slice none 0 0, .int .i64 0] 98) := alloc_new _ _
      have hb1 : Below x1.heap.size x1 (x1.alloc (.cells #[.int .i64 0, .int .i64 0, .bool false, .map none, .slice none 0 0, .int .i64 0] 98)) := (Below.refl _ _).alloc (Nat.le_refl _) _
      refine hK9.out _ _ ?_ (fun hH => ?_)
      · exact ⟨cell_later hb1 hH.1, cell_later hb1 hH.2.1, cell_later hb1 hH.2.2⟩
      clear hK9 K9
      (try simp only [Act.put, List.setIfInBounds_toArray, List.set_cons_zero, List.set_cons_succ])
      generalize x1.alloc (.cells #[.int .i64 0, .int .i64 0, .bool false, .map none, .slice none 0 0, .int .i64 0] 98) = x2 at *
      have hl2 : x1.heap.size < x2.heap.size := (Array.getElem?_eq_some_iff.1 ha).1
      replace hb := hb.trans (hb1.mono hb.size)
      replace hO := ownsRow_below hO hb1
      have hA := ha
      clear ha hb1
      refine wpAnyH_ready (rs := [3]) (by kernel_rfl) (by simp) ?_
      refine AllReadyH.cons (o := { dst := some 31, op := Go.Op.call { callee := Go.Callee.value (Go.Operand.func 52), args := #[Go.Operand.tmp 30], argTypes := #[3] }, type := 94, pos := _, after := #[{ on := 2, ground := Go.Ground.data }, { on := 2, ground := Go.Ground.chain }], guard := none }) rfl (fun K9 hK9 => ?_) AllReadyH.nil
      go_simp
      go_at_call 52
      refine (inumw_any (Lib.countByte s.data.toList 10) K _ hc hK).mono ?_
      rintro e x3 ⟨rfl, hn, hb1⟩
      (try simp only [])
      refine hK9.out _ _ ?_ (fun hH => ?_)
      · exact ⟨cell_later hb1 hH.1, cell_later hb1 hH.2.1, cell_later hb1 hH.2.2⟩
      clear hK9 K9
      (try simp only [Act.put, List.setIfInBounds_toArray, List.set_cons_zero, List.set_cons_succ])
      have hl3 := hn.lt
      replace hb := hb.trans (hb1.mono hb.size)
      replace hO := ownsRow_below hO hb1
      replace hA := (hb1.block _ (Array.getElem?_eq_some_iff.1 hA).1).trans hA
      have hN := hn
      clear hn hb1
      refine wpAnyH_take (i := 5) (oi := { dst := some 33, op := Go.Op.build 98 #[(0, Go.Operand.tmp 28), (1, Go.Operand.tmp 31), (2, Go.Operand.tmp 32)], type := 98, pos := _, after := #[{ on := 0, ground := Go.Ground.data }, { on := 3, ground := Go.Ground.data }, { on := 4, ground := Go.Ground.data }], guard := none }) (v := ?_) rfl (by kernel_rfl) (by kernel_rfl) (by kernel_rfl) (fun _ _ _ h => h) (Or.inl ⟨by rfl, ?_⟩) hH ?_
      rotate_left
      · (intro w hSw; (try dsimp only at hSw); go_simp <;> with_reducible rfl)
      (try simp only [Act.put, List.setIfInBounds_toArray, List.set_cons_zero, List.set_cons_succ])
      refine wpAnyH_ready (rs := [7]) (by kernel_rfl) (by simp) ?_
      refine AllReadyH.cons (o := { dst := none, op := Go.Op.store 98 (Go.Operand.tmp 6) (Go.Operand.tmp 33), type := 0, pos := _, after := #[{ on := 6, ground := Go.Ground.data }, { on := 5, ground := Go.Ground.data }, { on := 3, ground := Go.Ground.chain }, { on := 0, ground := Go.Ground.phase }, { on := 1, ground := Go.Ground.phase }, { on := 2, ground := Go.Ground.phase }, { on := 3, ground := Go.Ground.phase }, { on := 4, ground := Go.Ground.phase }, { on := 5, ground := Go.Ground.phase }, { on := 6, ground := Go.Ground.phase }], guard := none }) rfl (fun K9 hK9 => ?_) AllReadyH.nil
      obtain ⟨a0, a1, a2, a3, a4, a5, af⟩ := blk6r hA
      have f0 := af 0
      have f1 := af 1
      have f2 := af 2
      have f3 := af 3
      have f4 := af 4
      have f5 := af 5
      clear af
      go_simp
      refine hK9.out _ _ ?_ (fun hH2 => ?_)
      · exact keep6s hH (by omega)
      clear hK9 K9
      (try simp only [Act.put, List.setIfInBounds_toArray, List.set_cons_zero, List.set_cons_succ])
      refine wpAnyH_done (by kernel_rfl) ?_ _
      refine NoPanic.normal ?_
      obtain ⟨r1, r2, r3, r4⟩ := fin7 (n := n) (d := d) (dr := dr) hA hN hO hb (by omega) (by omega) (by omega)
      exact hQ _ _ _ _ _ _ _ _ _ _ r1 r2 r3 r4 (by omega) (by omega)
    refine AllReadyH.cons (o := { dst := some 6, op := Go.Op.alloc 98, type := 0, pos := _, after := #[], guard := none }) rfl (fun K9 hK9 => ?_) AllReadyH.nil
    go_simp
    have ha : (x1.alloc (.cells #[.int .i64 0, .int .i64 0, .bool false, .map none, .slice none 0 0, .int .i64 0] 98)).heap[x1.heap.size]? = some (.cells #[.int .i64 0, .int .i64 0, .bool false, .map none, .slice none 0 0, .int .i64 0] 98) := alloc_new _ _
    have hb1 : Below x1.heap.size x1 (x1.alloc (.cells #[.int .i64 0, .int .i64 0, .bool false, .map none, .slice none 0 0, .int .i64 0] 98)) := (Below.refl _ _).alloc (Nat.le_refl _) _
    refine hK9.out _ _ ?_ (fun hH => ?_)
    · exact ⟨cell_later hb1 hH.1, cell_later hb1 hH.2.1, cell_later hb1 hH.2.2⟩
    clear hK9 K9
    (try simp only [Act.put, List.setIfInBounds_toArray, List.set_cons_zero, List.set_cons_succ])
    generalize x1.alloc (.cells #[.int .i64 0, .int .i64 0, .bool false, .map none, .slice none 0 0, .int .i64 0] 98) = x2 at *
    have hl2 : x1.heap.size < x2.heap.size := (Array.getElem?_eq_some_iff.1 ha).1
    replace hb := hb.trans (hb1.mono hb.size)
    replace hO := ownsRow_below hO hb1
    have hA := ha
    clear ha hb1
    refine wpAnyH_ready (rs := [2]) (by kernel_rfl) (by simp) ?_
    refine AllReadyH.cons (o := { dst := some 30, op := Go.Op.call { callee := Go.Callee.value (Go.Operand.func 53), args := #[Go.Operand.tmp 29, Go.Operand.const (Go.Value.string { data := #[10] })], argTypes := #[9, 9] }, type := 3, pos := _, after := #[{ on := 1, ground := Go.Ground.data }], guard := none }) rfl (fun K9 hK9 => ?_) AllReadyH.nil
    go_simp
    go_at_call 53
    refine (Tryz.strings_Count_one s 10 _).mono ?_
    rintro e wc ⟨rfl, hwc⟩
    replace hwc := hwc.symm
    subst hwc
    (try simp only [])
    refine hK9.out _ _ ?_ (fun hH => ?_)
    · exact hH
    clear hK9 K9
    (try simp only [Act.put, List.setIfInBounds_toArray, List.set_cons_zero, List.set_cons_succ])
    refine wpAnyH_ready (rs := [3]) (by kernel_rfl) (by simp) ?_
    refine AllReadyH.cons (o := { dst := some 31, op := Go.Op.call { callee := Go.Callee.value (Go.Operand.func 52), args := #[Go.Operand.tmp 30], argTypes := #[3] }, type := 94, pos := _, after := #[{ on := 2, ground := Go.Ground.data }, { on := 2, ground := Go.Ground.chain }], guard := none }) rfl (fun K9 hK9 => ?_) AllReadyH.nil
    go_simp
    go_at_call 52
    refine (inumw_any (Lib.countByte s.data.toList 10) K _ hc hK).mono ?_
    rintro e x3 ⟨rfl, hn, hb1⟩
    (try simp only [])
    refine hK9.out _ _ ?_ (fun hH => ?_)
    · exact ⟨cell_later hb1 hH.1, cell_later hb1 hH.2.1, cell_later hb1 hH.2.2⟩
    clear hK9 K9
    (try simp only [Act.put, List.setIfInBounds_toArray, List.set_cons_zero, List.set_cons_succ])
    have hl3 := hn.lt
    replace hb := hb.trans (hb1.mono hb.size)
    replace hO := ownsRow_below hO hb1
    replace hA := (hb1.block _ (Array.getElem?_eq_some_iff.1 hA).1).trans hA
    have hN := hn
    clear hn hb1
    refine wpAnyH_take (i := 5) (oi := { dst := some 33, op := Go.Op.build 98 #[(0, Go.Operand.tmp 28), (1, Go.Operand.tmp 31), (2, Go.Operand.tmp 32)], type := 98, pos := _, after := #[{ on := 0, ground := Go.Ground.data }, { on := 3, ground := Go.Ground.data }, { on := 4, ground := Go.Ground.data }], guard := none }) (v := ?_) rfl (by kernel_rfl) (by kernel_rfl) (by kernel_rfl) (fun _ _ _ h => h) (Or.inl ⟨by rfl, ?_⟩) hH ?_
    rotate_left
    · (intro w hSw; (try dsimp only at hSw); go_simp <;> with_reducible rfl)
    (try simp only [Act.put, List.setIfInBounds_toArray, List.set_cons_zero, List.set_cons_succ])
    refine wpAnyH_ready (rs := [7]) (by kernel_rfl) (by simp) ?_
    refine AllReadyH.cons (o := { dst := none, op := Go.Op.store 98 (Go.Operand.tmp 6) (Go.Operand.tmp 33), type := 0, pos := _, after := #[{ on := 6, ground := Go.Ground.data }, { on := 5, ground := Go.Ground.data }, { on := 3, ground := Go.Ground.chain }, { on := 0, ground := Go.Ground.phase }, { on := 1, ground := Go.Ground.phase }, { on := 2, ground := Go.Ground.phase }, { on := 3, ground := Go.Ground.phase }, { on := 4, ground := Go.Ground.phase }, { on := 5, ground := Go.Ground.phase }, { on := 6, ground := Go.Ground.phase }], guard := none }) rfl (fun K9 hK9 => ?_) AllReadyH.nil
    obtain ⟨a0, a1, a2, a3, a4, a5, af⟩ := blk6r hA
    have f0 := af 0
    have f1 := af 1
    have f2 := af 2
    have f3 := af 3
    have f4 := af 4
    have f5 := af 5
    clear af
    go_simp
    refine hK9.out _ _ ?_ (fun hH2 => ?_)
    · exact keep6s hH (by omega)
    clear hK9 K9
    (try simp only [Act.put, List.setIfInBounds_toArray, List.set_cons_zero, List.set_cons_succ])
    refine wpAnyH_done (by kernel_rfl) ?_ _
    refine NoPanic.normal ?_
    obtain ⟨r1, r2, r3, r4⟩ := fin7 (n := n) (d := d) (dr := dr) hA hN hO hb (by omega) (by omega) (by omega)
    exact hQ _ _ _ _ _ _ _ _ _ _ r1 r2 r3 r4 (by omega) (by omega)
  refine AllReadyH.cons (o := { dst := some 6, op := Go.Op.alloc 98, type := 0, pos := _, after := #[], guard := none }) rfl (fun K9 hK9 => ?_) AllReadyH.nil
  go_simp
  have ha : (x0.alloc (.cells #[.int .i64 0, .int .i64 0, .bool false, .map none, .slice none 0 0, .int .i64 0] 98)).heap[x0.heap.size]? = some (.cells #[.int .i64 0, .int .i64 0, .bool false, .map none, .slice none 0 0, .int .i64 0] 98) := alloc_new _ _
  have hb1 : Below x0.heap.size x0 (x0.alloc (.cells #[.int .i64 0, .int .i64 0, .bool false, .map none, .slice none 0 0, .int .i64 0] 98)) := (Below.refl _ _).alloc (Nat.le_refl _) _
  refine hK9.out _ _ ?_ (fun hH => ?_)
  · exact ⟨cell_later hb1 hH.1, cell_later hb1 hH.2.1, cell_later hb1 hH.2.2⟩
  clear hK9 K9
  (try simp only [Act.put, List.setIfInBounds_toArray, List.set_cons_zero, List.set_cons_succ])
  generalize x0.alloc (.cells #[.int .i64 0, .int .i64 0, .bool false, .map none, .slice none 0 0, .int .i64 0] 98) = x1 at *
  have hl1 : x0.heap.size < x1.heap.size := (Array.getElem?_eq_some_iff.1 ha).1
  replace hb := hb.trans (hb1.mono hb.size)
  have hA := ha
  clear ha hb1
  refine wpAnyH_ready (rs := [2, 4]) (by kernel_rfl) (by simp) ?_
  refine AllReadyH.cons (o := { dst := some 30, op := Go.Op.call { callee := Go.Callee.value (Go.Operand.func 53), args := #[Go.Operand.tmp 29, Go.Operand.const (Go.Value.string { data := #[10] })], argTypes := #[9, 9] }, type := 3, pos := _, after := #[{ on := 1, ground := Go.Ground.data }], guard := none }) rfl (fun K9 hK9 => ?_) ?_
  · go_simp
    go_at_call 53
    refine (Tryz.strings_Count_one s 10 _).mono ?_
    rintro e wc ⟨rfl, hwc⟩
    replace hwc := hwc.symm
    subst hwc
    (try simp only [])
    refine hK9.out _ _ ?_ (fun hH => ?_)
    · exact hH
    clear hK9 K9
    (try simp only [Act.put, List.setIfInBounds_toArray, List.set_cons_zero, List.set_cons_succ])
    refine wpAnyH_ready (rs := [3, 4]) (by kernel_rfl) (by simp) ?_
    refine AllReadyH.cons (o := { dst := some 31, op := Go.Op.call { callee := Go.Callee.value (Go.Operand.func 52), args := #[Go.Operand.tmp 30], argTypes := #[3] }, type := 94, pos := _, after := #[{ on := 2, ground := Go.Ground.data }, { on := 2, ground := Go.Ground.chain }], guard := none }) rfl (fun K9 hK9 => ?_) ?_
    · go_simp
      go_at_call 52
      refine (inumw_any (Lib.countByte s.data.toList 10) K _ hc hK).mono ?_
      rintro e x2 ⟨rfl, hn, hb1⟩
      (try simp only [])
      refine hK9.out _ _ ?_ (fun hH => ?_)
      · exact ⟨cell_later hb1 hH.1, cell_later hb1 hH.2.1, cell_later hb1 hH.2.2⟩
      clear hK9 K9
      (try simp only [Act.put, List.setIfInBounds_toArray, List.set_cons_zero, List.set_cons_succ])
      have hl2 := hn.lt
      replace hb := hb.trans (hb1.mono hb.size)
      replace hA := (hb1.block _ (Array.getElem?_eq_some_iff.1 hA).1).trans hA
      have hN := hn
      clear hn hb1
      refine wpAnyH_ready (rs := [4]) (by kernel_rfl) (by simp) ?_
      refine AllReadyH.cons (o := { dst := some 32, op := Go.Op.buildSlice 45 0 #[], type := 45, pos := _, after := #[], guard := none }) rfl (fun K9 hK9 => ?_) AllReadyH.nil
      go_simp
      have ha : (x2.alloc (.cells #[] 44)).heap[x2.heap.size]? = some (.cells #[] 44) := alloc_new _ _
      have hb1 : Below x2.heap.size x2 (x2.alloc (.cells #[] 44)) := (Below.refl _ _).alloc (Nat.le_refl _) _
      have ho : Own (x2.alloc (.cells #[] 44)) v.heap.size x2.heap.size 0 0 [] := own_lit0 x2 hb.size
      refine hK9.out _ _ ?_ (fun hH => ?_)
      · exact ⟨cell_later hb1 hH.1, cell_later hb1 hH.2.1, cell_later hb1 hH.2.2⟩
      clear hK9 K9
      (try simp only [Act.put, List.setIfInBounds_toArray, List.set_cons_zero, List.set_cons_succ])
      generalize x2.alloc (.cells #[] 44) = x3 at *
      have hl3 : x2.heap.size < x3.heap.size := (Array.getElem?_eq_some_iff.1 ha).1
      replace hb := hb.trans (hb1.mono hb.size)
      replace hN := hN.kept (hb1.block _ hN.lt)
      replace hA := (hb1.block _ (Array.getElem?_eq_some_iff.1 hA).1).trans hA
      have hO := ho
      clear ho ha hb1
      refine wpAnyH_take (i := 5) (oi := { dst := some 33, op := Go.Op.build 98 #[(0, Go.Operand.tmp 28), (1, Go.Operand.tmp 31), (2, Go.Operand.tmp 32)], type := 98, pos := _, after := #[{ on := 0, ground := Go.Ground.data }, { on := 3, ground := Go.Ground.data }, { on := 4, ground := Go.Ground.data }], guard := none }) (v := ?_) rfl (by kernel_rfl) (by kernel_rfl) (by kernel_rfl) (fun _ _ _ h => h) (Or.inl ⟨by rfl, ?_⟩) hH ?_
      rotate_left
      · (intro w hSw; (try dsimp only at hSw); go_simp <;> with_reducible rfl)
      (try simp only [Act.put, List.setIfInBounds_toArray, List.set_cons_zero, List.set_cons_succ])
      refine wpAnyH_ready (rs := [7]) (by kernel_rfl) (by simp) ?_
      refine AllReadyH.cons (o := { dst := none, op := Go.Op.store 98 (Go.Operand.tmp 6) (Go.Operand.tmp 33), type := 0, pos := _, after := #[{ on := 6, ground := Go.Ground.data }, { on := 5, ground := Go.Ground.data }, { on := 3, ground := Go.Ground.chain }, { on := 0, ground := Go.Ground.phase }, { on := 1, ground := Go.Ground.phase }, { on := 2, ground := Go.Ground.phase }, { on := 3, ground := Go.Ground.phase }, { on := 4, ground := Go.Ground.phase }, { on := 5, ground := Go.Ground.phase }, { on := 6, ground := Go.Ground.phase }], guard := none }) rfl (fun K9 hK9 => ?_) AllReadyH.nil
      obtain ⟨a0, a1, a2, a3, a4, a5, af⟩ := blk6r hA
      have f0 := af 0
      have f1 := af 1
      have f2 := af 2
      have f3 := af 3
      have f4 := af 4
      have f5 := af 5
      clear af
      go_simp
      refine hK9.out _ _ ?_ (fun hH2 => ?_)
      · exact keep6s hH (by omega)
      clear hK9 K9
      (try simp only [Act.put, List.setIfInBounds_toArray, List.set_cons_zero, List.set_cons_succ])
      refine wpAnyH_done (by kernel_rfl) ?_ _
      refine NoPanic.normal ?_
      obtain ⟨r1, r2, r3, r4⟩ := fin7 (n := n) (d := d) (dr := dr) hA hN hO hb (by omega) (by omega) (by omega)
      exact hQ _ _ _ _ _ _ _ _ _ _ r1 r2 r3 r4 (by omega) (by omega)
    refine AllReadyH.cons (o := { dst := some 32, op := Go.Op.buildSlice 45 0 #[], type := 45, pos := _, after := #[], guard := none }) rfl (fun K9 hK9 => ?_) AllReadyH.nil
    go_simp
    have ha : (x1.alloc (.cells #[] 44)).heap[x1.heap.size]? = some (.cells #[] 44) := alloc_new _ _
    have hb1 : Below x1.heap.size x1 (x1.alloc (.cells #[] 44)) := (Below.refl _ _).alloc (Nat.le_refl _) _
    have ho : Own (x1.alloc (.cells #[] 44)) v.heap.size x1.heap.size 0 0 [] := own_lit0 x1 hb.size
    refine hK9.out _ _ ?_ (fun hH => ?_)
    · exact ⟨cell_later hb1 hH.1, cell_later hb1 hH.2.1, cell_later hb1 hH.2.2⟩
    clear hK9 K9
    (try simp only [Act.put, List.setIfInBounds_toArray, List.set_cons_zero, List.set_cons_succ])
    generalize x1.alloc (.cells #[] 44) = x2 at *
    have hl2 : x1.heap.size < x2.heap.size := (Array.getElem?_eq_some_iff.1 ha).1
    replace hb := hb.trans (hb1.mono hb.size)
    replace hA := (hb1.block _ (Array.getElem?_eq_some_iff.1 hA).1).trans hA
    have hO := ho
    clear ho ha hb1
    refine wpAnyH_ready (rs := [3]) (by kernel_rfl) (by simp) ?_
    refine AllReadyH.cons (o := { dst := some 31, op := Go.Op.call { callee := Go.Callee.value (Go.Operand.func 52), args := #[Go.Operand.tmp 30], argTypes := #[3] }, type := 94, pos := _, after := #[{ on := 2, ground := Go.Ground.data }, { on := 2, ground := Go.Ground.chain }], guard := none }) rfl (fun K9 hK9 => ?_) AllReadyH.nil
    go_simp
    go_at_call 52
    refine (inumw_any (Lib.countByte s.data.toList 10) K _ hc hK).mono ?_
    rintro e x3 ⟨rfl, hn, hb1⟩
    (try simp only [])
    refine hK9.out _ _ ?_ (fun hH => ?_)
    · exact ⟨cell_later hb1 hH.1, cell_later hb1 hH.2.1, cell_later hb1 hH.2.2⟩
    clear hK9 K9
    (try simp only [Act.put, List.setIfInBounds_toArray, List.set_cons_zero, List.set_cons_succ])
    have hl3 := hn.lt
    replace hb := hb.trans (hb1.mono hb.size)
    replace hO := ownsRow_below hO hb1
    replace hA := (hb1.block _ (Array.getElem?_eq_some_iff.1 hA).1).trans hA
    have hN := hn
    clear hn hb1
    refine wpAnyH_take (i := 5) (oi := { dst := some 33, op := Go.Op.build 98 #[(0, Go.Operand.tmp 28), (1, Go.Operand.tmp 31), (2, Go.Operand.tmp 32)], type := 98, pos := _, after := #[{ on := 0, ground := Go.Ground.data }, { on := 3, ground := Go.Ground.data }, { on := 4, ground := Go.Ground.data }], guard := none }) (v := ?_) rfl (by kernel_rfl) (by kernel_rfl) (by kernel_rfl) (fun _ _ _ h => h) (Or.inl ⟨by rfl, ?_⟩) hH ?_
    rotate_left
    · (intro w hSw; (try dsimp only at hSw); go_simp <;> with_reducible rfl)
    (try simp only [Act.put, List.setIfInBounds_toArray, List.set_cons_zero, List.set_cons_succ])
    refine wpAnyH_ready (rs := [7]) (by kernel_rfl) (by simp) ?_
    refine AllReadyH.cons (o := { dst := none, op := Go.Op.store 98 (Go.Operand.tmp 6) (Go.Operand.tmp 33), type := 0, pos := _, after := #[{ on := 6, ground := Go.Ground.data }, { on := 5, ground := Go.Ground.data }, { on := 3, ground := Go.Ground.chain }, { on := 0, ground := Go.Ground.phase }, { on := 1, ground := Go.Ground.phase }, { on := 2, ground := Go.Ground.phase }, { on := 3, ground := Go.Ground.phase }, { on := 4, ground := Go.Ground.phase }, { on := 5, ground := Go.Ground.phase }, { on := 6, ground := Go.Ground.phase }], guard := none }) rfl (fun K9 hK9 => ?_) AllReadyH.nil
    obtain ⟨a0, a1, a2, a3, a4, a5, af⟩ := blk6r hA
    have f0 := af 0
    have f1 := af 1
    have f2 := af 2
    have f3 := af 3
    have f4 := af 4
    have f5 := af 5
    clear af
    go_simp
    refine hK9.out _ _ ?_ (fun hH2 => ?_)
    · exact keep6s hH (by omega)
    clear hK9 K9
    (try simp only [Act.put, List.setIfInBounds_toArray, List.set_cons_zero, List.set_cons_succ])
    refine wpAnyH_done (by kernel_rfl) ?_ _
    refine NoPanic.normal ?_
    obtain ⟨r1, r2, r3, r4⟩ := fin7 (n := n) (d := d) (dr := dr) hA hN hO hb (by omega) (by omega) (by omega)
    exact hQ _ _ _ _ _ _ _ _ _ _ r1 r2 r3 r4 (by omega) (by omega)
  refine AllReadyH.cons (o := { dst := some 32, op := Go.Op.buildSlice 45 0 #[], type := 45, pos := _, after := #[], guard := none }) rfl (fun K9 hK9 => ?_) AllReadyH.nil
  go_simp
  have ha : (x1.alloc (.cells #[] 44)).heap[x1.heap.size]? = some (.cells #[] 44) := alloc_new _ _
  have hb1 : Below x1.heap.size x1 (x1.alloc (.cells #[] 44)) := (Below.refl _ _).alloc (Nat.le_refl _) _
  have ho : Own (x1.alloc (.cells #[] 44)) v.heap.size x1.heap.size 0 0 [] := own_lit0 x1 hb.size
  refine hK9.out _ _ ?_ (fun hH => ?_)
  · exact ⟨cell_later hb1 hH.1, cell_later hb1 hH.2.1, cell_later hb1 hH.2.2⟩
  clear hK9 K9
  (try simp only [Act.put, List.setIfInBounds_toArray, List.set_cons_zero, List.set_cons_succ])
  generalize x1.alloc (.cells #[] 44) = x2 at *
  have hl2 : x1.heap.size < x2.heap.size := (Array.getElem?_eq_some_iff.1 ha).1
  replace hb := hb.trans (hb1.mono hb.size)
  replace hA := (hb1.block _ (Array.getElem?_eq_some_iff.1 hA).1).trans hA
  have hO := ho
  clear ho ha hb1
  refine wpAnyH_ready (rs := [2]) (by kernel_rfl) (by simp) ?_
  refine AllReadyH.cons (o := { dst := some 30, op := Go.Op.call { callee := Go.Callee.value (Go.Operand.func 53), args := #[Go.Operand.tmp 29, Go.Operand.const (Go.Value.string { data := #[10] })], argTypes := #[9, 9] }, type := 3, pos := _, after := #[{ on := 1, ground := Go.Ground.data }], guard := none }) rfl (fun K9 hK9 => ?_) AllReadyH.nil
  go_simp
  go_at_call 53
  refine (Tryz.strings_Count_one s 10 _).mono ?_
  rintro e wc ⟨rfl, hwc⟩
  replace hwc := hwc.symm
  subst hwc
  (try simp only [])
  refine hK9.out _ _ ?_ (fun hH => ?_)
  · exact hH
  clear hK9 K9
  (try simp only [Act.put, List.setIfInBounds_toArray, List.set_cons_zero, List.set_cons_succ])
  refine wpAnyH_ready (rs := [3]) (by kernel_rfl) (by simp) ?_
  refine AllReadyH.cons (o := { dst := some 31, op := Go.Op.call { callee := Go.Callee.value (Go.Operand.func 52), args := #[Go.Operand.tmp 30], argTypes := #[3] }, type := 94, pos := _, after := #[{ on := 2, ground := Go.Ground.data }, { on := 2, ground := Go.Ground.chain }], guard := none }) rfl (fun K9 hK9 => ?_) AllReadyH.nil
  go_simp
  go_at_call 52
  refine (inumw_any (Lib.countByte s.data.toList 10) K _ hc hK).mono ?_
  rintro e x3 ⟨rfl, hn, hb1⟩
  (try simp only [])
  refine hK9.out _ _ ?_ (fun hH => ?_)
  · exact ⟨cell_later hb1 hH.1, cell_later hb1 hH.2.1, cell_later hb1 hH.2.2⟩
  clear hK9 K9
  (try simp only [Act.put, List.setIfInBounds_toArray, List.set_cons_zero, List.set_cons_succ])
  have hl3 := hn.lt
  replace hb := hb.trans (hb1.mono hb.size)
  replace hO := ownsRow_below hO hb1
  replace hA := (hb1.block _ (Array.getElem?_eq_some_iff.1 hA).1).trans hA
  have hN := hn
  clear hn hb1
  refine wpAnyH_take (i := 5) (oi := { dst := some 33, op := Go.Op.build 98 #[(0, Go.Operand.tmp 28), (1, Go.Operand.tmp 31), (2, Go.Operand.tmp 32)], type := 98, pos := _, after := #[{ on := 0, ground := Go.Ground.data }, { on := 3, ground := Go.Ground.data }, { on := 4, ground := Go.Ground.data }], guard := none }) (v := ?_) rfl (by kernel_rfl) (by kernel_rfl) (by kernel_rfl) (fun _ _ _ h => h) (Or.inl ⟨by rfl, ?_⟩) hH ?_
  rotate_left
  · (intro w hSw; (try dsimp only at hSw); go_simp <;> with_reducible rfl)
  (try simp only [Act.put, List.setIfInBounds_toArray, List.set_cons_zero, List.set_cons_succ])
  refine wpAnyH_ready (rs := [7]) (by kernel_rfl) (by simp) ?_
  refine AllReadyH.cons (o := { dst := none, op := Go.Op.store 98 (Go.Operand.tmp 6) (Go.Operand.tmp 33), type := 0, pos := _, after := #[{ on := 6, ground := Go.Ground.data }, { on := 5, ground := Go.Ground.data }, { on := 3, ground := Go.Ground.chain }, { on := 0, ground := Go.Ground.phase }, { on := 1, ground := Go.Ground.phase }, { on := 2, ground := Go.Ground.phase }, { on := 3, ground := Go.Ground.phase }, { on := 4, ground := Go.Ground.phase }, { on := 5, ground := Go.Ground.phase }, { on := 6, ground := Go.Ground.phase }], guard := none }) rfl (fun K9 hK9 => ?_) AllReadyH.nil
  obtain ⟨a0, a1, a2, a3, a4, a5, af⟩ := blk6r hA
  have f0 := af 0
  have f1 := af 1
  have f2 := af 2
  have f3 := af 3
  have f4 := af 4
  have f5 := af 5
  clear af
  go_simp
  refine hK9.out _ _ ?_ (fun hH2 => ?_)
  · exact keep6s hH (by omega)
  clear hK9 K9
  (try simp only [Act.put, List.setIfInBounds_toArray, List.set_cons_zero, List.set_cons_succ])
  refine wpAnyH_done (by kernel_rfl) ?_ _
  refine NoPanic.normal ?_
  obtain ⟨r1, r2, r3, r4⟩ := fin7 (n := n) (d := d) (dr := dr) hA hN hO hb (by omega) (by omega) (by omega)
  exact hQ _ _ _ _ _ _ _ _ _ _ r1 r2 r3 r4 (by omega) (by omega)
end Go.Proofs.YtfhbmfndjbdhcaaGreatDoor
