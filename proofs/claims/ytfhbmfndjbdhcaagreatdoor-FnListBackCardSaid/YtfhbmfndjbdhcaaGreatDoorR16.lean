/-
  The region in which the model reads one line of a list; no conditions.
-/
import Derived.Test.YtfhbmfndjbdhcaaGreatDoorSLg
import Derived.Test.YtfhbmfndjbdhcaaGreatDoorLnP
namespace Go.Proofs.YtfhbmfndjbdhcaaGreatDoor
open Go.RowKit
set_option linter.unusedVariables false
set_option linter.unusedSimpArgs false

theorem sline_any (n d : Int) (dr : Bool) (s : ByteArray) (tb tq : Nat) (tc : Nat) (tr : List Kl) (en : Int) (x : Int × Kl) (w : World) (hs : s.size ≤ 20000) (hT : TrI tr en) (hK : Kls w (some ⟨tb, tq, none⟩) tr) (hx : lineO n d dr s.data.toList tr en = x) :
    Calls Tryz.prog 33 #[.agg #[.int .i64 n, .int .i64 d, .bool dr], .string s, .int .i64 ((tr.length : Int) + 1), .slice (some ⟨tb, tq, none⟩) tr.length tc, .int .i64 en] w (SlP x w) := by
  subst hx
  by_cases hg : goodW (wordsL s.data.toList)
  · exact sline_g n d dr s tb tq tc tr en w hs hg hT hK
  · rw [lineO_4 hg]
    exact sline_4 n d dr s _ _ en w hs hg
theorem al3c (w : World) (T : TypeId) (a b c : Value) : (w.alloc (.cells #[a, b, c] T)).cell? ⟨w.heap.size, 0, none⟩ = some a ∧ (w.alloc (.cells #[a, b, c] T)).cell? ⟨w.heap.size, 1, none⟩ = some b ∧ (w.alloc (.cells #[a, b, c] T)).cell? ⟨w.heap.size, 2, none⟩ = some c ∧ (w.alloc (.cells #[a, b, c] T)).frozen? ⟨w.heap.size, 0, none⟩ = false ∧ (w.alloc (.cells #[a, b, c] T)).frozen? ⟨w.heap.size, 1, none⟩ = false ∧ (w.alloc (.cells #[a, b, c] T)).frozen? ⟨w.heap.size, 2, none⟩ = false := by
  refine ⟨by simp [go_sem], by simp [go_sem], by simp [go_sem], by simp [go_sem], by simp [go_sem], by simp [go_sem]⟩
theorem ne_ad {g i j : Nat} (h : i ≠ j) : (⟨g, i, none⟩ : Addr) ≠ ⟨g, j, none⟩ := by intro e; injection e with _ e2 _; exact h e2
theorem set3c {w : World} {g : Nat} {u v s a b c : Value} (h0 : w.cell? ⟨g, 0, none⟩ = some a) (h1 : w.cell? ⟨g, 1, none⟩ = some b) (h2 : w.cell? ⟨g, 2, none⟩ = some c) : (((w.setCell ⟨g, 0, none⟩ u).setCell ⟨g, 1, none⟩ v).setCell ⟨g, 2, none⟩ s).cell? ⟨g, 0, none⟩ = some u ∧ (((w.setCell ⟨g, 0, none⟩ u).setCell ⟨g, 1, none⟩ v).setCell ⟨g, 2, none⟩ s).cell? ⟨g, 1, none⟩ = some v ∧ (((w.setCell ⟨g, 0, none⟩ u).setCell ⟨g, 1, none⟩ v).setCell ⟨g, 2, none⟩ s).cell? ⟨g, 2, none⟩ = some s := by
  refine ⟨?_, ?_, ?_⟩
  · rw [World.cell?_setCell_other _ _ _ _ (ne_ad (by decide)), World.cell?_setCell_other _ _ _ _ (ne_ad (by decide))]; exact World.cell?_setCell_same _ _ _ h0
  · rw [World.cell?_setCell_other _ _ _ _ (ne_ad (by decide))]; exact World.cell?_setCell_same _ _ _ (by rw [World.cell?_setCell_other _ _ _ _ (ne_ad (by decide))]; exact h1)
  · exact World.cell?_setCell_same _ _ _ (by rw [World.cell?_setCell_other _ _ _ _ (ne_ad (by decide)), World.cell?_setCell_other _ _ _ _ (ne_ad (by decide))]; exact h2)

set_option maxRecDepth 100000 in
set_option maxHeartbeats 2000000 in
theorem reg16 {Q : Exit → Act → World → Prop} {u0 u3 u4 u5 u6 u12 u13 u14 u15 u16 u17 u18 u19 u20 u21 u22 u23 u24 u25 u26 u27 u28 u29 u30 u31 u32 u33 u34 u35 u36 u37 u38 u39 u40 u41 u42 u43 u44 u45 u46 u47 u48 u49 u50 u51 u52 u53 u54 u55 u56 u57 u58 u59 u60 u61 u62 u63 u64 u65 u66 u67 u68 u69 u70 u71 u72 u73 u74 u75 u76 u77 u78 u79 u80 u81 : Value} (v : World) (n d : Int) (dr : Bool) (s : ByteArray) (gr g c f k : Nat) (tr : List Kl) (en : Int) (x : Int × Kl) (hs : s.size ≤ 20000) (hfk : f ≤ k) (hks : k ≤ s.size) (htr : tr.length ≤ 300)
    (hR : v.cell? ⟨gr, 0, none⟩ = some (.int .i64 n) ∧ v.cell? ⟨gr, 1, none⟩ = some (.int .i64 d) ∧ v.cell? ⟨gr, 2, none⟩ = some (.bool dr)) (hT : TrI tr en) (hK : Kls v (some ⟨g, 0, none⟩) tr) (hx : lineO n d dr (s.extract f k).data.toList tr en = x)
    (hQ : ∀ (y49 y50 y51 y52 y53 y54 y55 y56 y57 y58 y59 y60 y61 : Value) (E : Nat) (w' : World), Below v.heap.size v w' → v.heap.size ≤ E → w'.cell? ⟨E, 0, none⟩ = some (.int .i64 x.2.1) ∧ w'.cell? ⟨E, 1, none⟩ = some (.int .i64 x.2.2.1) ∧ w'.cell? ⟨E, 2, none⟩ = some (.int .i64 x.2.2.2) → Q .normal { tmps := #[u0, .string s, .pointer (some ⟨gr, 0, none⟩), u3, u4, u5, u6, .slice (some ⟨g, 0, none⟩) tr.length c, .int .i64 en, .int .i64 (tr.length : Int), .int .i64 (f : Int), .int .i64 (k : Int), .pointer (some ⟨E, 0, none⟩), .int .i64 x.1, u14, u15, u16, u17, u18, u19, u20, u21, u22, u23, u24, u25, u26, u27, u28, u29, u30, u31, u32, u33, u34, u35, u36, u37, u38, u39, u40, u41, u42, u43, u44, u45, u46, u47, u48, y49, y50, y51, y52, y53, y54, y55, y56, y57, y58, y59, y60, y61, u62, u63, u64, u65, u66, u67, u68, u69, u70, u71, u72, u73, u74, u75, u76, u77, u78, u79, u80, u81], defers := [] } w') :
    (Code.region 16 #[{ dst := some 50, op := Go.Op.load 25 (Go.Operand.tmp 2), type := 25, pos := "l06_list.go:142", after := #[], guard := none }, { dst := some 51, op := Go.Op.move (Go.Operand.tmp 1), type := 9, pos := "l06_list.go:142", after := #[], guard := none }, { dst := some 52, op := Go.Op.move (Go.Operand.tmp 10), type := 3, pos := "l06_list.go:142", after := #[], guard := none }, { dst := some 53, op := Go.Op.move (Go.Operand.tmp 11), type := 3, pos := "l06_list.go:142", after := #[], guard := none }, { dst := some 54, op := Go.Op.slice 9 (Go.Operand.tmp 51) (some (Go.Operand.tmp 52)) (some (Go.Operand.tmp 53)) none, type := 9, pos := "l06_list.go:142", after := #[{ on := 1, ground := Go.Ground.data }, { on := 2, ground := Go.Ground.data }, { on := 3, ground := Go.Ground.data }], guard := none }, { dst := some 55, op := Go.Op.move (Go.Operand.tmp 9), type := 2, pos := "l06_list.go:142", after := #[], guard := none }, { dst := some 56, op := Go.Op.binOp Go.BinOp.add 2 (Go.Operand.tmp 55) (Go.Operand.const (Go.Value.int Go.IntKind.i64 1)) 2, type := 2, pos := "l06_list.go:142", after := #[{ on := 5, ground := Go.Ground.data }], guard := none }, { dst := some 57, op := Go.Op.move (Go.Operand.tmp 7), type := 26, pos := "l06_list.go:142", after := #[], guard := none }, { dst := some 58, op := Go.Op.move (Go.Operand.tmp 8), type := 2, pos := "l06_list.go:142", after := #[], guard := none }, { dst := some 59, op := Go.Op.call { callee := Go.Callee.value (Go.Operand.func 33), args := #[Go.Operand.tmp 50, Go.Operand.tmp 54, Go.Operand.tmp 56, Go.Operand.tmp 57, Go.Operand.tmp 58], argTypes := #[25, 9, 2, 26, 2] }, type := 75, pos := "l06_list.go:142", after := #[{ on := 0, ground := Go.Ground.data }, { on := 4, ground := Go.Ground.data }, { on := 6, ground := Go.Ground.data }, { on := 7, ground := Go.Ground.data }, { on := 8, ground := Go.Ground.data }], guard := none }, { dst := some 49, op := Go.Op.move (Go.Operand.tmp 59), type := 75, pos := "l06_list.go:142", after := #[{ on := 9, ground := Go.Ground.data }], guard := none }, { dst := some 60, op := Go.Op.extract (Go.Operand.tmp 49) 0, type := 44, pos := "l06_list.go:142", after := #[{ on := 10, ground := Go.Ground.data }], guard := none }, { dst := some 61, op := Go.Op.extract (Go.Operand.tmp 49) 1, type := 2, pos := "l06_list.go:142", after := #[{ on := 10, ground := Go.Ground.data }, { on := 14, ground := Go.Ground.gcOnly Go.Departure.lateStores }], guard := none }, { dst := some 12, op := Go.Op.alloc 44, type := 0, pos := "l06_list.go:142", after := #[], guard := none }, { dst := none, op := Go.Op.store 44 (Go.Operand.tmp 12) (Go.Operand.tmp 60), type := 0, pos := "l06_list.go:142", after := #[{ on := 13, ground := Go.Ground.data }, { on := 11, ground := Go.Ground.data }, { on := 9, ground := Go.Ground.chain }, { on := 0, ground := Go.Ground.phase }, { on := 1, ground := Go.Ground.phase }, { on := 2, ground := Go.Ground.phase }, { on := 3, ground := Go.Ground.phase }, { on := 4, ground := Go.Ground.phase }, { on := 5, ground := Go.Ground.phase }, { on := 6, ground := Go.Ground.phase }, { on := 7, ground := Go.Ground.phase }, { on := 8, ground := Go.Ground.phase }, { on := 9, ground := Go.Ground.phase }, { on := 10, ground := Go.Ground.phase }, { on := 11, ground := Go.Ground.phase }, { on := 12, ground := Go.Ground.textOnly Go.Departure.lateStores }, { on := 13, ground := Go.Ground.phase }], guard := none }, { dst := some 13, op := Go.Op.assign (Go.Operand.tmp 61), type := 2, pos := "l06_list.go:142", after := #[{ on := 12, ground := Go.Ground.data }, { on := 14, ground := Go.Ground.chain }, { on := 0, ground := Go.Ground.phase }, { on := 1, ground := Go.Ground.phase }, { on := 2, ground := Go.Ground.phase }, { on := 3, ground := Go.Ground.phase }, { on := 4, ground := Go.Ground.phase }, { on := 5, ground := Go.Ground.phase }, { on := 6, ground := Go.Ground.phase }, { on := 7, ground := Go.Ground.phase }, { on := 8, ground := Go.Ground.phase }, { on := 9, ground := Go.Ground.phase }, { on := 10, ground := Go.Ground.phase }, { on := 11, ground := Go.Ground.phase }, { on := 12, ground := Go.Ground.phase }, { on := 13, ground := Go.Ground.phase }, { on := 14, ground := Go.Ground.phase }], guard := none }] true).wp Tryz.prog Q { tmps := #[u0, .string s, .pointer (some ⟨gr, 0, none⟩), u3, u4, u5, u6, .slice (some ⟨g, 0, none⟩) tr.length c, .int .i64 en, .int .i64 (tr.length : Int), .int .i64 (f : Int), .int .i64 (k : Int), u12, u13, u14, u15, u16, u17, u18, u19, u20, u21, u22, u23, u24, u25, u26, u27, u28, u29, u30, u31, u32, u33, u34, u35, u36, u37, u38, u39, u40, u41, u42, u43, u44, u45, u46, u47, u48, u49, u50, u51, u52, u53, u54, u55, u56, u57, u58, u59, u60, u61, u62, u63, u64, u65, u66, u67, u68, u69, u70, u71, u72, u73, u74, u75, u76, u77, u78, u79, u80, u81], defers := [] } v := by
  have i1 : (0 : Int) ≤ (f : Int) := by omega
  have i2 : (f : Int) ≤ (k : Int) := by omega
  have i3 : (k : Int) ≤ s.size := by omega
  have hsz : (s.extract f k).size ≤ 20000 := by rw [Lib.size_eq, ext_str rfl hfk]; simp; have := Lib.size_eq s; omega
  have wl : IntKind.i64.wrap ((tr.length : Int) + 1) = (tr.length : Int) + 1 := by rw [IntKind.wrap_i64]; omega
  refine wp_region_noPanic ?_
  refine wp_region_held_drew (S := fun w' => w'.cell? ⟨gr, 0, none⟩ = some (.int .i64 n) ∧ w'.cell? ⟨gr, 1, none⟩ = some (.int .i64 d) ∧ w'.cell? ⟨gr, 2, none⟩ = some (.bool dr)) (by kernel_rfl) ?_ (fun hH0 => ?_)
  · exact hR
  refine wpAnyH_take (i := 0) (oi := { dst := some 50, op := Go.Op.load 25 (Go.Operand.tmp 2), type := 25, pos := _, after := #[], guard := none }) (v := ?_) rfl (by kernel_rfl) (by kernel_rfl) (by kernel_rfl) (fun _ _ _ h => h) (Or.inl ⟨by rfl, ?_⟩) hH0 ?_
  rotate_left
  · (intro w hSw; (try dsimp only at hSw); go_simp <;> with_reducible rfl)
  (try simp only [Act.put, List.setIfInBounds_toArray, List.set_cons_zero, List.set_cons_succ])
  refine wpAnyH_take (i := 1) (oi := { dst := some 51, op := Go.Op.move (Go.Operand.tmp 1), type := 9, pos := _, after := #[], guard := none }) (v := ?_) rfl (by kernel_rfl) (by kernel_rfl) (by kernel_rfl) (fun _ _ _ h => h) (Or.inl ⟨by rfl, ?_⟩) hH0 ?_
  rotate_left
  · (intro w hSw; (try dsimp only at hSw); go_simp <;> with_reducible rfl)
  (try simp only [Act.put, List.setIfInBounds_toArray, List.set_cons_zero, List.set_cons_succ])
  refine wpAnyH_take (i := 2) (oi := { dst := some 52, op := Go.Op.move (Go.Operand.tmp 10), type := 3, pos := _, after := #[], guard := none }) (v := ?_) rfl (by kernel_rfl) (by kernel_rfl) (by kernel_rfl) (fun _ _ _ h => h) (Or.inl ⟨by rfl, ?_⟩) hH0 ?_
  rotate_left
  · (intro w hSw; (try dsimp only at hSw); go_simp <;> with_reducible rfl)
  (try simp only [Act.put, List.setIfInBounds_toArray, List.set_cons_zero, List.set_cons_succ])
  refine wpAnyH_take (i := 3) (oi := { dst := some 53, op := Go.Op.move (Go.Operand.tmp 11), type := 3, pos := _, after := #[], guard := none }) (v := ?_) rfl (by kernel_rfl) (by kernel_rfl) (by kernel_rfl) (fun _ _ _ h => h) (Or.inl ⟨by rfl, ?_⟩) hH0 ?_
  rotate_left
  · (intro w hSw; (try dsimp only at hSw); go_simp <;> with_reducible rfl)
  (try simp only [Act.put, List.setIfInBounds_toArray, List.set_cons_zero, List.set_cons_succ])
  refine wpAnyH_take (i := 4) (oi := { dst := some 54, op := Go.Op.slice 9 (Go.Operand.tmp 51) (some (Go.Operand.tmp 52)) (some (Go.Operand.tmp 53)) none, type := 9, pos := _, after := #[{ on := 1, ground := Go.Ground.data }, { on := 2, ground := Go.Ground.data }, { on := 3, ground := Go.Ground.data }], guard := none }) (v := ?_) rfl (by kernel_rfl) (by kernel_rfl) (by kernel_rfl) (fun _ _ _ h => h) (Or.inl ⟨by rfl, ?_⟩) hH0 ?_
  rotate_left
  · (intro w hSw; (try dsimp only at hSw); go_simp <;> with_reducible rfl)
  (try simp only [Act.put, List.setIfInBounds_toArray, List.set_cons_zero, List.set_cons_succ])
  refine wpAnyH_take (i := 5) (oi := { dst := some 55, op := Go.Op.move (Go.Operand.tmp 9), type := 2, pos := _, after := #[], guard := none }) (v := ?_) rfl (by kernel_rfl) (by kernel_rfl) (by kernel_rfl) (fun _ _ _ h => h) (Or.inl ⟨by rfl, ?_⟩) hH0 ?_
  rotate_left
  · (intro w hSw; (try dsimp only at hSw); go_simp <;> with_reducible rfl)
  (try simp only [Act.put, List.setIfInBounds_toArray, List.set_cons_zero, List.set_cons_succ])
  refine wpAnyH_take (i := 6) (oi := { dst := some 56, op := Go.Op.binOp Go.BinOp.add 2 (Go.Operand.tmp 55) (Go.Operand.const (Go.Value.int Go.IntKind.i64 1)) 2, type := 2, pos := _, after := #[{ on := 5, ground := Go.Ground.data }], guard := none }) (v := ?_) rfl (by kernel_rfl) (by kernel_rfl) (by kernel_rfl) (fun _ _ _ h => h) (Or.inl ⟨by rfl, ?_⟩) hH0 ?_
  rotate_left
  · (intro w hSw; (try dsimp only at hSw); go_simp <;> with_reducible rfl)
  (try simp only [Act.put, List.setIfInBounds_toArray, List.set_cons_zero, List.set_cons_succ])
  refine wpAnyH_take (i := 7) (oi := { dst := some 57, op := Go.Op.move (Go.Operand.tmp 7), type := 26, pos := _, after := #[], guard := none }) (v := ?_) rfl (by kernel_rfl) (by kernel_rfl) (by kernel_rfl) (fun _ _ _ h => h) (Or.inl ⟨by rfl, ?_⟩) hH0 ?_
  rotate_left
  · (intro w hSw; (try dsimp only at hSw); go_simp <;> with_reducible rfl)
  (try simp only [Act.put, List.setIfInBounds_toArray, List.set_cons_zero, List.set_cons_succ])
  refine wpAnyH_take (i := 8) (oi := { dst := some 58, op := Go.Op.move (Go.Operand.tmp 8), type := 2, pos := _, after := #[], guard := none }) (v := ?_) rfl (by kernel_rfl) (by kernel_rfl) (by kernel_rfl) (fun _ _ _ h => h) (Or.inl ⟨by rfl, ?_⟩) hH0 ?_
  rotate_left
  · (intro w hSw; (try dsimp only at hSw); go_simp <;> with_reducible rfl)
  (try simp only [Act.put, List.setIfInBounds_toArray, List.set_cons_zero, List.set_cons_succ])
  refine wpAnyH_ready (rs := [9, 13]) (by kernel_rfl) (by simp) ?_
  refine AllReadyH.cons (o := { dst := some 59, op := Go.Op.call { callee := Go.Callee.value (Go.Operand.func 33), args := #[Go.Operand.tmp 50, Go.Operand.tmp 54, Go.Operand.tmp 56, Go.Operand.tmp 57, Go.Operand.tmp 58], argTypes := #[25, 9, 2, 26, 2] }, type := 75, pos := _, after := #[{ on := 0, ground := Go.Ground.data }, { on := 4, ground := Go.Ground.data }, { on := 6, ground := Go.Ground.data }, { on := 7, ground := Go.Ground.data }, { on := 8, ground := Go.Ground.data }], guard := none }) rfl (fun K9 hK9 => ?_) ?_
  · go_simp
    go_at_call 33
    refine (sline_any n d dr (s.extract f k) g 0 c tr en x _ hsz hT (hK.below (Below.refl _ _).drew) hx).mono ?_
    rintro e w1 ⟨rfl, hb1⟩
    (try simp only [])
    refine hK9.out _ _ ?_ (fun hH1 => ?_)
    · exact ⟨cell_later hb1 hH0.1, cell_later hb1 hH0.2.1, cell_later hb1 hH0.2.2⟩
    clear hK9 K9
    (try simp only [Act.put, List.setIfInBounds_toArray, List.set_cons_zero, List.set_cons_succ])
    refine wpAnyH_take (i := 10) (oi := { dst := some 49, op := Go.Op.move (Go.Operand.tmp 59), type := 75, pos := _, after := #[{ on := 9, ground := Go.Ground.data }], guard := none }) (v := ?_) rfl (by kernel_rfl) (by kernel_rfl) (by kernel_rfl) (fun _ _ _ h => h) (Or.inl ⟨by rfl, ?_⟩) hH1 ?_
    rotate_left
    · (intro w hSw; (try dsimp only at hSw); go_simp <;> with_reducible rfl)
    (try simp only [Act.put, List.setIfInBounds_toArray, List.set_cons_zero, List.set_cons_succ])
    refine wpAnyH_take (i := 11) (oi := { dst := some 60, op := Go.Op.extract (Go.Operand.tmp 49) 0, type := 44, pos := _, after := #[{ on := 10, ground := Go.Ground.data }], guard := none }) (v := ?_) rfl (by kernel_rfl) (by kernel_rfl) (by kernel_rfl) (fun _ _ _ h => h) (Or.inl ⟨by rfl, ?_⟩) hH1 ?_
    rotate_left
    · (intro w hSw; (try dsimp only at hSw); go_simp <;> with_reducible rfl)
    (try simp only [Act.put, List.setIfInBounds_toArray, List.set_cons_zero, List.set_cons_succ])
    refine wpAnyH_take (i := 12) (oi := { dst := some 61, op := Go.Op.extract (Go.Operand.tmp 49) 1, type := 2, pos := _, after := #[{ on := 10, ground := Go.Ground.data }, { on := 14, ground := Go.Ground.gcOnly Go.Departure.lateStores }], guard := none }) (v := ?_) rfl (by kernel_rfl) (by kernel_rfl) (by kernel_rfl) (fun _ _ _ h => h) (Or.inl ⟨by rfl, ?_⟩) hH1 ?_
    rotate_left
    · (intro w hSw; (try dsimp only at hSw); go_simp <;> with_reducible rfl)
    (try simp only [Act.put, List.setIfInBounds_toArray, List.set_cons_zero, List.set_cons_succ])
    refine wpAnyH_ready (rs := [13]) (by kernel_rfl) (by simp) ?_
    refine AllReadyH.cons (o := { dst := some 12, op := Go.Op.alloc 44, type := 0, pos := _, after := #[], guard := none }) rfl (fun K9 hK9 => ?_) AllReadyH.nil
    go_simp
    refine hK9.out _ _ ?_ (fun hH2 => ?_)
    · exact ⟨cell_later ((Below.refl _ _).alloc (Nat.le_refl _) _) hH1.1, cell_later ((Below.refl _ _).alloc (Nat.le_refl _) _) hH1.2.1, cell_later ((Below.refl _ _).alloc (Nat.le_refl _) _) hH1.2.2⟩
    clear hK9 K9
    (try simp only [Act.put, List.setIfInBounds_toArray, List.set_cons_zero, List.set_cons_succ])
    refine wpAnyH_ready (rs := [14]) (by kernel_rfl) (by simp) ?_
    refine AllReadyH.cons (o := { dst := none, op := Go.Op.store 44 (Go.Operand.tmp 12) (Go.Operand.tmp 60), type := 0, pos := _, after := #[{ on := 13, ground := Go.Ground.data }, { on := 11, ground := Go.Ground.data }, { on := 9, ground := Go.Ground.chain }, { on := 0, ground := Go.Ground.phase }, { on := 1, ground := Go.Ground.phase }, { on := 2, ground := Go.Ground.phase }, { on := 3, ground := Go.Ground.phase }, { on := 4, ground := Go.Ground.phase }, { on := 5, ground := Go.Ground.phase }, { on := 6, ground := Go.Ground.phase }, { on := 7, ground := Go.Ground.phase }, { on := 8, ground := Go.Ground.phase }, { on := 9, ground := Go.Ground.phase }, { on := 10, ground := Go.Ground.phase }, { on := 11, ground := Go.Ground.phase }, { on := 12, ground := Go.Ground.textOnly Go.Departure.lateStores }, { on := 13, ground := Go.Ground.phase }], guard := none }) rfl (fun K9 hK9 => ?_) AllReadyH.nil
    go_simp
    refine hK9.out _ _ ?_ (fun hH3 => ?_)
    · exact ⟨cell_later ((Below.refl _ _).alloc (Nat.le_refl _) _) hH1.1, cell_later ((Below.refl _ _).alloc (Nat.le_refl _) _) hH1.2.1, cell_later ((Below.refl _ _).alloc (Nat.le_refl _) _) hH1.2.2⟩
    clear hK9 K9
    (try simp only [Act.put, List.setIfInBounds_toArray, List.set_cons_zero, List.set_cons_succ])
    refine wpAnyH_take (i := 15) (oi := { dst := some 13, op := Go.Op.assign (Go.Operand.tmp 61), type := 2, pos := _, after := #[{ on := 12, ground := Go.Ground.data }, { on := 14, ground := Go.Ground.chain }, { on := 0, ground := Go.Ground.phase }, { on := 1, ground := Go.Ground.phase }, { on := 2, ground := Go.Ground.phase }, { on := 3, ground := Go.Ground.phase }, { on := 4, ground := Go.Ground.phase }, { on := 5, ground := Go.Ground.phase }, { on := 6, ground := Go.Ground.phase }, { on := 7, ground := Go.Ground.phase }, { on := 8, ground := Go.Ground.phase }, { on := 9, ground := Go.Ground.phase }, { on := 10, ground := Go.Ground.phase }, { on := 11, ground := Go.Ground.phase }, { on := 12, ground := Go.Ground.phase }, { on := 13, ground := Go.Ground.phase }, { on := 14, ground := Go.Ground.phase }], guard := none }) (v := ?_) rfl (by kernel_rfl) (by kernel_rfl) (by kernel_rfl) (fun _ _ _ h => h) (Or.inl ⟨by rfl, ?_⟩) hH3 ?_
    rotate_left
    · (intro w hSw; (try dsimp only at hSw); go_simp <;> with_reducible rfl)
    (try simp only [Act.put, List.setIfInBounds_toArray, List.set_cons_zero, List.set_cons_succ])
    refine wpAnyH_done (by kernel_rfl) ?_ _
    refine NoPanic.normal ?_
    obtain ⟨z0, z1, z2, _, _, _⟩ := al3c w1 44 (.int .i64 x.2.1) (.int .i64 x.2.2.1) (.int .i64 x.2.2.2)
    exact hQ _ _ _ _ _ _ _ _ _ _ _ _ _ w1.heap.size _ (((Below.refl v.heap.size v).drew.trans (hb1.mono (Nat.le_refl _))).alloc hb1.size _) hb1.size ⟨z0, z1, z2⟩
  refine AllReadyH.cons (o := { dst := some 12, op := Go.Op.alloc 44, type := 0, pos := _, after := #[], guard := none }) rfl (fun K9 hK9 => ?_) AllReadyH.nil
  go_simp
  have hA : Below v.drew.heap.size v.drew (v.drew.alloc (.cells #[.int .i64 0, .int .i64 0, .int .i64 0] 44)) := (Below.refl _ _).alloc (Nat.le_refl _) _
  have hA2 : Below v.heap.size v (v.drew.alloc (.cells #[.int .i64 0, .int .i64 0, .int .i64 0] 44)) := (Below.refl v.heap.size v).drew.trans (hA.mono (Nat.le_refl _))
  refine hK9.out _ _ ?_ (fun hH1 => ?_)
  · exact ⟨cell_later hA hH0.1, cell_later hA hH0.2.1, cell_later hA hH0.2.2⟩
  clear hK9 K9
  (try simp only [Act.put, List.setIfInBounds_toArray, List.set_cons_zero, List.set_cons_succ])
  refine wpAnyH_ready (rs := [9]) (by kernel_rfl) (by simp) ?_
  refine AllReadyH.cons (o := { dst := some 59, op := Go.Op.call { callee := Go.Callee.value (Go.Operand.func 33), args := #[Go.Operand.tmp 50, Go.Operand.tmp 54, Go.Operand.tmp 56, Go.Operand.tmp 57, Go.Operand.tmp 58], argTypes := #[25, 9, 2, 26, 2] }, type := 75, pos := _, after := #[{ on := 0, ground := Go.Ground.data }, { on := 4, ground := Go.Ground.data }, { on := 6, ground := Go.Ground.data }, { on := 7, ground := Go.Ground.data }, { on := 8, ground := Go.Ground.data }], guard := none }) rfl (fun K9 hK9 => ?_) AllReadyH.nil
  go_simp
  go_at_call 33
  refine (sline_any n d dr (s.extract f k) g 0 c tr en x _ hsz hT (hK.below hA2) hx).mono ?_
  rintro e w1 ⟨rfl, hb1⟩
  (try simp only [])
  refine hK9.out _ _ ?_ (fun hH2 => ?_)
  · exact ⟨cell_later hb1 hH1.1, cell_later hb1 hH1.2.1, cell_later hb1 hH1.2.2⟩
  clear hK9 K9
  (try simp only [Act.put, List.setIfInBounds_toArray, List.set_cons_zero, List.set_cons_succ])
  refine wpAnyH_take (i := 10) (oi := { dst := some 49, op := Go.Op.move (Go.Operand.tmp 59), type := 75, pos := _, after := #[{ on := 9, ground := Go.Ground.data }], guard := none }) (v := ?_) rfl (by kernel_rfl) (by kernel_rfl) (by kernel_rfl) (fun _ _ _ h => h) (Or.inl ⟨by rfl, ?_⟩) hH2 ?_
  rotate_left
  · (intro w hSw; (try dsimp only at hSw); go_simp <;> with_reducible rfl)
  (try simp only [Act.put, List.setIfInBounds_toArray, List.set_cons_zero, List.set_cons_succ])
  refine wpAnyH_take (i := 11) (oi := { dst := some 60, op := Go.Op.extract (Go.Operand.tmp 49) 0, type := 44, pos := _, after := #[{ on := 10, ground := Go.Ground.data }], guard := none }) (v := ?_) rfl (by kernel_rfl) (by kernel_rfl) (by kernel_rfl) (fun _ _ _ h => h) (Or.inl ⟨by rfl, ?_⟩) hH2 ?_
  rotate_left
  · (intro w hSw; (try dsimp only at hSw); go_simp <;> with_reducible rfl)
  (try simp only [Act.put, List.setIfInBounds_toArray, List.set_cons_zero, List.set_cons_succ])
  refine wpAnyH_take (i := 12) (oi := { dst := some 61, op := Go.Op.extract (Go.Operand.tmp 49) 1, type := 2, pos := _, after := #[{ on := 10, ground := Go.Ground.data }, { on := 14, ground := Go.Ground.gcOnly Go.Departure.lateStores }], guard := none }) (v := ?_) rfl (by kernel_rfl) (by kernel_rfl) (by kernel_rfl) (fun _ _ _ h => h) (Or.inl ⟨by rfl, ?_⟩) hH2 ?_
  rotate_left
  · (intro w hSw; (try dsimp only at hSw); go_simp <;> with_reducible rfl)
  (try simp only [Act.put, List.setIfInBounds_toArray, List.set_cons_zero, List.set_cons_succ])
  refine wpAnyH_ready (rs := [14]) (by kernel_rfl) (by simp) ?_
  refine AllReadyH.cons (o := { dst := none, op := Go.Op.store 44 (Go.Operand.tmp 12) (Go.Operand.tmp 60), type := 0, pos := _, after := #[{ on := 13, ground := Go.Ground.data }, { on := 11, ground := Go.Ground.data }, { on := 9, ground := Go.Ground.chain }, { on := 0, ground := Go.Ground.phase }, { on := 1, ground := Go.Ground.phase }, { on := 2, ground := Go.Ground.phase }, { on := 3, ground := Go.Ground.phase }, { on := 4, ground := Go.Ground.phase }, { on := 5, ground := Go.Ground.phase }, { on := 6, ground := Go.Ground.phase }, { on := 7, ground := Go.Ground.phase }, { on := 8, ground := Go.Ground.phase }, { on := 9, ground := Go.Ground.phase }, { on := 10, ground := Go.Ground.phase }, { on := 11, ground := Go.Ground.phase }, { on := 12, ground := Go.Ground.textOnly Go.Departure.lateStores }, { on := 13, ground := Go.Ground.phase }], guard := none }) rfl (fun K9 hK9 => ?_) AllReadyH.nil
  obtain ⟨z0, z1, z2, f0, f1, f2⟩ := al3c v.drew 44 (.int .i64 0) (.int .i64 0) (.int .i64 0)
  have zl : v.drew.heap.size < (v.drew.alloc (.cells #[.int .i64 0, .int .i64 0, .int .i64 0] 44)).heap.size := by simp
  have y0 : w1.cell? ⟨v.heap.size, 0, none⟩ = some (.int .i64 0) := cell_later hb1 z0
  have y1 : w1.cell? ⟨v.heap.size, 1, none⟩ = some (.int .i64 0) := cell_later hb1 z1
  have y2 : w1.cell? ⟨v.heap.size, 2, none⟩ = some (.int .i64 0) := cell_later hb1 z2
  have e0 : w1.frozen? ⟨v.heap.size, 0, none⟩ = false := ((bcell hb1).2 _ _ zl).trans f0
  have e1 : w1.frozen? ⟨v.heap.size, 1, none⟩ = false := ((bcell hb1).2 _ _ zl).trans f1
  have e2 : w1.frozen? ⟨v.heap.size, 2, none⟩ = false := ((bcell hb1).2 _ _ zl).trans f2
  have hgr : gr ≠ v.heap.size := by have := World.block_lt_of_cell? _ _ hR.1; simp only at this; omega
  have RR : ∀ (p : Nat) (u1 u2 u3 : Value), (((w1.setCell ⟨v.heap.size, 0, none⟩ u1).setCell ⟨v.heap.size, 1, none⟩ u2).setCell ⟨v.heap.size, 2, none⟩ u3).cell? ⟨gr, p, none⟩ = w1.cell? ⟨gr, p, none⟩ := fun p u1 u2 u3 => by
    have hne : ∀ i j : Nat, (⟨v.heap.size, i, none⟩ : Addr) ≠ ⟨gr, j, none⟩ := fun i j e => by injection e with e1 _ _; exact hgr e1.symm
    rw [World.cell?_setCell_other _ _ _ _ (hne _ _), World.cell?_setCell_other _ _ _ _ (hne _ _), World.cell?_setCell_other _ _ _ _ (hne _ _)]
  go_simp
  refine hK9.out _ _ ?_ (fun hH3 => ?_)
  · exact ⟨(RR _ _ _ _).trans hH2.1, (RR _ _ _ _).trans hH2.2.1, (RR _ _ _ _).trans hH2.2.2⟩
  clear hK9 K9
  (try simp only [Act.put, List.setIfInBounds_toArray, List.set_cons_zero, List.set_cons_succ])
  refine wpAnyH_take (i := 15) (oi := { dst := some 13, op := Go.Op.assign (Go.Operand.tmp 61), type := 2, pos := _, after := #[{ on := 12, ground := Go.Ground.data }, { on := 14, ground := Go.Ground.chain }, { on := 0, ground := Go.Ground.phase }, { on := 1, ground := Go.Ground.phase }, { on := 2, ground := Go.Ground.phase }, { on := 3, ground := Go.Ground.phase }, { on := 4, ground := Go.Ground.phase }, { on := 5, ground := Go.Ground.phase }, { on := 6, ground := Go.Ground.phase }, { on := 7, ground := Go.Ground.phase }, { on := 8, ground := Go.Ground.phase }, { on := 9, ground := Go.Ground.phase }, { on := 10, ground := Go.Ground.phase }, { on := 11, ground := Go.Ground.phase }, { on := 12, ground := Go.Ground.phase }, { on := 13, ground := Go.Ground.phase }, { on := 14, ground := Go.Ground.phase }], guard := none }) (v := ?_) rfl (by kernel_rfl) (by kernel_rfl) (by kernel_rfl) (fun _ _ _ h => h) (Or.inl ⟨by rfl, ?_⟩) hH3 ?_
  rotate_left
  · (intro w hSw; (try dsimp only at hSw); go_simp <;> with_reducible rfl)
  (try simp only [Act.put, List.setIfInBounds_toArray, List.set_cons_zero, List.set_cons_succ])
  refine wpAnyH_done (by kernel_rfl) ?_ _
  refine NoPanic.normal ?_
  have hbv : Below v.heap.size v w1 := hA2.trans (hb1.mono (by simp))
  exact hQ _ _ _ _ _ _ _ _ _ _ _ _ _ v.heap.size _ (((hbv.setCell (Nat.le_refl _) _).setCell (Nat.le_refl _) _).setCell (Nat.le_refl _) _) (Nat.le_refl _) (set3c y0 y1 y2)
end Go.Proofs.YtfhbmfndjbdhcaaGreatDoor
