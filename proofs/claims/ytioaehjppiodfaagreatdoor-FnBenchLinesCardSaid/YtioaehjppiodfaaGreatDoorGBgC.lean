/-
  A round of the program's count of frames alike: the region that holds a piece against what the clip shows there.
-/
import Derived.Test.YtioaehjppiodfaaGreatDoorGBgP
import Derived.Test.YtioaehjppiodfaaGreatDoorGIApL
import Derived.Laws.StructEq
namespace Go.Proofs.YtioaehjppiodfaaGreatDoor
open Go.RowKit Go.Shelf
set_option linter.unusedVariables false
set_option linter.unusedSimpArgs false

set_option maxRecDepth 100000 in
set_option maxHeartbeats 4000000 in
theorem bg_cmp {Q : Exit → Act → World → Prop} {l1 m : Nat} {u0 u1 u2 u3 u4 u5 u6 u10 u11 u12 u13 u14 u15 u16 u17 u18 u19 u20 u21 u22 u23 u24 u25 u26 u27 u28 u29 u30 u31 u32 u33 u34 u35 u36 u37 : Value} {W : World} {Px Cx : Nat} {p1 p2 p3 c1 c2 c3 fr vv : Int} {v : Bool} (hQo : ∀ a w, ¬ Q .outgrown a w) (hQp : ∀ c a a' w, Q (.panic c) a w → Q (.panic c) a' w)
    (hP : W.heap[Px]? = some (.cells #[.int .i64 p1, .int .i64 p2, .int .i64 p3] 94 (0, 0))) (hC : W.heap[Cx]? = some (.cells #[.int .i64 c1, .int .i64 c2, .int .i64 c3] 94 (0, 0))) (hvv : (if c1 = 0 then 0 else c2 + fr) = vv) (hv : (!(p1 == c1 && (p2 == vv && p3 == p3))) = v)
    (b1 : 0 ≤ c2 ∧ c2 ≤ 10000000) (b2 : 0 ≤ fr) (b3 : 0 ≤ p3) (b4 : fr + p3 ≤ 10000000)
    (hQ : ∀ w5, Below W.heap.size W w5 → Q .normal { tmps := #[u0, u1, u2, u3, u4, u5, u6, .pointer (some ⟨Cx, 0, none⟩), .int .i64 fr, .pointer (some ⟨Px, 0, none⟩), u10, u11, u12, u13, u14, u15, u16, u17, u18, u19, u20, u21, u22, u23, .agg #[.int .i64 p1, .int .i64 p2, .int .i64 p3], .agg #[.int .i64 c1, .int .i64 c2, .int .i64 c3], .int .i64 fr, .int .i64 fr, .pointer (some ⟨Px, 2, none⟩), .int .i64 p3, .int .i64 (fr + p3), .agg #[.int .i64 c1, .int .i64 vv, .int .i64 p3], .bool v, u33, u34, u35, u36, u37], defers := [] } w5) :
    (Code.region 8 #[{ dst := some 24, op := Go.Op.load 94 (Go.Operand.tmp 9), type := 94, pos := "l05_change.go:178", after := #[], guard := none }, { dst := some 25, op := Go.Op.load 94 (Go.Operand.tmp 7), type := 94, pos := "l05_change.go:178", after := #[], guard := none }, { dst := some 26, op := Go.Op.move (Go.Operand.tmp 8), type := 2, pos := "l05_change.go:178", after := #[], guard := none }, { dst := some 27, op := Go.Op.move (Go.Operand.tmp 8), type := 2, pos := "l05_change.go:178", after := #[], guard := none }, { dst := some 28, op := Go.Op.fieldAddr 94 (Go.Operand.tmp 9) 2, type := 0, pos := "l05_change.go:178", after := #[], guard := none }, { dst := some 29, op := Go.Op.load 2 (Go.Operand.tmp 28), type := 2, pos := "l05_change.go:178", after := #[{ on := 4, ground := Go.Ground.data }], guard := none }, { dst := some 30, op := Go.Op.binOp Go.BinOp.add 2 (Go.Operand.tmp 27) (Go.Operand.tmp 29) 2, type := 2, pos := "l05_change.go:178", after := #[{ on := 3, ground := Go.Ground.data }, { on := 5, ground := Go.Ground.data }], guard := none }, { dst := some 31, op := Go.Op.call { callee := Go.Callee.value (Go.Operand.func 133), args := #[Go.Operand.tmp 25, Go.Operand.tmp 26, Go.Operand.tmp 30], argTypes := #[94, 2, 2] }, type := 94, pos := "l05_change.go:178", after := #[{ on := 1, ground := Go.Ground.data }, { on := 2, ground := Go.Ground.data }, { on := 6, ground := Go.Ground.data }], guard := none }, { dst := some 32, op := Go.Op.binOp Go.BinOp.neq 94 (Go.Operand.tmp 24) (Go.Operand.tmp 31) 94, type := 4, pos := "l05_change.go:178", after := #[{ on := 0, ground := Go.Ground.data }, { on := 7, ground := Go.Ground.data }], guard := none }] true).wpIn (Fence.wide.inRound l1) m Tryz.prog Q { tmps := #[u0, u1, u2, u3, u4, u5, u6, .pointer (some ⟨Cx, 0, none⟩), .int .i64 fr, .pointer (some ⟨Px, 0, none⟩), u10, u11, u12, u13, u14, u15, u16, u17, u18, u19, u20, u21, u22, u23, u24, u25, u26, u27, u28, u29, u30, u31, u32, u33, u34, u35, u36, u37], defers := [] } W := by
  obtain ⟨a0, a1, a2⟩ := blk3' hP
  obtain ⟨d0, d1, d2⟩ := blk3' hC
  have hwr : IntKind.i64.wrap (fr + p3) = fr + p3 := by rw [IntKind.wrap_i64]; omega
  have e9 : fr + p3 - fr = p3 := by omega
  have hvv' := hide hvv
  clear hvv hP hC
  refine wpIn_region_heldR (S := fun w' => w'.cell? ⟨Px, 0, none⟩ = some (.int .i64 p1) ∧ w'.cell? ⟨Px, 1, none⟩ = some (.int .i64 p2) ∧ w'.cell? ⟨Px, 2, none⟩ = some (.int .i64 p3) ∧ w'.cell? ⟨Cx, 0, none⟩ = some (.int .i64 c1) ∧ w'.cell? ⟨Cx, 1, none⟩ = some (.int .i64 c2) ∧ w'.cell? ⟨Cx, 2, none⟩ = some (.int .i64 c3)) (by kernel_rfl) (by kernel_rfl) hQo ?_ (fun hH0 => ?_)
  · exact ⟨a0, a1, a2, d0, d1, d2⟩
  refine wpAnyH_take (i := 0) (oi := { dst := some 24, op := Go.Op.load 94 (Go.Operand.tmp 9), type := 94, pos := _, after := #[], guard := none }) (v := ?_) rfl (by kernel_rfl) (by kernel_rfl) (by kernel_rfl) (fun _ _ _ h => hQp _ _ _ _ h) (Or.inl ⟨by rfl, ?_⟩) hH0 ?_
  rotate_left
  · (intro w hSw; (try dsimp only at hSw); go_simp <;> with_reducible rfl)
  (try simp only [Act.put, List.setIfInBounds_toArray, List.set_cons_zero, List.set_cons_succ])
  refine wpAnyH_take (i := 1) (oi := { dst := some 25, op := Go.Op.load 94 (Go.Operand.tmp 7), type := 94, pos := _, after := #[], guard := none }) (v := ?_) rfl (by kernel_rfl) (by kernel_rfl) (by kernel_rfl) (fun _ _ _ h => hQp _ _ _ _ h) (Or.inl ⟨by rfl, ?_⟩) hH0 ?_
  rotate_left
  · (intro w hSw; (try dsimp only at hSw); go_simp <;> with_reducible rfl)
  (try simp only [Act.put, List.setIfInBounds_toArray, List.set_cons_zero, List.set_cons_succ])
  refine wpAnyH_take (i := 2) (oi := { dst := some 26, op := Go.Op.move (Go.Operand.tmp 8), type := 2, pos := _, after := #[], guard := none }) (v := ?_) rfl (by kernel_rfl) (by kernel_rfl) (by kernel_rfl) (fun _ _ _ h => hQp _ _ _ _ h) (Or.inl ⟨by rfl, ?_⟩) hH0 ?_
  rotate_left
  · (intro w hSw; (try dsimp only at hSw); go_simp <;> with_reducible rfl)
  (try simp only [Act.put, List.setIfInBounds_toArray, List.set_cons_zero, List.set_cons_succ])
  refine wpAnyH_take (i := 3) (oi := { dst := some 27, op := Go.Op.move (Go.Operand.tmp 8), type := 2, pos := _, after := #[], guard := none }) (v := ?_) rfl (by kernel_rfl) (by kernel_rfl) (by kernel_rfl) (fun _ _ _ h => hQp _ _ _ _ h) (Or.inl ⟨by rfl, ?_⟩) hH0 ?_
  rotate_left
  · (intro w hSw; (try dsimp only at hSw); go_simp <;> with_reducible rfl)
  (try simp only [Act.put, List.setIfInBounds_toArray, List.set_cons_zero, List.set_cons_succ])
  refine wpAnyH_take (i := 4) (oi := { dst := some 28, op := Go.Op.fieldAddr 94 (Go.Operand.tmp 9) 2, type := 0, pos := _, after := #[], guard := none }) (v := ?_) rfl (by kernel_rfl) (by kernel_rfl) (by kernel_rfl) (fun _ _ _ h => hQp _ _ _ _ h) (Or.inl ⟨by rfl, ?_⟩) hH0 ?_
  rotate_left
  · (intro w hSw; (try dsimp only at hSw); go_simp <;> with_reducible rfl)
  (try simp only [Act.put, List.setIfInBounds_toArray, List.set_cons_zero, List.set_cons_succ])
  refine wpAnyH_take (i := 5) (oi := { dst := some 29, op := Go.Op.load 2 (Go.Operand.tmp 28), type := 2, pos := _, after := #[{ on := 4, ground := Go.Ground.data }], guard := none }) (v := ?_) rfl (by kernel_rfl) (by kernel_rfl) (by kernel_rfl) (fun _ _ _ h => hQp _ _ _ _ h) (Or.inl ⟨by rfl, ?_⟩) hH0 ?_
  rotate_left
  · (intro w hSw; (try dsimp only at hSw); go_simp <;> with_reducible rfl)
  (try simp only [Act.put, List.setIfInBounds_toArray, List.set_cons_zero, List.set_cons_succ])
  refine wpAnyH_take (i := 6) (oi := { dst := some 30, op := Go.Op.binOp Go.BinOp.add 2 (Go.Operand.tmp 27) (Go.Operand.tmp 29) 2, type := 2, pos := _, after := #[{ on := 3, ground := Go.Ground.data }, { on := 5, ground := Go.Ground.data }], guard := none }) (v := ?_) rfl (by kernel_rfl) (by kernel_rfl) (by kernel_rfl) (fun _ _ _ h => hQp _ _ _ _ h) (Or.inl ⟨by rfl, ?_⟩) hH0 ?_
  rotate_left
  · (intro w hSw; (try dsimp only at hSw); go_simp <;> with_reducible rfl)
  (try simp only [Act.put, List.setIfInBounds_toArray, List.set_cons_zero, List.set_cons_succ])
  refine wpAnyH_ready (rs := [7]) (by kernel_rfl) (by simp) ?_
  refine AllReadyH.cons (o := { dst := some 31, op := Go.Op.call { callee := Go.Callee.value (Go.Operand.func 133), args := #[Go.Operand.tmp 25, Go.Operand.tmp 26, Go.Operand.tmp 30], argTypes := #[94, 2, 2] }, type := 94, pos := _, after := #[{ on := 1, ground := Go.Ground.data }, { on := 2, ground := Go.Ground.data }, { on := 6, ground := Go.Ground.data }], guard := none }) rfl (fun K hK => ?_) AllReadyH.nil
  go_simp
  refine (partOf_any c1 c2 c3 fr (fr + p3) vv _ (unhide hvv') ⟨by omega, by omega⟩ ⟨by omega, by omega⟩ ⟨by omega, by omega⟩).mono ?_
  rintro e w3 ⟨rfl, k3⟩
  rw [e9]
  refine hK.out _ _ ?_ (fun hH1 => ?_)
  · exact ⟨cell_later k3 hH0.1, cell_later k3 hH0.2.1, cell_later k3 hH0.2.2.1, cell_later k3 hH0.2.2.2.1, cell_later k3 hH0.2.2.2.2.1, cell_later k3 hH0.2.2.2.2.2⟩
  clear hK K
  (try simp only [Act.put, List.setIfInBounds_toArray, List.set_cons_zero, List.set_cons_succ])
  refine wpAnyH_take (i := 8) (oi := { dst := some 32, op := Go.Op.binOp Go.BinOp.neq 94 (Go.Operand.tmp 24) (Go.Operand.tmp 31) 94, type := 4, pos := _, after := #[{ on := 0, ground := Go.Ground.data }, { on := 7, ground := Go.Ground.data }], guard := none }) (v := .bool v) rfl (by kernel_rfl) (by kernel_rfl) (by kernel_rfl) (fun _ _ _ h => hQp _ _ _ _ h) (Or.inl ⟨by rfl, ?_⟩) hH1 ?_
  · (intro w hSw; (try dsimp only at hSw); rw [← hv]; go_simp; by_cases h1 : p1 = c1 <;> by_cases h2 : p2 = vv <;> simp [h1, h2])
  (try simp only [Act.put, List.setIfInBounds_toArray, List.set_cons_zero, List.set_cons_succ])
  refine wpAnyH_done (by kernel_rfl) ?_ _
  exact hQ _ (below_undrew k3)

end Go.Proofs.YtioaehjppiodfaaGreatDoor
