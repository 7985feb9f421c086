/-
  The two regions in which the program's Cube puts a node's numbers times a weight into its sums; no conditions.
-/
import Derived.Test.YtdmcbdogpeidjaaTri2
namespace Go.Proofs.Ytdmcbdogpeidjaa
open Go.RowKit
set_option linter.unusedVariables false
set_option linter.unusedSimpArgs false

set_option maxRecDepth 100000 in
set_option maxHeartbeats 2000000 in
theorem reg8 {Q : Exit → Act → World → Prop} {u2 u3 u4 u5 u6 u7 u8 u14 u15 u16 u17 u18 u19 u20 u21 u22 u23 u24 u25 u26 u27 u28 u29 u30 u31 u32 u33 u34 u35 u36 u37 u38 u39 u40 u41 u42 u43 u44 u45 u46 u47 u48 u49 u50 u51 u52 u53 u54 u55 u56 u57 u58 u59 u60 u61 u62 u63 u64 u65 u66 u67 u68 u69 u70 u71 u72 u73 u74 u75 u76 u77 u78 u79 u80 u81 u82 u83 : Value} (v : World) (n : Int) (b o len tc gr gu gc K d : Nat) (dI i j k lf x s0 s1 s2 c0 c1 c2 : Int) (hn : 0 ≤ n ∧ n ≤ 100) (hi : 0 ≤ i ∧ i ≤ 100) (hj : 0 ≤ j ∧ j ≤ 100) (hk : 0 ≤ k ∧ k ≤ 100) (hpl : (i * n + j) * n + k = (K : Int)) (hK : K < len) (hlen : len ≤ 1000000) (hl1 : 0 ≤ lf) (hl2 : lf ≤ 65535) (hx1 : 0 ≤ x) (hx2 : x ≤ lf) (hd : d < 3) (hdI : dI = (d : Int)) (hcr : v.cell? ⟨gr, d, none⟩ = some (.int .i64 x)) (hs0 : 0 ≤ s0 ∧ s0 ≤ 1000000000000) (hs1 : 0 ≤ s1 ∧ s1 ≤ 1000000000000) (hs2 : 0 ≤ s2 ∧ s2 ≤ 1000000000000) (hco : CoOk (c0, c1, c2))
    (hU : Bx v gu s0 s1 s2) (hC : Bx v gc i j k) (hc0 : v.cell? ⟨b, o + K * 3, none⟩ = some (.int .i64 c0)) (hc1 : v.cell? ⟨b, o + K * 3 + 1, none⟩ = some (.int .i64 c1)) (hc2 : v.cell? ⟨b, o + K * 3 + 2, none⟩ = some (.int .i64 c2)) (hne1 : gc ≠ gu) (hne2 : b ≠ gu) (hne3 : gr ≠ gu) 
    (hQ : ∀ (y40 y41 y42 y43 y44 y45 y46 y47 y48 y49 y50 y51 y52 : Value) (v1 : World), Below v.heap.size v v1 → Q .normal { tmps := #[.int .i64 n, .slice (some ⟨b, o, none⟩) len tc, u2, u3, u4, u5, u6, u7, u8, .pointer (some ⟨gr, 0, none⟩), .pointer (some ⟨gu, 0, none⟩), .int .i64 lf, .pointer (some ⟨gc, 0, none⟩), .int .i64 dI, u14, u15, u16, u17, u18, u19, u20, u21, u22, u23, u24, u25, u26, u27, u28, u29, u30, u31, u32, u33, u34, u35, u36, u37, u38, u39, y40, y41, y42, y43, y44, y45, y46, y47, y48, y49, y50, y51, y52, u53, u54, u55, u56, u57, u58, u59, u60, u61, u62, u63, u64, u65, u66, u67, u68, u69, u70, u71, u72, u73, u74, u75, u76, u77, u78, u79, u80, u81, u82, u83], defers := [] } (((v1.setCell ⟨gu, 0, none⟩ (.int .i64 (s0 + c0 * (lf - x)))).setCell ⟨gu, 1, none⟩ (.int .i64 (s1 + c1 * (lf - x)))).setCell ⟨gu, 2, none⟩ (.int .i64 (s2 + c2 * (lf - x))))) :
    (Code.region 8 #[{ dst := some 40, op := Go.Op.load 62 (Go.Operand.tmp 10), type := 62, pos := "l09_colour.go:64", after := #[], guard := none }, { dst := some 41, op := Go.Op.move (Go.Operand.tmp 1), type := 24, pos := "l09_colour.go:64", after := #[], guard := none }, { dst := some 42, op := Go.Op.load 62 (Go.Operand.tmp 12), type := 62, pos := "l09_colour.go:64", after := #[], guard := none }, { dst := some 43, op := Go.Op.move (Go.Operand.tmp 0), type := 2, pos := "l09_colour.go:64", after := #[], guard := none }, { dst := some 44, op := Go.Op.call { callee := Go.Callee.value (Go.Operand.func 44), args := #[Go.Operand.tmp 42, Go.Operand.tmp 43], argTypes := #[62, 2] }, type := 2, pos := "l09_colour.go:64", after := #[{ on := 2, ground := Go.Ground.data }, { on := 3, ground := Go.Ground.data }], guard := none }, { dst := some 45, op := Go.Op.indexAddr 24 (Go.Operand.tmp 41) (Go.Operand.tmp 44), type := 0, pos := "l09_colour.go:64", after := #[{ on := 1, ground := Go.Ground.data }, { on := 4, ground := Go.Ground.data }], guard := none }, { dst := some 46, op := Go.Op.load 26 (Go.Operand.tmp 45), type := 26, pos := "l09_colour.go:64", after := #[{ on := 5, ground := Go.Ground.data }], guard := none }, { dst := some 47, op := Go.Op.move (Go.Operand.tmp 11), type := 2, pos := "l09_colour.go:64", after := #[], guard := none }, { dst := some 48, op := Go.Op.move (Go.Operand.tmp 13), type := 3, pos := "l09_colour.go:64", after := #[], guard := none }, { dst := some 49, op := Go.Op.indexAddr 62 (Go.Operand.tmp 9) (Go.Operand.tmp 48), type := 0, pos := "l09_colour.go:64", after := #[{ on := 8, ground := Go.Ground.data }], guard := none }, { dst := some 50, op := Go.Op.load 2 (Go.Operand.tmp 49), type := 2, pos := "l09_colour.go:64", after := #[{ on := 9, ground := Go.Ground.data }], guard := none }, { dst := some 51, op := Go.Op.binOp Go.BinOp.sub 2 (Go.Operand.tmp 47) (Go.Operand.tmp 50) 2, type := 2, pos := "l09_colour.go:64", after := #[{ on := 7, ground := Go.Ground.data }, { on := 10, ground := Go.Ground.data }], guard := none }, { dst := some 52, op := Go.Op.call { callee := Go.Callee.value (Go.Operand.func 43), args := #[Go.Operand.tmp 40, Go.Operand.tmp 46, Go.Operand.tmp 51], argTypes := #[62, 26, 2] }, type := 62, pos := "l09_colour.go:64", after := #[{ on := 0, ground := Go.Ground.data }, { on := 6, ground := Go.Ground.data }, { on := 11, ground := Go.Ground.data }, { on := 4, ground := Go.Ground.chain }], guard := none }, { dst := none, op := Go.Op.store 62 (Go.Operand.tmp 10) (Go.Operand.tmp 52), type := 0, pos := "l09_colour.go:64", after := #[{ on := 12, ground := Go.Ground.data }, { on := 12, ground := Go.Ground.chain }, { on := 0, ground := Go.Ground.phase }, { on := 1, ground := Go.Ground.phase }, { on := 2, ground := Go.Ground.phase }, { on := 3, ground := Go.Ground.phase }, { on := 4, ground := Go.Ground.phase }, { on := 5, ground := Go.Ground.phase }, { on := 6, ground := Go.Ground.phase }, { on := 7, ground := Go.Ground.phase }, { on := 8, ground := Go.Ground.phase }, { on := 9, ground := Go.Ground.phase }, { on := 10, ground := Go.Ground.phase }, { on := 11, ground := Go.Ground.phase }, { on := 12, ground := Go.Ground.phase }], guard := none }] true).wp Try.prog Q { tmps := #[.int .i64 n, .slice (some ⟨b, o, none⟩) len tc, u2, u3, u4, u5, u6, u7, u8, .pointer (some ⟨gr, 0, none⟩), .pointer (some ⟨gu, 0, none⟩), .int .i64 lf, .pointer (some ⟨gc, 0, none⟩), .int .i64 dI, u14, u15, u16, u17, u18, u19, u20, u21, u22, u23, u24, u25, u26, u27, u28, u29, u30, u31, u32, u33, u34, u35, u36, u37, u38, u39, u40, u41, u42, u43, u44, u45, u46, u47, u48, u49, u50, u51, u52, u53, u54, u55, u56, u57, u58, u59, u60, u61, u62, u63, u64, u65, u66, u67, u68, u69, u70, u71, u72, u73, u74, u75, u76, u77, u78, u79, u80, u81, u82, u83], defers := [] } v := by
  subst hdI
  obtain ⟨u0, u1, u2, fu0, fu1, fu2⟩ := hU
  obtain ⟨p0, p1, p2, _, _, _⟩ := hC
  have hguv : gu < v.heap.size := World.block_lt_of_cell? _ _ u0
  have hK0 : (0 : Int) ≤ (K : Int) := by omega
  have hK1 : (K : Int) < len := by omega
  have hd0 : (0 : Int) ≤ (d : Int) := by omega
  have hd1 : (d : Int) < 3 := by omega
  have hwt : IntKind.i64.wrap (lf - x) = lf - x := by rw [IntKind.wrap_i64]; omega
  refine wp_region_noPanic ?_
  refine wp_region_held_drew (S := fun w' => w'.cell? ⟨gc, 0, none⟩ = some (.int .i64 i) ∧ w'.cell? ⟨gc, 1, none⟩ = some (.int .i64 j) ∧ w'.cell? ⟨gc, 2, none⟩ = some (.int .i64 k) ∧ w'.cell? ⟨b, o + K * 3, none⟩ = some (.int .i64 c0) ∧ w'.cell? ⟨b, o + K * 3 + 1, none⟩ = some (.int .i64 c1) ∧ w'.cell? ⟨b, o + K * 3 + 2, none⟩ = some (.int .i64 c2) ∧ w'.cell? ⟨gr, d, none⟩ = some (.int .i64 x)) (by kernel_rfl) ?_ (fun hH0 => ?_)
  · exact ⟨p0, p1, p2, hc0, hc1, hc2, hcr⟩
  refine wpAnyH_take (i := 1) (oi := { dst := some 41, op := Go.Op.move (Go.Operand.tmp 1), type := 24, pos := _, after := #[], guard := none }) (v := ?_) rfl (by kernel_rfl) (by kernel_rfl) (by kernel_rfl) (fun _ _ _ h => h) (Or.inl ⟨by rfl, ?_⟩) hH0 ?_
  rotate_left
  · (intro w hSw; (try dsimp only at hSw); go_simp <;> with_reducible rfl)
  (try simp only [Act.put, List.setIfInBounds_toArray, List.set_cons_zero, List.set_cons_succ])
  refine wpAnyH_take (i := 2) (oi := { dst := some 42, op := Go.Op.load 62 (Go.Operand.tmp 12), type := 62, pos := _, after := #[], guard := none }) (v := ?_) rfl (by kernel_rfl) (by kernel_rfl) (by kernel_rfl) (fun _ _ _ h => h) (Or.inl ⟨by rfl, ?_⟩) hH0 ?_
  rotate_left
  · (intro w hSw; (try dsimp only at hSw); go_simp <;> with_reducible rfl)
  (try simp only [Act.put, List.setIfInBounds_toArray, List.set_cons_zero, List.set_cons_succ])
  refine wpAnyH_take (i := 3) (oi := { dst := some 43, op := Go.Op.move (Go.Operand.tmp 0), type := 2, pos := _, after := #[], guard := none }) (v := ?_) rfl (by kernel_rfl) (by kernel_rfl) (by kernel_rfl) (fun _ _ _ h => h) (Or.inl ⟨by rfl, ?_⟩) hH0 ?_
  rotate_left
  · (intro w hSw; (try dsimp only at hSw); go_simp <;> with_reducible rfl)
  (try simp only [Act.put, List.setIfInBounds_toArray, List.set_cons_zero, List.set_cons_succ])
  refine wpAnyH_take (i := 7) (oi := { dst := some 47, op := Go.Op.move (Go.Operand.tmp 11), type := 2, pos := _, after := #[], guard := none }) (v := ?_) rfl (by kernel_rfl) (by kernel_rfl) (by kernel_rfl) (fun _ _ _ h => h) (Or.inl ⟨by rfl, ?_⟩) hH0 ?_
  rotate_left
  · (intro w hSw; (try dsimp only at hSw); go_simp <;> with_reducible rfl)
  (try simp only [Act.put, List.setIfInBounds_toArray, List.set_cons_zero, List.set_cons_succ])
  refine wpAnyH_take (i := 8) (oi := { dst := some 48, op := Go.Op.move (Go.Operand.tmp 13), type := 3, pos := _, after := #[], guard := none }) (v := ?_) rfl (by kernel_rfl) (by kernel_rfl) (by kernel_rfl) (fun _ _ _ h => h) (Or.inl ⟨by rfl, ?_⟩) hH0 ?_
  rotate_left
  · (intro w hSw; (try dsimp only at hSw); go_simp <;> with_reducible rfl)
  (try simp only [Act.put, List.setIfInBounds_toArray, List.set_cons_zero, List.set_cons_succ])
  refine wpAnyH_take (i := 9) (oi := { dst := some 49, op := Go.Op.indexAddr 62 (Go.Operand.tmp 9) (Go.Operand.tmp 48), type := 0, pos := _, after := #[{ on := 8, ground := Go.Ground.data }], guard := none }) (v := ?_) rfl (by kernel_rfl) (by kernel_rfl) (by kernel_rfl) (fun _ _ _ h => h) (Or.inl ⟨by rfl, ?_⟩) hH0 ?_
  rotate_left
  · (intro w hSw; (try dsimp only at hSw); go_simp <;> with_reducible rfl)
  (try simp only [Act.put, List.setIfInBounds_toArray, List.set_cons_zero, List.set_cons_succ])
  refine wpAnyH_take (i := 10) (oi := { dst := some 50, op := Go.Op.load 2 (Go.Operand.tmp 49), type := 2, pos := _, after := #[{ on := 9, ground := Go.Ground.data }], guard := none }) (v := ?_) rfl (by kernel_rfl) (by kernel_rfl) (by kernel_rfl) (fun _ _ _ h => h) (Or.inl ⟨by rfl, ?_⟩) hH0 ?_
  rotate_left
  · (intro w hSw; (try dsimp only at hSw); go_simp <;> with_reducible rfl)
  (try simp only [Act.put, List.setIfInBounds_toArray, List.set_cons_zero, List.set_cons_succ])
  refine wpAnyH_take (i := 11) (oi := { dst := some 51, op := Go.Op.binOp Go.BinOp.sub 2 (Go.Operand.tmp 47) (Go.Operand.tmp 50) 2, type := 2, pos := _, after := #[{ on := 7, ground := Go.Ground.data }, { on := 10, ground := Go.Ground.data }], guard := none }) (v := ?_) rfl (by kernel_rfl) (by kernel_rfl) (by kernel_rfl) (fun _ _ _ h => h) (Or.inl ⟨by rfl, ?_⟩) hH0 ?_
  rotate_left
  · (intro w hSw; (try dsimp only at hSw); go_simp <;> with_reducible rfl)
  (try simp only [Act.put, List.setIfInBounds_toArray, List.set_cons_zero, List.set_cons_succ])
  refine wpAnyH_ready (rs := [0, 4]) (by kernel_rfl) (by simp) ?_
  refine AllReadyH.cons (o := { dst := some 40, op := Go.Op.load 62 (Go.Operand.tmp 10), type := 62, pos := _, after := #[], guard := none }) rfl (fun K9 hK9 => ?_) ?_
  · go_simp
    refine hK9.out _ _ ?_ (fun hH1 => ?_)
    · exact hH0
    clear hK9 K9
    (try simp only [Act.put, List.setIfInBounds_toArray, List.set_cons_zero, List.set_cons_succ])
    refine wpAnyH_ready (rs := [4]) (by kernel_rfl) (by simp) ?_
    refine AllReadyH.cons (o := { dst := some 44, op := Go.Op.call { callee := Go.Callee.value (Go.Operand.func 44), args := #[Go.Operand.tmp 42, Go.Operand.tmp 43], argTypes := #[62, 2] }, type := 2, pos := _, after := #[{ on := 2, ground := Go.Ground.data }, { on := 3, ground := Go.Ground.data }], guard := none }) rfl (fun K9 hK9 => ?_) AllReadyH.nil
    go_simp
    go_at_call 44
    refine (place_any i j k n _ hi hj hk hn).mono ?_
    rintro e w1 ⟨rfl, hb1⟩
    rw [hpl]
    (try simp only [])
    refine hK9.out _ _ ?_ (fun hH2 => ?_)
    · exact ⟨cell_later hb1 hH1.1, cell_later hb1 hH1.2.1, cell_later hb1 hH1.2.2.1, cell_later hb1 hH1.2.2.2.1, cell_later hb1 hH1.2.2.2.2.1, cell_later hb1 hH1.2.2.2.2.2.1, cell_later hb1 hH1.2.2.2.2.2.2⟩
    clear hK9 K9
    (try simp only [Act.put, List.setIfInBounds_toArray, List.set_cons_zero, List.set_cons_succ])
    refine wpAnyH_take (i := 5) (oi := { dst := some 45, op := Go.Op.indexAddr 24 (Go.Operand.tmp 41) (Go.Operand.tmp 44), type := 0, pos := _, after := #[{ on := 1, ground := Go.Ground.data }, { on := 4, ground := Go.Ground.data }], guard := none }) (v := ?_) rfl (by kernel_rfl) (by kernel_rfl) (by kernel_rfl) (fun _ _ _ h => h) (Or.inl ⟨by rfl, ?_⟩) hH2 ?_
    rotate_left
    · (intro w hSw; (try dsimp only at hSw); go_simp <;> with_reducible rfl)
    (try simp only [Act.put, List.setIfInBounds_toArray, List.set_cons_zero, List.set_cons_succ])
    refine wpAnyH_take (i := 6) (oi := { dst := some 46, op := Go.Op.load 26 (Go.Operand.tmp 45), type := 26, pos := _, after := #[{ on := 5, ground := Go.Ground.data }], guard := none }) (v := ?_) rfl (by kernel_rfl) (by kernel_rfl) (by kernel_rfl) (fun _ _ _ h => h) (Or.inl ⟨by rfl, ?_⟩) hH2 ?_
    rotate_left
    · (intro w hSw; (try dsimp only at hSw); go_simp <;> with_reducible rfl)
    (try simp only [Act.put, List.setIfInBounds_toArray, List.set_cons_zero, List.set_cons_succ])
    refine wpAnyH_ready (rs := [12]) (by kernel_rfl) (by simp) ?_
    refine AllReadyH.cons (o := { dst := some 52, op := Go.Op.call { callee := Go.Callee.value (Go.Operand.func 43), args := #[Go.Operand.tmp 40, Go.Operand.tmp 46, Go.Operand.tmp 51], argTypes := #[62, 26, 2] }, type := 62, pos := _, after := #[{ on := 0, ground := Go.Ground.data }, { on := 6, ground := Go.Ground.data }, { on := 11, ground := Go.Ground.data }, { on := 4, ground := Go.Ground.chain }], guard := none }) rfl (fun K9 hK9 => ?_) AllReadyH.nil
    go_simp
    go_at_call 43
    refine (plus_any s0 s1 s2 c0 c1 c2 (lf - x) _ hs0 hs1 hs2 hco ⟨by omega, by omega⟩).mono ?_
    rintro e w2 ⟨rfl, hb2⟩
    (try simp only [])
    refine hK9.out _ _ ?_ (fun hH3 => ?_)
    · exact ⟨cell_later hb2 hH2.1, cell_later hb2 hH2.2.1, cell_later hb2 hH2.2.2.1, cell_later hb2 hH2.2.2.2.1, cell_later hb2 hH2.2.2.2.2.1, cell_later hb2 hH2.2.2.2.2.2.1, cell_later hb2 hH2.2.2.2.2.2.2⟩
    clear hK9 K9
    (try simp only [Act.put, List.setIfInBounds_toArray, List.set_cons_zero, List.set_cons_succ])
    refine wpAnyH_ready (rs := [13]) (by kernel_rfl) (by simp) ?_
    refine AllReadyH.cons (o := { dst := none, op := Go.Op.store 62 (Go.Operand.tmp 10) (Go.Operand.tmp 52), type := 0, pos := _, after := #[{ on := 12, ground := Go.Ground.data }, { on := 12, ground := Go.Ground.chain }, { on := 0, ground := Go.Ground.phase }, { on := 1, ground := Go.Ground.phase }, { on := 2, ground := Go.Ground.phase }, { on := 3, ground := Go.Ground.phase }, { on := 4, ground := Go.Ground.phase }, { on := 5, ground := Go.Ground.phase }, { on := 6, ground := Go.Ground.phase }, { on := 7, ground := Go.Ground.phase }, { on := 8, ground := Go.Ground.phase }, { on := 9, ground := Go.Ground.phase }, { on := 10, ground := Go.Ground.phase }, { on := 11, ground := Go.Ground.phase }, { on := 12, ground := Go.Ground.phase }], guard := none }) rfl (fun K9 hK9 => ?_) AllReadyH.nil
    have hbv : Below v.heap.size v w2 := (Below.refl v.heap.size v).drew.trans ((hb1.mono (Nat.le_refl _)).trans (hb2.mono (by have := hb1.size; exact this)))
    obtain ⟨q0, q1, q2, fq0, fq1, fq2⟩ : Bx w2 gu s0 s1 s2 := Bx.block (w := v) ⟨u0, u1, u2, fu0, fu1, fu2⟩ (hbv.block gu hguv)
    go_simp
    have R : ∀ g9 o9, g9 ≠ gu → (((w2.setCell ⟨gu, 0, none⟩ (.int .i64 (s0 + c0 * (lf - x)))).setCell ⟨gu, 1, none⟩ (.int .i64 (s1 + c1 * (lf - x)))).setCell ⟨gu, 2, none⟩ (.int .i64 (s2 + c2 * (lf - x)))).cell? ⟨g9, o9, none⟩ = w2.cell? ⟨g9, o9, none⟩ := fun g9 o9 h9 => by
      rw [World.cell?_setCell_other _ _ _ _ (ne_blk (Ne.symm h9)), World.cell?_setCell_other _ _ _ _ (ne_blk (Ne.symm h9)), World.cell?_setCell_other _ _ _ _ (ne_blk (Ne.symm h9))]
    refine hK9.out _ _ ?_ (fun hHf => ?_)
    · exact ⟨(R _ _ hne1).trans hH3.1, (R _ _ hne1).trans hH3.2.1, (R _ _ hne1).trans hH3.2.2.1, (R _ _ hne2).trans hH3.2.2.2.1, (R _ _ hne2).trans hH3.2.2.2.2.1, (R _ _ hne2).trans hH3.2.2.2.2.2.1, (R _ _ hne3).trans hH3.2.2.2.2.2.2⟩
    clear hK9 K9
    (try simp only [Act.put, List.setIfInBounds_toArray, List.set_cons_zero, List.set_cons_succ])
    refine wpAnyH_done (by kernel_rfl) ?_ _
    refine NoPanic.normal ?_
    exact hQ _ _ _ _ _ _ _ _ _ _ _ _ _ w2 hbv
  refine AllReadyH.cons (o := { dst := some 44, op := Go.Op.call { callee := Go.Callee.value (Go.Operand.func 44), args := #[Go.Operand.tmp 42, Go.Operand.tmp 43], argTypes := #[62, 2] }, type := 2, pos := _, after := #[{ on := 2, ground := Go.Ground.data }, { on := 3, ground := Go.Ground.data }], guard := none }) rfl (fun K9 hK9 => ?_) AllReadyH.nil
  go_simp
  go_at_call 44
  refine (place_any i j k n _ hi hj hk hn).mono ?_
  rintro e w1 ⟨rfl, hb1⟩
  rw [hpl]
  (try simp only [])
  refine hK9.out _ _ ?_ (fun hH2 => ?_)
  · exact ⟨cell_later hb1 hH0.1, cell_later hb1 hH0.2.1, cell_later hb1 hH0.2.2.1, cell_later hb1 hH0.2.2.2.1, cell_later hb1 hH0.2.2.2.2.1, cell_later hb1 hH0.2.2.2.2.2.1, cell_later hb1 hH0.2.2.2.2.2.2⟩
  clear hK9 K9
  (try simp only [Act.put, List.setIfInBounds_toArray, List.set_cons_zero, List.set_cons_succ])
  refine wpAnyH_take (i := 5) (oi := { dst := some 45, op := Go.Op.indexAddr 24 (Go.Operand.tmp 41) (Go.Operand.tmp 44), type := 0, pos := _, after := #[{ on := 1, ground := Go.Ground.data }, { on := 4, ground := Go.Ground.data }], guard := none }) (v := ?_) rfl (by kernel_rfl) (by kernel_rfl) (by kernel_rfl) (fun _ _ _ h => h) (Or.inl ⟨by rfl, ?_⟩) hH2 ?_
  rotate_left
  · (intro w hSw; (try dsimp only at hSw); go_simp <;> with_reducible rfl)
  (try simp only [Act.put, List.setIfInBounds_toArray, List.set_cons_zero, List.set_cons_succ])
  refine wpAnyH_take (i := 6) (oi := { dst := some 46, op := Go.Op.load 26 (Go.Operand.tmp 45), type := 26, pos := _, after := #[{ on := 5, ground := Go.Ground.data }], guard := none }) (v := ?_) rfl (by kernel_rfl) (by kernel_rfl) (by kernel_rfl) (fun _ _ _ h => h) (Or.inl ⟨by rfl, ?_⟩) hH2 ?_
  rotate_left
  · (intro w hSw; (try dsimp only at hSw); go_simp <;> with_reducible rfl)
  (try simp only [Act.put, List.setIfInBounds_toArray, List.set_cons_zero, List.set_cons_succ])
  have v0 := cell_later hb1 (show v.drew.cell? ⟨gu, 0, none⟩ = some (.int .i64 s0) from u0)
  have v1' := cell_later hb1 (show v.drew.cell? ⟨gu, 1, none⟩ = some (.int .i64 s1) from u1)
  have v2' := cell_later hb1 (show v.drew.cell? ⟨gu, 2, none⟩ = some (.int .i64 s2) from u2)
  refine wpAnyH_ready (rs := [0]) (by kernel_rfl) (by simp) ?_
  refine AllReadyH.cons (o := { dst := some 40, op := Go.Op.load 62 (Go.Operand.tmp 10), type := 62, pos := _, after := #[], guard := none }) rfl (fun K9 hK9 => ?_) AllReadyH.nil
  go_simp
  refine hK9.out _ _ ?_ (fun hH4 => ?_)
  · exact hH2
  clear hK9 K9
  (try simp only [Act.put, List.setIfInBounds_toArray, List.set_cons_zero, List.set_cons_succ])
  refine wpAnyH_ready (rs := [12]) (by kernel_rfl) (by simp) ?_
  refine AllReadyH.cons (o := { dst := some 52, op := Go.Op.call { callee := Go.Callee.value (Go.Operand.func 43), args := #[Go.Operand.tmp 40, Go.Operand.tmp 46, Go.Operand.tmp 51], argTypes := #[62, 26, 2] }, type := 62, pos := _, after := #[{ on := 0, ground := Go.Ground.data }, { on := 6, ground := Go.Ground.data }, { on := 11, ground := Go.Ground.data }, { on := 4, ground := Go.Ground.chain }], guard := none }) rfl (fun K9 hK9 => ?_) AllReadyH.nil
  go_simp
  go_at_call 43
  refine (plus_any s0 s1 s2 c0 c1 c2 (lf - x) _ hs0 hs1 hs2 hco ⟨by omega, by omega⟩).mono ?_
  rintro e w2 ⟨rfl, hb2⟩
  (try simp only [])
  refine hK9.out _ _ ?_ (fun hH3 => ?_)
  · exact ⟨cell_later hb2 hH4.1, cell_later hb2 hH4.2.1, cell_later hb2 hH4.2.2.1, cell_later hb2 hH4.2.2.2.1, cell_later hb2 hH4.2.2.2.2.1, cell_later hb2 hH4.2.2.2.2.2.1, cell_later hb2 hH4.2.2.2.2.2.2⟩
  clear hK9 K9
  (try simp only [Act.put, List.setIfInBounds_toArray, List.set_cons_zero, List.set_cons_succ])
  refine wpAnyH_ready (rs := [13]) (by kernel_rfl) (by simp) ?_
  refine AllReadyH.cons (o := { dst := none, op := Go.Op.store 62 (Go.Operand.tmp 10) (Go.Operand.tmp 52), type := 0, pos := _, after := #[{ on := 12, ground := Go.Ground.data }, { on := 12, ground := Go.Ground.chain }, { on := 0, ground := Go.Ground.phase }, { on := 1, ground := Go.Ground.phase }, { on := 2, ground := Go.Ground.phase }, { on := 3, ground := Go.Ground.phase }, { on := 4, ground := Go.Ground.phase }, { on := 5, ground := Go.Ground.phase }, { on := 6, ground := Go.Ground.phase }, { on := 7, ground := Go.Ground.phase }, { on := 8, ground := Go.Ground.phase }, { on := 9, ground := Go.Ground.phase }, { on := 10, ground := Go.Ground.phase }, { on := 11, ground := Go.Ground.phase }, { on := 12, ground := Go.Ground.phase }], guard := none }) rfl (fun K9 hK9 => ?_) AllReadyH.nil
  have hbv : Below v.heap.size v w2 := (Below.refl v.heap.size v).drew.trans ((hb1.mono (Nat.le_refl _)).trans (hb2.mono (by have := hb1.size; exact this)))
  obtain ⟨q0, q1, q2, fq0, fq1, fq2⟩ : Bx w2 gu s0 s1 s2 := Bx.block (w := v) ⟨u0, u1, u2, fu0, fu1, fu2⟩ (hbv.block gu hguv)
  go_simp
  have R : ∀ g9 o9, g9 ≠ gu → (((w2.setCell ⟨gu, 0, none⟩ (.int .i64 (s0 + c0 * (lf - x)))).setCell ⟨gu, 1, none⟩ (.int .i64 (s1 + c1 * (lf - x)))).setCell ⟨gu, 2, none⟩ (.int .i64 (s2 + c2 * (lf - x)))).cell? ⟨g9, o9, none⟩ = w2.cell? ⟨g9, o9, none⟩ := fun g9 o9 h9 => by
    rw [World.cell?_setCell_other _ _ _ _ (ne_blk (Ne.symm h9)), World.cell?_setCell_other _ _ _ _ (ne_blk (Ne.symm h9)), World.cell?_setCell_other _ _ _ _ (ne_blk (Ne.symm h9))]
  refine hK9.out _ _ ?_ (fun hHf => ?_)
  · exact ⟨(R _ _ hne1).trans hH3.1, (R _ _ hne1).trans hH3.2.1, (R _ _ hne1).trans hH3.2.2.1, (R _ _ hne2).trans hH3.2.2.2.1, (R _ _ hne2).trans hH3.2.2.2.2.1, (R _ _ hne2).trans hH3.2.2.2.2.2.1, (R _ _ hne3).trans hH3.2.2.2.2.2.2⟩
  clear hK9 K9
  (try simp only [Act.put, List.setIfInBounds_toArray, List.set_cons_zero, List.set_cons_succ])
  refine wpAnyH_done (by kernel_rfl) ?_ _
  refine NoPanic.normal ?_
  exact hQ _ _ _ _ _ _ _ _ _ _ _ _ _ w2 hbv
set_option maxRecDepth 100000 in
set_option maxHeartbeats 2000000 in
theorem reg12 {Q : Exit → Act → World → Prop} {u2 u3 u4 u5 u6 u7 u9 u12 u13 u14 u15 u16 u17 u18 u19 u20 u21 u22 u23 u24 u25 u26 u27 u28 u29 u30 u31 u32 u33 u34 u35 u36 u37 u38 u39 u40 u41 u42 u43 u44 u45 u46 u47 u48 u49 u50 u51 u52 u53 u54 u55 u56 u57 u58 u59 u60 u61 u62 u63 u64 u65 u66 u67 u68 u69 u70 u71 u72 u73 u74 u75 u76 u77 u78 u79 u80 u81 u82 u83 : Value} (v : World) (n : Int) (b o len tc gu gc K : Nat) (i j k lf s0 s1 s2 c0 c1 c2 : Int) (hn : 0 ≤ n ∧ n ≤ 100) (hi : 0 ≤ i ∧ i ≤ 100) (hj : 0 ≤ j ∧ j ≤ 100) (hk : 0 ≤ k ∧ k ≤ 100) (hpl : (i * n + j) * n + k = (K : Int)) (hK : K < len) (hlen : len ≤ 1000000) (hl1 : 0 ≤ lf) (hl2 : lf ≤ 65535) (hs0 : 0 ≤ s0 ∧ s0 ≤ 1000000000000) (hs1 : 0 ≤ s1 ∧ s1 ≤ 1000000000000) (hs2 : 0 ≤ s2 ∧ s2 ≤ 1000000000000) (hco : CoOk (c0, c1, c2))
    (hU : Bx v gu s0 s1 s2) (hC : Bx v gc i j k) (hc0 : v.cell? ⟨b, o + K * 3, none⟩ = some (.int .i64 c0)) (hc1 : v.cell? ⟨b, o + K * 3 + 1, none⟩ = some (.int .i64 c1)) (hc2 : v.cell? ⟨b, o + K * 3 + 2, none⟩ = some (.int .i64 c2)) (hne1 : gc ≠ gu) (hne2 : b ≠ gu) 
    (hQ : ∀ (y63 y64 y65 y66 y67 y68 y69 y70 y71 : Value) (v1 : World), Below v.heap.size v v1 → Q .normal { tmps := #[.int .i64 n, .slice (some ⟨b, o, none⟩) len tc, u2, u3, u4, u5, u6, u7, .pointer (some ⟨gc, 0, none⟩), u9, .pointer (some ⟨gu, 0, none⟩), .int .i64 lf, u12, u13, u14, u15, u16, u17, u18, u19, u20, u21, u22, u23, u24, u25, u26, u27, u28, u29, u30, u31, u32, u33, u34, u35, u36, u37, u38, u39, u40, u41, u42, u43, u44, u45, u46, u47, u48, u49, u50, u51, u52, u53, u54, u55, u56, u57, u58, u59, u60, u61, u62, y63, y64, y65, y66, y67, y68, y69, y70, y71, u72, u73, u74, u75, u76, u77, u78, u79, u80, u81, u82, u83], defers := [] } (((v1.setCell ⟨gu, 0, none⟩ (.int .i64 (s0 + c0 * lf))).setCell ⟨gu, 1, none⟩ (.int .i64 (s1 + c1 * lf))).setCell ⟨gu, 2, none⟩ (.int .i64 (s2 + c2 * lf)))) :
    (Code.region 12 #[{ dst := some 63, op := Go.Op.load 62 (Go.Operand.tmp 10), type := 62, pos := "l09_colour.go:69", after := #[], guard := none }, { dst := some 64, op := Go.Op.move (Go.Operand.tmp 1), type := 24, pos := "l09_colour.go:69", after := #[], guard := none }, { dst := some 65, op := Go.Op.load 62 (Go.Operand.tmp 8), type := 62, pos := "l09_colour.go:69", after := #[], guard := none }, { dst := some 66, op := Go.Op.move (Go.Operand.tmp 0), type := 2, pos := "l09_colour.go:69", after := #[], guard := none }, { dst := some 67, op := Go.Op.call { callee := Go.Callee.value (Go.Operand.func 44), args := #[Go.Operand.tmp 65, Go.Operand.tmp 66], argTypes := #[62, 2] }, type := 2, pos := "l09_colour.go:69", after := #[{ on := 2, ground := Go.Ground.data }, { on := 3, ground := Go.Ground.data }], guard := none }, { dst := some 68, op := Go.Op.indexAddr 24 (Go.Operand.tmp 64) (Go.Operand.tmp 67), type := 0, pos := "l09_colour.go:69", after := #[{ on := 1, ground := Go.Ground.data }, { on := 4, ground := Go.Ground.data }], guard := none }, { dst := some 69, op := Go.Op.load 26 (Go.Operand.tmp 68), type := 26, pos := "l09_colour.go:69", after := #[{ on := 5, ground := Go.Ground.data }], guard := none }, { dst := some 70, op := Go.Op.move (Go.Operand.tmp 11), type := 2, pos := "l09_colour.go:69", after := #[], guard := none }, { dst := some 71, op := Go.Op.call { callee := Go.Callee.value (Go.Operand.func 43), args := #[Go.Operand.tmp 63, Go.Operand.tmp 69, Go.Operand.tmp 70], argTypes := #[62, 26, 2] }, type := 62, pos := "l09_colour.go:69", after := #[{ on := 0, ground := Go.Ground.data }, { on := 6, ground := Go.Ground.data }, { on := 7, ground := Go.Ground.data }, { on := 4, ground := Go.Ground.chain }], guard := none }, { dst := none, op := Go.Op.store 62 (Go.Operand.tmp 10) (Go.Operand.tmp 71), type := 0, pos := "l09_colour.go:69", after := #[{ on := 8, ground := Go.Ground.data }, { on := 8, ground := Go.Ground.chain }, { on := 0, ground := Go.Ground.phase }, { on := 1, ground := Go.Ground.phase }, { on := 2, ground := Go.Ground.phase }, { on := 3, ground := Go.Ground.phase }, { on := 4, ground := Go.Ground.phase }, { on := 5, ground := Go.Ground.phase }, { on := 6, ground := Go.Ground.phase }, { on := 7, ground := Go.Ground.phase }, { on := 8, ground := Go.Ground.phase }], guard := none }] true).wp Try.prog Q { tmps := #[.int .i64 n, .slice (some ⟨b, o, none⟩) len tc, u2, u3, u4, u5, u6, u7, .pointer (some ⟨gc, 0, none⟩), u9, .pointer (some ⟨gu, 0, none⟩), .int .i64 lf, u12, u13, u14, u15, u16, u17, u18, u19, u20, u21, u22, u23, u24, u25, u26, u27, u28, u29, u30, u31, u32, u33, u34, u35, u36, u37, u38, u39, u40, u41, u42, u43, u44, u45, u46, u47, u48, u49, u50, u51, u52, u53, u54, u55, u56, u57, u58, u59, u60, u61, u62, u63, u64, u65, u66, u67, u68, u69, u70, u71, u72, u73, u74, u75, u76, u77, u78, u79, u80, u81, u82, u83], defers := [] } v := by
  skip
  obtain ⟨u0, u1, u2, fu0, fu1, fu2⟩ := hU
  obtain ⟨p0, p1, p2, _, _, _⟩ := hC
  have hguv : gu < v.heap.size := World.block_lt_of_cell? _ _ u0
  have hK0 : (0 : Int) ≤ (K : Int) := by omega
  have hK1 : (K : Int) < len := by omega
  refine wp_region_noPanic ?_
  refine wp_region_held_drew (S := fun w' => w'.cell? ⟨gc, 0, none⟩ = some (.int .i64 i) ∧ w'.cell? ⟨gc, 1, none⟩ = some (.int .i64 j) ∧ w'.cell? ⟨gc, 2, none⟩ = some (.int .i64 k) ∧ w'.cell? ⟨b, o + K * 3, none⟩ = some (.int .i64 c0) ∧ w'.cell? ⟨b, o + K * 3 + 1, none⟩ = some (.int .i64 c1) ∧ w'.cell? ⟨b, o + K * 3 + 2, none⟩ = some (.int .i64 c2)) (by kernel_rfl) ?_ (fun hH0 => ?_)
  · exact ⟨p0, p1, p2, hc0, hc1, hc2⟩
  refine wpAnyH_take (i := 1) (oi := { dst := some 64, op := Go.Op.move (Go.Operand.tmp 1), type := 24, pos := _, after := #[], guard := none }) (v := ?_) rfl (by kernel_rfl) (by kernel_rfl) (by kernel_rfl) (fun _ _ _ h => h) (Or.inl ⟨by rfl, ?_⟩) hH0 ?_
  rotate_left
  · (intro w hSw; (try dsimp only at hSw); go_simp <;> with_reducible rfl)
  (try simp only [Act.put, List.setIfInBounds_toArray, List.set_cons_zero, List.set_cons_succ])
  refine wpAnyH_take (i := 2) (oi := { dst := some 65, op := Go.Op.load 62 (Go.Operand.tmp 8), type := 62, pos := _, after := #[], guard := none }) (v := ?_) rfl (by kernel_rfl) (by kernel_rfl) (by kernel_rfl) (fun _ _ _ h => h) (Or.inl ⟨by rfl, ?_⟩) hH0 ?_
  rotate_left
  · (intro w hSw; (try dsimp only at hSw); go_simp <;> with_reducible rfl)
  (try simp only [Act.put, List.setIfInBounds_toArray, List.set_cons_zero, List.set_cons_succ])
  refine wpAnyH_take (i := 3) (oi := { dst := some 66, op := Go.Op.move (Go.Operand.tmp 0), type := 2, pos := _, after := #[], guard := none }) (v := ?_) rfl (by kernel_rfl) (by kernel_rfl) (by kernel_rfl) (fun _ _ _ h => h) (Or.inl ⟨by rfl, ?_⟩) hH0 ?_
  rotate_left
  · (intro w hSw; (try dsimp only at hSw); go_simp <;> with_reducible rfl)
  (try simp only [Act.put, List.setIfInBounds_toArray, List.set_cons_zero, List.set_cons_succ])
  refine wpAnyH_take (i := 7) (oi := { dst := some 70, op := Go.Op.move (Go.Operand.tmp 11), type := 2, pos := _, after := #[], guard := none }) (v := ?_) rfl (by kernel_rfl) (by kernel_rfl) (by kernel_rfl) (fun _ _ _ h => h) (Or.inl ⟨by rfl, ?_⟩) hH0 ?_
  rotate_left
  · (intro w hSw; (try dsimp only at hSw); go_simp <;> with_reducible rfl)
  (try simp only [Act.put, List.setIfInBounds_toArray, List.set_cons_zero, List.set_cons_succ])
  refine wpAnyH_ready (rs := [0, 4]) (by kernel_rfl) (by simp) ?_
  refine AllReadyH.cons (o := { dst := some 63, op := Go.Op.load 62 (Go.Operand.tmp 10), type := 62, pos := _, after := #[], guard := none }) rfl (fun K9 hK9 => ?_) ?_
  · go_simp
    refine hK9.out _ _ ?_ (fun hH1 => ?_)
    · exact hH0
    clear hK9 K9
    (try simp only [Act.put, List.setIfInBounds_toArray, List.set_cons_zero, List.set_cons_succ])
    refine wpAnyH_ready (rs := [4]) (by kernel_rfl) (by simp) ?_
    refine AllReadyH.cons (o := { dst := some 67, op := Go.Op.call { callee := Go.Callee.value (Go.Operand.func 44), args := #[Go.Operand.tmp 65, Go.Operand.tmp 66], argTypes := #[62, 2] }, type := 2, pos := _, after := #[{ on := 2, ground := Go.Ground.data }, { on := 3, ground := Go.Ground.data }], guard := none }) rfl (fun K9 hK9 => ?_) AllReadyH.nil
    go_simp
    go_at_call 44
    refine (place_any i j k n _ hi hj hk hn).mono ?_
    rintro e w1 ⟨rfl, hb1⟩
    rw [hpl]
    (try simp only [])
    refine hK9.out _ _ ?_ (fun hH2 => ?_)
    · exact ⟨cell_later hb1 hH1.1, cell_later hb1 hH1.2.1, cell_later hb1 hH1.2.2.1, cell_later hb1 hH1.2.2.2.1, cell_later hb1 hH1.2.2.2.2.1, cell_later hb1 hH1.2.2.2.2.2⟩
    clear hK9 K9
    (try simp only [Act.put, List.setIfInBounds_toArray, List.set_cons_zero, List.set_cons_succ])
    refine wpAnyH_take (i := 5) (oi := { dst := some 68, op := Go.Op.indexAddr 24 (Go.Operand.tmp 64) (Go.Operand.tmp 67), type := 0, pos := _, after := #[{ on := 1, ground := Go.Ground.data }, { on := 4, ground := Go.Ground.data }], guard := none }) (v := ?_) rfl (by kernel_rfl) (by kernel_rfl) (by kernel_rfl) (fun _ _ _ h => h) (Or.inl ⟨by rfl, ?_⟩) hH2 ?_
    rotate_left
    · (intro w hSw; (try dsimp only at hSw); go_simp <;> with_reducible rfl)
    (try simp only [Act.put, List.setIfInBounds_toArray, List.set_cons_zero, List.set_cons_succ])
    refine wpAnyH_take (i := 6) (oi := { dst := some 69, op := Go.Op.load 26 (Go.Operand.tmp 68), type := 26, pos := _, after := #[{ on := 5, ground := Go.Ground.data }], guard := none }) (v := ?_) rfl (by kernel_rfl) (by kernel_rfl) (by kernel_rfl) (fun _ _ _ h => h) (Or.inl ⟨by rfl, ?_⟩) hH2 ?_
    rotate_left
    · (intro w hSw; (try dsimp only at hSw); go_simp <;> with_reducible rfl)
    (try simp only [Act.put, List.setIfInBounds_toArray, List.set_cons_zero, List.set_cons_succ])
    refine wpAnyH_ready (rs := [8]) (by kernel_rfl) (by simp) ?_
    refine AllReadyH.cons (o := { dst := some 71, op := Go.Op.call { callee := Go.Callee.value (Go.Operand.func 43), args := #[Go.Operand.tmp 63, Go.Operand.tmp 69, Go.Operand.tmp 70], argTypes := #[62, 26, 2] }, type := 62, pos := _, after := #[{ on := 0, ground := Go.Ground.data }, { on := 6, ground := Go.Ground.data }, { on := 7, ground := Go.Ground.data }, { on := 4, ground := Go.Ground.chain }], guard := none }) rfl (fun K9 hK9 => ?_) AllReadyH.nil
    go_simp
    go_at_call 43
    refine (plus_any s0 s1 s2 c0 c1 c2 lf _ hs0 hs1 hs2 hco ⟨by omega, by omega⟩).mono ?_
    rintro e w2 ⟨rfl, hb2⟩
    (try simp only [])
    refine hK9.out _ _ ?_ (fun hH3 => ?_)
    · exact ⟨cell_later hb2 hH2.1, cell_later hb2 hH2.2.1, cell_later hb2 hH2.2.2.1, cell_later hb2 hH2.2.2.2.1, cell_later hb2 hH2.2.2.2.2.1, cell_later hb2 hH2.2.2.2.2.2⟩
    clear hK9 K9
    (try simp only [Act.put, List.setIfInBounds_toArray, List.set_cons_zero, List.set_cons_succ])
    refine wpAnyH_ready (rs := [9]) (by kernel_rfl) (by simp) ?_
    refine AllReadyH.cons (o := { dst := none, op := Go.Op.store 62 (Go.Operand.tmp 10) (Go.Operand.tmp 71), type := 0, pos := _, after := #[{ on := 8, ground := Go.Ground.data }, { on := 8, ground := Go.Ground.chain }, { on := 0, ground := Go.Ground.phase }, { on := 1, ground := Go.Ground.phase }, { on := 2, ground := Go.Ground.phase }, { on := 3, ground := Go.Ground.phase }, { on := 4, ground := Go.Ground.phase }, { on := 5, ground := Go.Ground.phase }, { on := 6, ground := Go.Ground.phase }, { on := 7, ground := Go.Ground.phase }, { on := 8, ground := Go.Ground.phase }], guard := none }) rfl (fun K9 hK9 => ?_) AllReadyH.nil
    have hbv : Below v.heap.size v w2 := (Below.refl v.heap.size v).drew.trans ((hb1.mono (Nat.le_refl _)).trans (hb2.mono (by have := hb1.size; exact this)))
    obtain ⟨q0, q1, q2, fq0, fq1, fq2⟩ : Bx w2 gu s0 s1 s2 := Bx.block (w := v) ⟨u0, u1, u2, fu0, fu1, fu2⟩ (hbv.block gu hguv)
    go_simp
    have R : ∀ g9 o9, g9 ≠ gu → (((w2.setCell ⟨gu, 0, none⟩ (.int .i64 (s0 + c0 * lf))).setCell ⟨gu, 1, none⟩ (.int .i64 (s1 + c1 * lf))).setCell ⟨gu, 2, none⟩ (.int .i64 (s2 + c2 * lf))).cell? ⟨g9, o9, none⟩ = w2.cell? ⟨g9, o9, none⟩ := fun g9 o9 h9 => by
      rw [World.cell?_setCell_other _ _ _ _ (ne_blk (Ne.symm h9)), World.cell?_setCell_other _ _ _ _ (ne_blk (Ne.symm h9)), World.cell?_setCell_other _ _ _ _ (ne_blk (Ne.symm h9))]
    refine hK9.out _ _ ?_ (fun hHf => ?_)
    · exact ⟨(R _ _ hne1).trans hH3.1, (R _ _ hne1).trans hH3.2.1, (R _ _ hne1).trans hH3.2.2.1, (R _ _ hne2).trans hH3.2.2.2.1, (R _ _ hne2).trans hH3.2.2.2.2.1, (R _ _ hne2).trans hH3.2.2.2.2.2⟩
    clear hK9 K9
    (try simp only [Act.put, List.setIfInBounds_toArray, List.set_cons_zero, List.set_cons_succ])
    refine wpAnyH_done (by kernel_rfl) ?_ _
    refine NoPanic.normal ?_
    exact hQ _ _ _ _ _ _ _ _ _ w2 hbv
  refine AllReadyH.cons (o := { dst := some 67, op := Go.Op.call { callee := Go.Callee.value (Go.Operand.func 44), args := #[Go.Operand.tmp 65, Go.Operand.tmp 66], argTypes := #[62, 2] }, type := 2, pos := _, after := #[{ on := 2, ground := Go.Ground.data }, { on := 3, ground := Go.Ground.data }], guard := none }) rfl (fun K9 hK9 => ?_) AllReadyH.nil
  go_simp
  go_at_call 44
  refine (place_any i j k n _ hi hj hk hn).mono ?_
  rintro e w1 ⟨rfl, hb1⟩
  rw [hpl]
  (try simp only [])
  refine hK9.out _ _ ?_ (fun hH2 => ?_)
  · exact ⟨cell_later hb1 hH0.1, cell_later hb1 hH0.2.1, cell_later hb1 hH0.2.2.1, cell_later hb1 hH0.2.2.2.1, cell_later hb1 hH0.2.2.2.2.1, cell_later hb1 hH0.2.2.2.2.2⟩
  clear hK9 K9
  (try simp only [Act.put, List.setIfInBounds_toArray, List.set_cons_zero, List.set_cons_succ])
  refine wpAnyH_take (i := 5) (oi := { dst := some 68, op := Go.Op.indexAddr 24 (Go.Operand.tmp 64) (Go.Operand.tmp 67), type := 0, pos := _, after := #[{ on := 1, ground := Go.Ground.data }, { on := 4, ground := Go.Ground.data }], guard := none }) (v := ?_) rfl (by kernel_rfl) (by kernel_rfl) (by kernel_rfl) (fun _ _ _ h => h) (Or.inl ⟨by rfl, ?_⟩) hH2 ?_
  rotate_left
  · (intro w hSw; (try dsimp only at hSw); go_simp <;> with_reducible rfl)
  (try simp only [Act.put, List.setIfInBounds_toArray, List.set_cons_zero, List.set_cons_succ])
  refine wpAnyH_take (i := 6) (oi := { dst := some 69, op := Go.Op.load 26 (Go.Operand.tmp 68), type := 26, pos := _, after := #[{ on := 5, ground := Go.Ground.data }], guard := none }) (v := ?_) rfl (by kernel_rfl) (by kernel_rfl) (by kernel_rfl) (fun _ _ _ h => h) (Or.inl ⟨by rfl, ?_⟩) hH2 ?_
  rotate_left
  · (intro w hSw; (try dsimp only at hSw); go_simp <;> with_reducible rfl)
  (try simp only [Act.put, List.setIfInBounds_toArray, List.set_cons_zero, List.set_cons_succ])
  have v0 := cell_later hb1 (show v.drew.cell? ⟨gu, 0, none⟩ = some (.int .i64 s0) from u0)
  have v1' := cell_later hb1 (show v.drew.cell? ⟨gu, 1, none⟩ = some (.int .i64 s1) from u1)
  have v2' := cell_later hb1 (show v.drew.cell? ⟨gu, 2, none⟩ = some (.int .i64 s2) from u2)
  refine wpAnyH_ready (rs := [0]) (by kernel_rfl) (by simp) ?_
  refine AllReadyH.cons (o := { dst := some 63, op := Go.Op.load 62 (Go.Operand.tmp 10), type := 62, pos := _, after := #[], guard := none }) rfl (fun K9 hK9 => ?_) AllReadyH.nil
  go_simp
  refine hK9.out _ _ ?_ (fun hH4 => ?_)
  · exact hH2
  clear hK9 K9
  (try simp only [Act.put, List.setIfInBounds_toArray, List.set_cons_zero, List.set_cons_succ])
  refine wpAnyH_ready (rs := [8]) (by kernel_rfl) (by simp) ?_
  refine AllReadyH.cons (o := { dst := some 71, op := Go.Op.call { callee := Go.Callee.value (Go.Operand.func 43), args := #[Go.Operand.tmp 63, Go.Operand.tmp 69, Go.Operand.tmp 70], argTypes := #[62, 26, 2] }, type := 62, pos := _, after := #[{ on := 0, ground := Go.Ground.data }, { on := 6, ground := Go.Ground.data }, { on := 7, ground := Go.Ground.data }, { on := 4, ground := Go.Ground.chain }], guard := none }) rfl (fun K9 hK9 => ?_) AllReadyH.nil
  go_simp
  go_at_call 43
  refine (plus_any s0 s1 s2 c0 c1 c2 lf _ hs0 hs1 hs2 hco ⟨by omega, by omega⟩).mono ?_
  rintro e w2 ⟨rfl, hb2⟩
  (try simp only [])
  refine hK9.out _ _ ?_ (fun hH3 => ?_)
  · exact ⟨cell_later hb2 hH4.1, cell_later hb2 hH4.2.1, cell_later hb2 hH4.2.2.1, cell_later hb2 hH4.2.2.2.1, cell_later hb2 hH4.2.2.2.2.1, cell_later hb2 hH4.2.2.2.2.2⟩
  clear hK9 K9
  (try simp only [Act.put, List.setIfInBounds_toArray, List.set_cons_zero, List.set_cons_succ])
  refine wpAnyH_ready (rs := [9]) (by kernel_rfl) (by simp) ?_
  refine AllReadyH.cons (o := { dst := none, op := Go.Op.store 62 (Go.Operand.tmp 10) (Go.Operand.tmp 71), type := 0, pos := _, after := #[{ on := 8, ground := Go.Ground.data }, { on := 8, ground := Go.Ground.chain }, { on := 0, ground := Go.Ground.phase }, { on := 1, ground := Go.Ground.phase }, { on := 2, ground := Go.Ground.phase }, { on := 3, ground := Go.Ground.phase }, { on := 4, ground := Go.Ground.phase }, { on := 5, ground := Go.Ground.phase }, { on := 6, ground := Go.Ground.phase }, { on := 7, ground := Go.Ground.phase }, { on := 8, ground := Go.Ground.phase }], guard := none }) rfl (fun K9 hK9 => ?_) AllReadyH.nil
  have hbv : Below v.heap.size v w2 := (Below.refl v.heap.size v).drew.trans ((hb1.mono (Nat.le_refl _)).trans (hb2.mono (by have := hb1.size; exact this)))
  obtain ⟨q0, q1, q2, fq0, fq1, fq2⟩ : Bx w2 gu s0 s1 s2 := Bx.block (w := v) ⟨u0, u1, u2, fu0, fu1, fu2⟩ (hbv.block gu hguv)
  go_simp
  have R : ∀ g9 o9, g9 ≠ gu → (((w2.setCell ⟨gu, 0, none⟩ (.int .i64 (s0 + c0 * lf))).setCell ⟨gu, 1, none⟩ (.int .i64 (s1 + c1 * lf))).setCell ⟨gu, 2, none⟩ (.int .i64 (s2 + c2 * lf))).cell? ⟨g9, o9, none⟩ = w2.cell? ⟨g9, o9, none⟩ := fun g9 o9 h9 => by
    rw [World.cell?_setCell_other _ _ _ _ (ne_blk (Ne.symm h9)), World.cell?_setCell_other _ _ _ _ (ne_blk (Ne.symm h9)), World.cell?_setCell_other _ _ _ _ (ne_blk (Ne.symm h9))]
  refine hK9.out _ _ ?_ (fun hHf => ?_)
  · exact ⟨(R _ _ hne1).trans hH3.1, (R _ _ hne1).trans hH3.2.1, (R _ _ hne1).trans hH3.2.2.1, (R _ _ hne2).trans hH3.2.2.2.1, (R _ _ hne2).trans hH3.2.2.2.2.1, (R _ _ hne2).trans hH3.2.2.2.2.2⟩
  clear hK9 K9
  (try simp only [Act.put, List.setIfInBounds_toArray, List.set_cons_zero, List.set_cons_succ])
  refine wpAnyH_done (by kernel_rfl) ?_ _
  refine NoPanic.normal ?_
  exact hQ _ _ _ _ _ _ _ _ _ w2 hbv
end Go.Proofs.Ytdmcbdogpeidjaa
