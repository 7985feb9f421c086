/-
  The region in which the model's line puts a clip behind a copy of the track; no conditions.
-/
import Derived.Test.YtfhbmfndjbdhcaaGreatDoorSLn
namespace Go.Proofs.YtfhbmfndjbdhcaaGreatDoor
open Go.RowKit
set_option linter.unusedVariables false
set_option linter.unusedSimpArgs false

theorem below_row {v X w' : World} {g : Nat} (hb : Below v.heap.size v X) (hg : X.grownBy w' (some g)) (h : v.heap.size ≤ g) : Below v.heap.size v w' := hb.grown hg hb.size (fun k hk => by injection hk with hk; omega)
theorem cells_row {X w' : World} {B2 g vs : Nat} {c1 c2 c3 : Int} (h : X.cell? ⟨B2, 0, none⟩ = some (.int .i64 c1) ∧ X.cell? ⟨B2, 1, none⟩ = some (.int .i64 c2) ∧ X.cell? ⟨B2, 2, none⟩ = some (.int .i64 c3)) (hg : X.grownBy w' (some g)) (hB : B2 < vs) (hge : vs ≤ g) (hl : B2 < X.heap.size) :
    w'.cell? ⟨B2, 0, none⟩ = some (.int .i64 c1) ∧ w'.cell? ⟨B2, 1, none⟩ = some (.int .i64 c2) ∧ w'.cell? ⟨B2, 2, none⟩ = some (.int .i64 c3) := by
  have hb := hg.block B2 hl (by intro e; injection e with e; omega)
  have C := fun i => World.cell?_of_block (a := ⟨B2, i, none⟩) hb
  exact ⟨(C _).trans h.1, (C _).trans h.2.1, (C _).trans h.2.2⟩
theorem cells_al {X w' : World} {B2 : Nat} {c1 c2 c3 : Int} (h : X.cell? ⟨B2, 0, none⟩ = some (.int .i64 c1) ∧ X.cell? ⟨B2, 1, none⟩ = some (.int .i64 c2) ∧ X.cell? ⟨B2, 2, none⟩ = some (.int .i64 c3)) (hb : Below X.heap.size X w') :
    w'.cell? ⟨B2, 0, none⟩ = some (.int .i64 c1) ∧ w'.cell? ⟨B2, 1, none⟩ = some (.int .i64 c2) ∧ w'.cell? ⟨B2, 2, none⟩ = some (.int .i64 c3) := ⟨cell_later hb h.1, cell_later hb h.2.1, cell_later hb h.2.2⟩
theorem kls_one {X : World} {E : Nat} {c1 c2 c3 : Int} (h : X.heap[E]? = some (.cells #[.int .i64 c1, .int .i64 c2, .int .i64 c3] 44 (0, 0))) : Kls X (some ⟨E, 0, none⟩) [(c1, c2, c3)] := by
  intro j x hx
  obtain ⟨d0, d1, d2⟩ := blk3 h
  have hj := (List.getElem?_eq_some_iff.1 hx).1
  simp at hj
  subst hj
  simp at hx
  subst hx
  exact ⟨E, 0, rfl, (Array.getElem?_eq_some_iff.1 h).1, d0, d1, d2⟩

set_option maxRecDepth 100000 in
set_option maxHeartbeats 2000000 in
theorem reg33 {Q : Exit → Act → World → Prop} {u0 u1 u2 u4 u5 u6 u7 u8 u9 u10 u11 u12 u13 u14 u15 u16 u17 u18 u19 u20 u21 u23 u24 u25 u26 u27 u28 u29 u30 u31 u32 u33 u34 u35 u36 u37 u38 u39 u40 u41 u42 u43 u44 u45 u46 u47 u48 u49 u50 u51 u52 u53 u54 u55 u56 u57 u58 u59 u60 u61 u62 u63 u64 u65 u66 u67 u68 u69 u70 u71 u72 u73 u74 u75 u76 u77 u78 u79 u80 u81 u82 u83 u84 u85 u86 u87 u88 u89 u90 u91 u92 u93 u94 u95 u96 u97 u98 u99 u100 u101 u102 u103 u104 u105 u106 u107 u108 u109 u110 u111 u112 u113 u114 u115 u116 u117 u118 u119 u120 u121 u122 u123 u124 u125 u126 u127 u128 u129 u130 u131 u132 u133 u134 u135 u136 u137 u138 u139 u140 u141 u142 u143 u144 u145 u146 u147 u148 u149 u150 u151 u152 : Value} (v : World) (b o tc B2 : Nat) (tr : List Kl) (c1 c2 c3 : Int) (hl : tr.length ≤ 300) (hK : Kls v (some ⟨b, o, none⟩) tr) (hp : v.heap[B2]? = some (.cells #[.int .i64 c1, .int .i64 c2, .int .i64 c3] 44 (0, 0)))
    (hQ : ∀ (g c : Nat) (x4 x5 x6 x7 x8 : Value) (w' : World), Own w' v.heap.size g (tr.length + 1) c (tr ++ [(c1, c2, c3)]) → Below v.heap.size v w' → Q .normal { tmps := #[u0, u1, u2, .slice (some ⟨b, o, none⟩) tr.length tc, u4, u5, u6, u7, u8, u9, u10, u11, u12, u13, u14, u15, u16, u17, u18, u19, u20, u21, .pointer (some ⟨B2, 0, none⟩), .slice (some ⟨g, 0, none⟩) (tr.length + 1) c, u24, u25, u26, u27, u28, u29, u30, u31, u32, u33, u34, u35, u36, u37, u38, u39, u40, u41, u42, u43, u44, u45, u46, u47, u48, u49, u50, u51, u52, u53, u54, u55, u56, u57, u58, u59, u60, u61, u62, u63, u64, u65, u66, u67, u68, u69, u70, u71, u72, u73, u74, u75, u76, u77, u78, u79, u80, u81, u82, u83, u84, u85, u86, u87, u88, u89, u90, u91, u92, u93, u94, u95, u96, u97, u98, u99, u100, u101, u102, u103, u104, u105, u106, u107, u108, u109, u110, u111, u112, u113, u114, u115, u116, u117, u118, u119, u120, u121, u122, u123, u124, u125, u126, u127, u128, u129, u130, u131, u132, u133, x4, x5, x6, x7, x8, .slice (some ⟨g, 0, none⟩) (tr.length + 1) c, u140, u141, u142, u143, u144, u145, u146, u147, u148, u149, u150, u151, u152], defers := [] } w') :
    (Code.region 33 #[{ dst := some 134, op := Go.Op.buildSlice 26 0 #[], type := 26, pos := "l06_list.go:117", after := #[], guard := none }, { dst := some 135, op := Go.Op.move (Go.Operand.tmp 3), type := 26, pos := "l06_list.go:117", after := #[], guard := none }, { dst := some 136, op := Go.Op.call { callee := Go.Callee.builtin Go.Builtin.append, args := #[Go.Operand.tmp 134, Go.Operand.tmp 135], argTypes := #[26, 26] }, type := 26, pos := "l06_list.go:117", after := #[{ on := 0, ground := Go.Ground.data }, { on := 1, ground := Go.Ground.data }], guard := none }, { dst := some 137, op := Go.Op.load 44 (Go.Operand.tmp 22), type := 44, pos := "l06_list.go:117", after := #[], guard := none }, { dst := some 138, op := Go.Op.buildSlice 26 1 #[(0, Go.Operand.tmp 137)], type := 26, pos := "l06_list.go:117", after := #[{ on := 3, ground := Go.Ground.data }], guard := none }, { dst := some 139, op := Go.Op.call { callee := Go.Callee.builtin Go.Builtin.append, args := #[Go.Operand.tmp 136, Go.Operand.tmp 138], argTypes := #[26, 26] }, type := 26, pos := "l06_list.go:117", after := #[{ on := 2, ground := Go.Ground.data }, { on := 4, ground := Go.Ground.data }, { on := 2, ground := Go.Ground.chain }], guard := none }, { dst := some 23, op := Go.Op.assign (Go.Operand.tmp 139), type := 26, pos := "l06_list.go:117", after := #[{ on := 5, ground := Go.Ground.data }, { on := 5, ground := Go.Ground.chain }, { on := 0, ground := Go.Ground.phase }, { on := 1, ground := Go.Ground.phase }, { on := 2, ground := Go.Ground.phase }, { on := 3, ground := Go.Ground.phase }, { on := 4, ground := Go.Ground.phase }, { on := 5, ground := Go.Ground.phase }], guard := none }] true).wp Tryz.prog Q { tmps := #[u0, u1, u2, .slice (some ⟨b, o, none⟩) tr.length tc, u4, u5, u6, u7, u8, u9, u10, u11, u12, u13, u14, u15, u16, u17, u18, u19, u20, u21, .pointer (some ⟨B2, 0, none⟩), u23, u24, u25, u26, u27, u28, u29, u30, u31, u32, u33, u34, u35, u36, u37, u38, u39, u40, u41, u42, u43, u44, u45, u46, u47, u48, u49, u50, u51, u52, u53, u54, u55, u56, u57, u58, u59, u60, u61, u62, u63, u64, u65, u66, u67, u68, u69, u70, u71, u72, u73, u74, u75, u76, u77, u78, u79, u80, u81, u82, u83, u84, u85, u86, u87, u88, u89, u90, u91, u92, u93, u94, u95, u96, u97, u98, u99, u100, u101, u102, u103, u104, u105, u106, u107, u108, u109, u110, u111, u112, u113, u114, u115, u116, u117, u118, u119, u120, u121, u122, u123, u124, u125, u126, u127, u128, u129, u130, u131, u132, u133, u134, u135, u136, u137, u138, u139, u140, u141, u142, u143, u144, u145, u146, u147, u148, u149, u150, u151, u152], defers := [] } v := by
  have hB2 : B2 < v.heap.size := (Array.getElem?_eq_some_iff.1 hp).1
  obtain ⟨d0, d1, d2⟩ := blk3 hp
  refine wp_region_noPanic ?_
  refine wp_region_held_drew (S := fun w' => w'.cell? ⟨B2, 0, none⟩ = some (.int .i64 c1) ∧ w'.cell? ⟨B2, 1, none⟩ = some (.int .i64 c2) ∧ w'.cell? ⟨B2, 2, none⟩ = some (.int .i64 c3)) (by kernel_rfl) ?_ (fun hH0 => ?_)
  · exact ⟨d0, d1, d2⟩
  refine wpAnyH_take (i := 1) (oi := { dst := some 135, op := Go.Op.move (Go.Operand.tmp 3), type := 26, pos := _, after := #[], guard := none }) (v := ?_) rfl (by kernel_rfl) (by kernel_rfl) (by kernel_rfl) (fun _ _ _ h => h) (Or.inl ⟨by rfl, ?_⟩) hH0 ?_
  rotate_left
  · (intro w hSw; (try dsimp only at hSw); go_simp <;> with_reducible rfl)
  (try simp only [Act.put, List.setIfInBounds_toArray, List.set_cons_zero, List.set_cons_succ])
  refine wpAnyH_take (i := 3) (oi := { dst := some 137, op := Go.Op.load 44 (Go.Operand.tmp 22), type := 44, pos := _, after := #[], guard := none }) (v := ?_) rfl (by kernel_rfl) (by kernel_rfl) (by kernel_rfl) (fun _ _ _ h => h) (Or.inl ⟨by rfl, ?_⟩) hH0 ?_
  rotate_left
  · (intro w hSw; (try dsimp only at hSw); go_simp <;> with_reducible rfl)
  (try simp only [Act.put, List.setIfInBounds_toArray, List.set_cons_zero, List.set_cons_succ])
  refine wpAnyH_ready (rs := [0, 4]) (by kernel_rfl) (by simp) ?_
  refine AllReadyH.cons (o := { dst := some 134, op := Go.Op.buildSlice 26 0 #[], type := 26, pos := _, after := #[], guard := none }) rfl (fun K9 hK9 => ?_) ?_
  · go_simp
    have hA1 : Below v.heap.size v (v.drew.alloc (.cells #[] 44)) := (Below.refl v.heap.size v).drew.alloc (Nat.le_refl _) _
    have hO1 : Own (v.drew.alloc (.cells #[] 44)) v.heap.size v.heap.size 0 0 [] := own_lit0 v.drew (Nat.le_refl _)
    refine hK9.out _ _ ?_ (fun hHs => ?_)
    · exact cells_al hH0 ((Below.refl v.drew.heap.size v.drew).alloc (Nat.le_refl _) _)
    clear hK9 K9
    (try simp only [Act.put, List.setIfInBounds_toArray, List.set_cons_zero, List.set_cons_succ])
    refine wpAnyH_ready (rs := [2, 4]) (by kernel_rfl) (by simp) ?_
    refine AllReadyH.cons (o := { dst := some 136, op := Go.Op.call { callee := Go.Callee.builtin Go.Builtin.append, args := #[Go.Operand.tmp 134, Go.Operand.tmp 135], argTypes := #[26, 26] }, type := 26, pos := _, after := #[{ on := 0, ground := Go.Ground.data }, { on := 1, ground := Go.Ground.data }], guard := none }) rfl (fun K9 hK9 => ?_) ?_
    · refine step_kA Tryz.underlying26 _ rfl _ _ rfl v.heap.size v.heap.size 0 0 [] tr b o tc rfl hO1 rfl (hK.below hA1) (by omega) (by omega) hA1.size ?_
      intro g2 cp2 w2 ho2 hgr2 hg2
      rw [Nat.zero_add, List.nil_append] at ho2
      rw [Nat.zero_add]
      have hbel2 := below_row hA1 hgr2 (own_ge hO1)
      refine hK9.out _ _ ?_ (fun hHt => ?_)
      · exact cells_row hHs hgr2 hB2 (own_ge hO1) (Nat.lt_of_lt_of_le hB2 hA1.size)
      clear hK9 K9
      (try simp only [Act.put, List.setIfInBounds_toArray, List.set_cons_zero, List.set_cons_succ])
      have hHs := hHt
      refine wpAnyH_ready (rs := [4]) (by kernel_rfl) (by simp) ?_
      refine AllReadyH.cons (o := { dst := some 138, op := Go.Op.buildSlice 26 1 #[(0, Go.Operand.tmp 137)], type := 26, pos := _, after := #[{ on := 3, ground := Go.Ground.data }], guard := none }) rfl (fun K9 hK9 => ?_) AllReadyH.nil
      go_simp
      have hA3 : Below v.heap.size v (w2.alloc (.cells #[.int .i64 c1, .int .i64 c2, .int .i64 c3] 44)) := hbel2.alloc hbel2.size _
      have hO3 := ownsRow_below ho2 ((Below.refl w2.heap.size w2).alloc (Nat.le_refl _) (.cells #[.int .i64 c1, .int .i64 c2, .int .i64 c3] 44))
      have hb3 := alloc_new w2 (.cells #[.int .i64 c1, .int .i64 c2, .int .i64 c3] 44)
      refine hK9.out _ _ ?_ (fun hHu => ?_)
      · exact cells_al hHs ((Below.refl w2.heap.size w2).alloc (Nat.le_refl _) _)
      clear hK9 K9
      (try simp only [Act.put, List.setIfInBounds_toArray, List.set_cons_zero, List.set_cons_succ])
      have hHs := hHu
      refine wpAnyH_ready (rs := [5]) (by kernel_rfl) (by simp) ?_
      refine AllReadyH.cons (o := { dst := some 139, op := Go.Op.call { callee := Go.Callee.builtin Go.Builtin.append, args := #[Go.Operand.tmp 136, Go.Operand.tmp 138], argTypes := #[26, 26] }, type := 26, pos := _, after := #[{ on := 2, ground := Go.Ground.data }, { on := 4, ground := Go.Ground.data }, { on := 2, ground := Go.Ground.chain }], guard := none }) rfl (fun K9 hK9 => ?_) AllReadyH.nil
      have hk5 : Kls _ (some ⟨w2.heap.size, 0, none⟩) [(c1, c2, c3)] := kls_one hb3
      refine step_kA Tryz.underlying26 _ rfl _ _ rfl v.heap.size g2 tr.length cp2 tr [(c1, c2, c3)] w2.heap.size 0 1 rfl hO3 rfl hk5 (by omega) (by simp) hA3.size ?_
      intro g5 cp5 w5 ho5 hgr5 hg5
      have hbel5 := below_row hA3 hgr5 (own_ge hO3)
      refine hK9.out _ _ ?_ (fun hHf => ?_)
      · exact cells_row hHs hgr5 hB2 (own_ge hO3) (Nat.lt_of_lt_of_le hB2 hA3.size)
      clear hK9 K9
      (try simp only [Act.put, List.setIfInBounds_toArray, List.set_cons_zero, List.set_cons_succ])
      refine wpAnyH_take (i := 6) (oi := { dst := some 23, op := Go.Op.assign (Go.Operand.tmp 139), type := 26, pos := _, after := #[{ on := 5, ground := Go.Ground.data }, { on := 5, ground := Go.Ground.chain }, { on := 0, ground := Go.Ground.phase }, { on := 1, ground := Go.Ground.phase }, { on := 2, ground := Go.Ground.phase }, { on := 3, ground := Go.Ground.phase }, { on := 4, ground := Go.Ground.phase }, { on := 5, ground := Go.Ground.phase }], guard := none }) (v := ?_) rfl (by kernel_rfl) (by kernel_rfl) (by kernel_rfl) (fun _ _ _ h => h) (Or.inl ⟨by rfl, ?_⟩) hHf ?_
      rotate_left
      · (intro w hSw; (try dsimp only at hSw); go_simp <;> with_reducible rfl)
      (try simp only [Act.put, List.setIfInBounds_toArray, List.set_cons_zero, List.set_cons_succ])
      refine wpAnyH_done (by kernel_rfl) ?_ _
      refine NoPanic.normal ?_
      exact hQ _ _ _ _ _ _ _ _ (show Own w5 v.heap.size g5 (tr.length + 1) cp5 (tr ++ [(c1, c2, c3)]) by have := ho5; simpa using this) hbel5
    refine AllReadyH.cons (o := { dst := some 138, op := Go.Op.buildSlice 26 1 #[(0, Go.Operand.tmp 137)], type := 26, pos := _, after := #[{ on := 3, ground := Go.Ground.data }], guard := none }) rfl (fun K9 hK9 => ?_) AllReadyH.nil
    go_simp
    have hA3 : Below v.heap.size v ((v.drew.alloc (.cells #[] 44)).alloc (.cells #[.int .i64 c1, .int .i64 c2, .int .i64 c3] 44)) := hA1.alloc hA1.size _
    have hO3 := ownsRow_below hO1 ((Below.refl _ (v.drew.alloc (.cells #[] 44))).alloc (Nat.le_refl _) (.cells #[.int .i64 c1, .int .i64 c2, .int .i64 c3] 44))
    have hb3 : ((v.drew.alloc (.cells #[] 44)).alloc (.cells #[.int .i64 c1, .int .i64 c2, .int .i64 c3] 44)).heap[v.heap.size + 1]? = some (.cells #[.int .i64 c1, .int .i64 c2, .int .i64 c3] 44 (0, 0)) := by have := alloc_new (v.drew.alloc (.cells #[] 44)) (.cells #[.int .i64 c1, .int .i64 c2, .int .i64 c3] 44); simpa using this
    refine hK9.out _ _ ?_ (fun hHu => ?_)
    · exact cells_al hHs ((Below.refl _ _).alloc (Nat.le_refl _) _)
    clear hK9 K9
    (try simp only [Act.put, List.setIfInBounds_toArray, List.set_cons_zero, List.set_cons_succ])
    have hHs := hHu
    refine wpAnyH_ready (rs := [2]) (by kernel_rfl) (by simp) ?_
    refine AllReadyH.cons (o := { dst := some 136, op := Go.Op.call { callee := Go.Callee.builtin Go.Builtin.append, args := #[Go.Operand.tmp 134, Go.Operand.tmp 135], argTypes := #[26, 26] }, type := 26, pos := _, after := #[{ on := 0, ground := Go.Ground.data }, { on := 1, ground := Go.Ground.data }], guard := none }) rfl (fun K9 hK9 => ?_) AllReadyH.nil
    refine step_kA Tryz.underlying26 _ rfl _ _ rfl v.heap.size v.heap.size 0 0 [] tr b o tc rfl hO3 rfl (hK.below hA3) (by omega) (by omega) hA3.size ?_
    intro g2 cp2 w2 ho2 hgr2 hg2
    rw [Nat.zero_add, List.nil_append] at ho2
    rw [Nat.zero_add]
    have hbel2 := below_row hA3 hgr2 (own_ge hO3)
    have hb4 : w2.heap[v.heap.size + 1]? = some (.cells #[.int .i64 c1, .int .i64 c2, .int .i64 c3] 44 (0, 0)) := (hgr2.block _ (Array.getElem?_eq_some_iff.1 hb3).1 (by intro e; injection e with e; omega)).trans hb3
    refine hK9.out _ _ ?_ (fun hHt => ?_)
    · exact cells_row hHs hgr2 hB2 (own_ge hO3) (Nat.lt_of_lt_of_le hB2 hA3.size)
    clear hK9 K9
    (try simp only [Act.put, List.setIfInBounds_toArray, List.set_cons_zero, List.set_cons_succ])
    have hHs := hHt
    refine wpAnyH_ready (rs := [5]) (by kernel_rfl) (by simp) ?_
    refine AllReadyH.cons (o := { dst := some 139, op := Go.Op.call { callee := Go.Callee.builtin Go.Builtin.append, args := #[Go.Operand.tmp 136, Go.Operand.tmp 138], argTypes := #[26, 26] }, type := 26, pos := _, after := #[{ on := 2, ground := Go.Ground.data }, { on := 4, ground := Go.Ground.data }, { on := 2, ground := Go.Ground.chain }], guard := none }) rfl (fun K9 hK9 => ?_) AllReadyH.nil
    have hk5 : Kls _ (some ⟨(v.heap.size + 1), 0, none⟩) [(c1, c2, c3)] := kls_one hb4
    refine step_kA Tryz.underlying26 _ rfl _ _ rfl v.heap.size g2 tr.length cp2 tr [(c1, c2, c3)] (v.heap.size + 1) 0 1 rfl ho2 rfl hk5 (by omega) (by simp) hbel2.size ?_
    intro g5 cp5 w5 ho5 hgr5 hg5
    have hbel5 := below_row hbel2 hgr5 (own_ge ho2)
    refine hK9.out _ _ ?_ (fun hHf => ?_)
    · exact cells_row hHs hgr5 hB2 (own_ge ho2) (Nat.lt_of_lt_of_le hB2 hbel2.size)
    clear hK9 K9
    (try simp only [Act.put, List.setIfInBounds_toArray, List.set_cons_zero, List.set_cons_succ])
    refine wpAnyH_take (i := 6) (oi := { dst := some 23, op := Go.Op.assign (Go.Operand.tmp 139), type := 26, pos := _, after := #[{ on := 5, ground := Go.Ground.data }, { on := 5, ground := Go.Ground.chain }, { on := 0, ground := Go.Ground.phase }, { on := 1, ground := Go.Ground.phase }, { on := 2, ground := Go.Ground.phase }, { on := 3, ground := Go.Ground.phase }, { on := 4, ground := Go.Ground.phase }, { on := 5, ground := Go.Ground.phase }], guard := none }) (v := ?_) rfl (by kernel_rfl) (by kernel_rfl) (by kernel_rfl) (fun _ _ _ h => h) (Or.inl ⟨by rfl, ?_⟩) hHf ?_
    rotate_left
    · (intro w hSw; (try dsimp only at hSw); go_simp <;> with_reducible rfl)
    (try simp only [Act.put, List.setIfInBounds_toArray, List.set_cons_zero, List.set_cons_succ])
    refine wpAnyH_done (by kernel_rfl) ?_ _
    refine NoPanic.normal ?_
    exact hQ _ _ _ _ _ _ _ _ (show Own w5 v.heap.size g5 (tr.length + 1) cp5 (tr ++ [(c1, c2, c3)]) by have := ho5; simpa using this) hbel5
  refine AllReadyH.cons (o := { dst := some 138, op := Go.Op.buildSlice 26 1 #[(0, Go.Operand.tmp 137)], type := 26, pos := _, after := #[{ on := 3, ground := Go.Ground.data }], guard := none }) rfl (fun K9 hK9 => ?_) AllReadyH.nil
  go_simp
  have hA1 : Below v.heap.size v (v.drew.alloc (.cells #[.int .i64 c1, .int .i64 c2, .int .i64 c3] 44)) := (Below.refl v.heap.size v).drew.alloc (Nat.le_refl _) _
  have hb1 : (v.drew.alloc (.cells #[.int .i64 c1, .int .i64 c2, .int .i64 c3] 44)).heap[v.heap.size]? = some (.cells #[.int .i64 c1, .int .i64 c2, .int .i64 c3] 44 (0, 0)) := alloc_new v.drew (.cells #[.int .i64 c1, .int .i64 c2, .int .i64 c3] 44)
  refine hK9.out _ _ ?_ (fun hHs => ?_)
  · exact cells_al hH0 ((Below.refl v.drew.heap.size v.drew).alloc (Nat.le_refl _) _)
  clear hK9 K9
  (try simp only [Act.put, List.setIfInBounds_toArray, List.set_cons_zero, List.set_cons_succ])
  refine wpAnyH_ready (rs := [0]) (by kernel_rfl) (by simp) ?_
  refine AllReadyH.cons (o := { dst := some 134, op := Go.Op.buildSlice 26 0 #[], type := 26, pos := _, after := #[], guard := none }) rfl (fun K9 hK9 => ?_) AllReadyH.nil
  go_simp
  have hA3 : Below v.heap.size v ((v.drew.alloc (.cells #[.int .i64 c1, .int .i64 c2, .int .i64 c3] 44)).alloc (.cells #[] 44)) := hA1.alloc hA1.size _
  have hO3 : Own ((v.drew.alloc (.cells #[.int .i64 c1, .int .i64 c2, .int .i64 c3] 44)).alloc (.cells #[] 44)) v.heap.size (v.heap.size + 1) 0 0 [] := by have := own_lit0 (v.drew.alloc (.cells #[.int .i64 c1, .int .i64 c2, .int .i64 c3] 44)) (B := v.heap.size) (by simp); simpa using this
  have hb3 := blk_below hb1 ((Below.refl _ (v.drew.alloc (.cells #[.int .i64 c1, .int .i64 c2, .int .i64 c3] 44))).alloc (Nat.le_refl _) (.cells #[] 44))
  refine hK9.out _ _ ?_ (fun hHu => ?_)
  · exact cells_al hHs ((Below.refl _ _).alloc (Nat.le_refl _) _)
  clear hK9 K9
  (try simp only [Act.put, List.setIfInBounds_toArray, List.set_cons_zero, List.set_cons_succ])
  have hHs := hHu
  refine wpAnyH_ready (rs := [2]) (by kernel_rfl) (by simp) ?_
  refine AllReadyH.cons (o := { dst := some 136, op := Go.Op.call { callee := Go.Callee.builtin Go.Builtin.append, args := #[Go.Operand.tmp 134, Go.Operand.tmp 135], argTypes := #[26, 26] }, type := 26, pos := _, after := #[{ on := 0, ground := Go.Ground.data }, { on := 1, ground := Go.Ground.data }], guard := none }) rfl (fun K9 hK9 => ?_) AllReadyH.nil
  refine step_kA Tryz.underlying26 _ rfl _ _ rfl v.heap.size (v.heap.size + 1) 0 0 [] tr b o tc rfl hO3 rfl (hK.below hA3) (by omega) (by omega) hA3.size ?_
  intro g2 cp2 w2 ho2 hgr2 hg2
  rw [Nat.zero_add, List.nil_append] at ho2
  rw [Nat.zero_add]
  have hbel2 := below_row hA3 hgr2 (own_ge hO3)
  have hb4 : w2.heap[v.heap.size]? = some (.cells #[.int .i64 c1, .int .i64 c2, .int .i64 c3] 44 (0, 0)) := (hgr2.block _ (Array.getElem?_eq_some_iff.1 hb3).1 (by intro e; injection e with e; omega)).trans hb3
  refine hK9.out _ _ ?_ (fun hHt => ?_)
  · exact cells_row hHs hgr2 hB2 (own_ge hO3) (Nat.lt_of_lt_of_le hB2 hA3.size)
  clear hK9 K9
  (try simp only [Act.put, List.setIfInBounds_toArray, List.set_cons_zero, List.set_cons_succ])
  have hHs := hHt
  refine wpAnyH_ready (rs := [5]) (by kernel_rfl) (by simp) ?_
  refine AllReadyH.cons (o := { dst := some 139, op := Go.Op.call { callee := Go.Callee.builtin Go.Builtin.append, args := #[Go.Operand.tmp 136, Go.Operand.tmp 138], argTypes := #[26, 26] }, type := 26, pos := _, after := #[{ on := 2, ground := Go.Ground.data }, { on := 4, ground := Go.Ground.data }, { on := 2, ground := Go.Ground.chain }], guard := none }) rfl (fun K9 hK9 => ?_) AllReadyH.nil
  have hk5 : Kls _ (some ⟨v.heap.size, 0, none⟩) [(c1, c2, c3)] := kls_one hb4
  refine step_kA Tryz.underlying26 _ rfl _ _ rfl v.heap.size g2 tr.length cp2 tr [(c1, c2, c3)] v.heap.size 0 1 rfl ho2 rfl hk5 (by omega) (by simp) hbel2.size ?_
  intro g5 cp5 w5 ho5 hgr5 hg5
  have hbel5 := below_row hbel2 hgr5 (own_ge ho2)
  refine hK9.out _ _ ?_ (fun hHf => ?_)
  · exact cells_row hHs hgr5 hB2 (own_ge ho2) (Nat.lt_of_lt_of_le hB2 hbel2.size)
  clear hK9 K9
  (try simp only [Act.put, List.setIfInBounds_toArray, List.set_cons_zero, List.set_cons_succ])
  refine wpAnyH_take (i := 6) (oi := { dst := some 23, op := Go.Op.assign (Go.Operand.tmp 139), type := 26, pos := _, after := #[{ on := 5, ground := Go.Ground.data }, { on := 5, ground := Go.Ground.chain }, { on := 0, ground := Go.Ground.phase }, { on := 1, ground := Go.Ground.phase }, { on := 2, ground := Go.Ground.phase }, { on := 3, ground := Go.Ground.phase }, { on := 4, ground := Go.Ground.phase }, { on := 5, ground := Go.Ground.phase }], guard := none }) (v := ?_) rfl (by kernel_rfl) (by kernel_rfl) (by kernel_rfl) (fun _ _ _ h => h) (Or.inl ⟨by rfl, ?_⟩) hHf ?_
  rotate_left
  · (intro w hSw; (try dsimp only at hSw); go_simp <;> with_reducible rfl)
  (try simp only [Act.put, List.setIfInBounds_toArray, List.set_cons_zero, List.set_cons_succ])
  refine wpAnyH_done (by kernel_rfl) ?_ _
  refine NoPanic.normal ?_
  exact hQ _ _ _ _ _ _ _ _ (show Own w5 v.heap.size g5 (tr.length + 1) cp5 (tr ++ [(c1, c2, c3)]) by have := ho5; simpa using this) hbel5
end Go.Proofs.YtfhbmfndjbdhcaaGreatDoor
