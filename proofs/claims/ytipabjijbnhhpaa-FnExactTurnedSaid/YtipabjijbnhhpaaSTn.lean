/-
  The contract of the model's Turned.
-/
import Derived.Test.YtipabjijbnhhpaaAdds
namespace Go.Proofs.Ytipabjijbnhhpaa
open Go.RowKit
set_option linter.unusedVariables false
set_option linter.unusedSimpArgs false

theorem step_c {T : TypeId} (hT : Try.prog.underlying T = some (.slice 42)) {ops : Array Oper} {o : Oper} {a : Act} {K : Act → World → Prop} {Q : Exit → Act → World → Prop} {E' : Prop} (w : World) (hgd : o.guard = none) (s x : Operand) (ho : o.op = .call { callee := .builtin .append, args := #[s, x], argTypes := #[T, T] })
    (B g n cap : Nat) (L : List Ch) (v : Ch) (hs : a.eval s = .slice (some ⟨g, 0, none⟩) n cap) (hown : OwnC w B g n cap L) (E : Nat) (hx : a.eval x = .slice (some ⟨E, 0, none⟩) 1 1)
    (hblk : w.heap[E]? = some (.cells #[.int .i64 v.1, .int .i64 v.2.1, .int .i64 v.2.2.1, .int .i64 v.2.2.2] 42 (0, 0))) (hl : n ≤ 1000000) (hB : B ≤ w.heap.size)
    (h : ∀ g' cap' w', OwnC w' B g' (n + 1) cap' (L ++ [v]) → w.grownBy w' (some g) → (g' = g ∨ g' = w.heap.size) → K (a.put o.dst (.slice (some ⟨g', 0, none⟩) (n + 1) cap')) w') :
    if Region.wanted o (yielded ops a.tmps) = true then Oper.wp Try.prog o a w K Q else E' := by
  obtain ⟨i0, hi, hz0, hz1, hz2⟩ := info_parts info48
  refine step_append_lies w hgd s x T ho B 42 i0 (.agg #[.int .i64 0, .int .i64 0, .int .i64 0, .int .i64 0]) 4 32 hT hi hz0 hz1 hz2 rfl (by decide) _ n (flC L) hs hown ⟨E, 0, none⟩ 1 1 [iv v.1, iv v.2.1, iv v.2.2.1, iv v.2.2.2] hx rfl (C_news hblk) (by intro u hu; simp at hu; rcases hu with rfl | rfl | rfl | rfl <;> rfl) (by decide) (by unfold maxLen; omega) (by omega) hB w.heap.size rfl ?_
  intro g' cap' w' h1 h2 h3 h4
  exact h g' cap' w' (by show World.ownsRow _ _ _ _ _ _ _; rw [flC_append]; exact h1) (by simpa [Value.ownBlock] using h2) (Or.imp (fun h3 => by simp [Value.ownBlock] at h3; exact h3.symm) id h3)

set_option maxRecDepth 100000 in
set_option maxHeartbeats 6400000 in
theorem sturned_any (a b : Option Addr) (ca cb : Nat) (l : List Kl) (cs : List Ch) (w : World) (hl0 : l.length ≤ maxLen) (hc0 : cs.length ≤ maxLen) (hk : Kls w a l) (hkc : Chs w b cs) :
    Calls Try.prog 16 #[.slice a l.length ca, .slice b cs.length cb] w fun e w' => TnR w w' (turnedOf l cs) e := by
  have hk' := hide hk
  have hkc' := hide hkc
  clear hk hkc
  by_cases hap : (applyOf l cs).isSome = true
  case neg =>
    have hap' : (applyOf l cs).isSome = false := by simpa using hap
    have hr := hide (show turnedOf l cs = none by unfold turnedOf; rw [hap']; rfl)
    have hap2 := hide hap'
    clear hap hap'
    go_enter Try.func16, Try.ntmps16
    go_wp2_with fail
    refine (sapply_any a b ca cb l cs _ hl0 hc0 (unhide hk') (unhide hkc')).mono ?_
    rintro e w1 ⟨g1, c1, rfl, _, _, hb⟩
    rw [unhide hap2]
    go_wp2
    exact bodyPost_ret (v := .tuple #[.slice (some ⟨w1.heap.size, 0, none⟩) 0 0, .bool false]) (by simp [results, Try.results16, go_sem]) rfl (tnR_none (unhide hr) hb)
  obtain ⟨hT, hC, hs⟩ := apply_some hap
  have hap2 := hide hap
  have hr := hide (show turnedOf l cs = some (tnUp l cs cs.length) by unfold turnedOf; rw [hap]; rfl)
  have hlT : l.length ≤ 300 := hT.1
  have hlC : cs.length ≤ 300 := hC.1
  have hT' := hide hT
  have hC' := hide hC
  clear hT hC hap hs
  go_enter Try.func16, Try.ntmps16
  go_wp2_with fail
  refine (sapply_any a b ca cb l cs _ hl0 hc0 (unhide hk') (unhide hkc')).mono ?_
  rintro e w1 ⟨g1, c1, rfl, _, _, hb⟩
  rw [unhide hap2]
  have hO0 := hide (ownc_lit0 w1 hb.size)
  have hB0 := hide (hb.alloc hb.size (.cells #[] 42))
  clear hb hap2
  generalize (outL (applyOf l cs)).length = nn at *
  go_wp2
  go_loopw [8, 9, 10] (fun s q t wr => ∃ k g c : Nat, k ≤ cs.length ∧ t = .int .i64 k ∧ q = .int .i64 (oldL (cs.take k)) ∧ s = .slice (some ⟨g, 0, none⟩) (tnUp l cs k).length c ∧ Hid (OwnC wr w.heap.size g (tnUp l cs k).length c (tnUp l cs k)) ∧ Hid (Below w.heap.size w wr)) (fun _ _ t _ => cs.length - (intOf t).toNat)
  case atStart => exact ⟨0, w1.heap.size, 0, by omega, rfl, by simp [oldL], rfl, hO0, hB0⟩
  case round =>
    clear hO0 hB0
    obtain ⟨k, g, c, hk, rfl, rfl, rfl, hO, hwB⟩ := hrel
    obtain ⟨q0, q1, _, _⟩ := sums_take (unhide hC') k
    obtain ⟨M, hM⟩ : ∃ M, M = tnUp l cs k := ⟨_, rfl⟩
    have hMl : M.length ≤ 100000 := by rw [hM]; exact tnUp_bd hlT (by omega)
    rw [← hM] at hO ⊢
    by_cases hlt : k < cs.length
    · obtain ⟨x1, x2, x3, x4, b', o', hx, rfl, hb0, c0, c1', c2, c3⟩ := chs_at (unhide hkc') (unhide hwB) hlt
      have hH := (unhide hC').2 _ (List.mem_of_getElem? hx)
      have hlen := hH.len
      have hkind : x1 = 1 ∨ x1 = 2 ∨ x1 = 3 := by rcases hH with h | h <;> simp only at h <;> omega
      simp only at hlen
      obtain ⟨n0, n1⟩ := hlen
      have hso := hide (oldL_snoc hx)
      have hm := hide (show tnUp l cs (k + 1) = M ++ tn1 l (oldL (cs.take k)) (x1, x2, x3, x4) by rw [tnUp_succ, tnAt_eq hx, hM])
      have hglt := own_lt (unhide hO)
      have hsz := (unhide hwB).size
      have hgw : wr.heap.size ≠ g := by omega
      clear hx hH hM
      generalize hok : oldL (cs.take k) = ok at *
      rcases hkind with rfl | rfl | rfl
      · have hX := (((Below.refl wr.heap.size wr).alloc (Nat.le_refl _) (.cells #[.int .i64 1, .int .i64 x2, .int .i64 x3, .int .i64 x4] 42)).alloc (by simp) (.cells #[.int .i64 1, .int .i64 x2, .int .i64 x3, .int .i64 x4] 42))
        have hOX := hide (ownsRow_below (unhide hO) hX)
        have hwX := hide (laterB (unhide hwB) hX)
        have hcX : ((wr.alloc (.cells #[.int .i64 1, .int .i64 x2, .int .i64 x3, .int .i64 x4] 42)).alloc (.cells #[.int .i64 1, .int .i64 x2, .int .i64 x3, .int .i64 x4] 42)).cell? ⟨wr.heap.size, 3, none⟩ = some (.int .i64 x4) := by simp [go_sem]
        have hnb := hide (show ((wr.alloc (.cells #[.int .i64 1, .int .i64 x2, .int .i64 x3, .int .i64 x4] 42)).alloc (.cells #[.int .i64 1, .int .i64 x2, .int .i64 x3, .int .i64 x4] 42)).heap[wr.heap.size + 1]? = some (.cells #[.int .i64 1, .int .i64 x2, .int .i64 x3, .int .i64 x4] 42 (0, 0)) by
          have := World.alloc_heap_new (wr.alloc (.cells #[.int .i64 1, .int .i64 x2, .int .i64 x3, .int .i64 x4] 42)) (.cells #[.int .i64 1, .int .i64 x2, .int .i64 x3, .int .i64 x4] 42)
          rwa [World.size_alloc] at this)
        have hcX' := hide hcX
        clear hX hO hcX
        go_wp2_with (at_builtin; refine wpList_c Try.underlying30 _ rfl _ _ rfl w.heap.size g M.length c M (1, x2, x3, x4) rfl (unhide hOX) (wr.heap.size + 1) rfl (unhide hnb) (by omega) (by simp; omega) ?_)
        intro g' cap' w' h1 h2 h3
        have hm2 := hide (show tnUp l cs (k + 1) = M ++ [(1, x2, x3, x4)] by rw [unhide hm]; simp [tn1])
        have hO2 := hide (show OwnC w' w.heap.size g' (M ++ [(1, x2, x3, x4)]).length cap' (M ++ [(1, x2, x3, x4)]) by simpa using h1)
        have hw2 := hide ((unhide hwX).grown h2 (unhide hwX).size (fun q e => by injection e with e; have := own_ge (unhide hOX); omega))
        have hc2 : w'.cell? ⟨wr.heap.size, 3, none⟩ = some (.int .i64 x4) := cell_gr h2 hgw (unhide hcX')
        clear h1 h2 h3 hOX hwX hnb hcX' hwB c0 c1' c2 c3
        go_wp2
        go_roundw
        case rel => exact ⟨k + 1, g', cap', by omega, by go_num, by rw [unhide hso]; simp [oldC], by rw [unhide hm2]; simp, by rw [unhide hm2]; exact hO2, hw2⟩
        case measure => simp [intOf]; omega
      · have hX := ((Below.refl wr.heap.size wr).alloc (Nat.le_refl _) (.cells #[.int .i64 2, .int .i64 x2, .int .i64 x3, .int .i64 x4] 42))
        have hwX := laterB (unhide hwB) hX
        have hOX := ownsRow_below (unhide hO) hX
        have hcX : (wr.alloc (.cells #[.int .i64 2, .int .i64 x2, .int .i64 x3, .int .i64 x4] 42)).cell? ⟨wr.heap.size, 3, none⟩ = some (.int .i64 x4) := by simp [go_sem]
        have hwX' := hide hwX
        have hOX' := hide hOX
        clear hX hwX hOX hO
        go_wp2_with fail
        refine (spart_any a ca l ok (ok + x4) _ (unhide hT') ⟨by omega, by omega⟩ ⟨by omega, by omega⟩ ((unhide hk').below (unhide hwX'))).mono ?_
        rintro e w3 ⟨g3, c3', rfl, q3, n3, k3⟩
        have hpl := part_len l ok (ok + x4)
        have hcX3 := cell_later k3 hcX
        have hO3 := hide (ownsRow_below (unhide hOX') k3)
        have hB3 := hide (laterB (unhide hwX') k3)
        have n3' := hide n3
        have hpok := hide (part_ok (unhide hT').2.1 ok (ok + x4))
        clear k3 n3 hOX' hwX' hcX q3
        go_wp2_with fail
        refine (sjoin_any (some ⟨g3, 0, none⟩) c3' (part l ok (ok + x4)) _ (by omega) (unhide hpok) (kls_own (unhide n3'))).mono ?_
        rintro e w4 ⟨g2, c2', rfl, q2, n2, k2⟩
        have hcX4 := cell_later k2 hcX3
        have hO4 := hide (ownsRow_below (unhide hO3) k2)
        have hB4 := hide (laterB (unhide hB3) k2)
        have n2' := hide (own_mono n2 (Nat.zero_le _))
        have hjl := len_join (part l ok (ok + x4))
        have hm2 := hide (show tnUp l cs (k + 1) = M ++ adds (join (part l ok (ok + x4))) by rw [unhide hm]; simp [tn1])
        clear k2 n2 hO3 hB3 hcX3 n3' hpok q2 c0 c1' c2 c3 hwB
        generalize join (part l ok (ok + x4)) = J at *
        have hcbl := World.block_lt_of_cell? _ _ hcX4
        simp only at hcbl
        clear hglt
        generalize wr.heap.size = xb at *
        go_wp2
        go_loopw [8, 13] (fun s t wr => ∃ j gi ci : Nat, j ≤ J.length ∧ t = .int .i64 j ∧ s = .slice (some ⟨gi, 0, none⟩) (M ++ adds (J.take j)).length ci ∧ Hid (OwnC wr w.heap.size gi (M ++ adds (J.take j)).length ci (M ++ adds (J.take j))) ∧ Hid (Own wr 0 g2 J.length c2' J) ∧ wr.cell? ⟨xb, 3, none⟩ = some (.int .i64 x4) ∧ xb ≠ gi ∧ xb < wr.heap.size ∧ Hid (Below w.heap.size w wr)) (fun _ t _ => J.length - (intOf t).toNat)
        case atStart => exact ⟨0, g, c, by omega, rfl, by simp [adds], hide (by simpa [adds] using unhide hO4), n2', hcX4, hgw, hcbl, hB4⟩
        case round =>
          clear hO4 hB4 hcX4 n2' hgw
          obtain ⟨j, gi, ci, hj, rfl, rfl, hO, hI, hci, hgw, hwlt, hBi⟩ := hrel
          obtain ⟨N, hN⟩ : ∃ N, N = M ++ adds (J.take j) := ⟨_, rfl⟩
          have hNl : N.length ≤ 300000 := by rw [hN, List.length_append, adds_len, List.length_take]; omega
          rw [← hN] at hO ⊢
          by_cases hjt : j < J.length
          · obtain ⟨⟨y1, y2, y3⟩, hy⟩ : ∃ y, J[j]? = some y := ⟨J[j], List.getElem?_eq_getElem hjt⟩
            obtain ⟨e0, e1, e2⟩ := own_cells hy (unhide hI)
            simp only at e0 e1 e2
            have hns := hide (show M ++ adds (J.take (j + 1)) = N ++ [(3, y1, y2, y3)] by rw [adds_snoc hy, hN, List.append_assoc])
            clear hy hN
            go_wp2_with fail
            refine wp_region_noPanic ?_
            refine wp_region_held_drew (S := fun w' => w'.cell? ⟨g2, j * 3, none⟩ = some (.int .i64 y1) ∧ w'.cell? ⟨g2, j * 3 + 1, none⟩ = some (.int .i64 y2) ∧ w'.cell? ⟨g2, j * 3 + 2, none⟩ = some (.int .i64 y3)) (by kernel_rfl) ?_ (fun hH0 => ?_)
            · exact ⟨e0, e1, e2⟩
            refine wpAnyH_take (i := 0) (oi := { dst := some 70, op := Go.Op.move (Go.Operand.tmp 8), type := 30, pos := _, after := #[], guard := none }) (v := ?_) rfl (by kernel_rfl) (by kernel_rfl) (by kernel_rfl) (fun _ _ _ h => h) (Or.inl ⟨by rfl, ?_⟩) hH0 ?_
            rotate_left
            · (intro w hSw; (try dsimp only at hSw); go_simp <;> with_reducible rfl)
            (try simp only [Act.put, List.setIfInBounds_toArray, List.set_cons_zero, List.set_cons_succ])
            refine wpAnyH_take (i := 1) (oi := { dst := some 71, op := Go.Op.move (Go.Operand.tmp 12), type := 26, pos := _, after := #[], guard := none }) (v := ?_) rfl (by kernel_rfl) (by kernel_rfl) (by kernel_rfl) (fun _ _ _ h => h) (Or.inl ⟨by rfl, ?_⟩) hH0 ?_
            rotate_left
            · (intro w hSw; (try dsimp only at hSw); go_simp <;> with_reducible rfl)
            (try simp only [Act.put, List.setIfInBounds_toArray, List.set_cons_zero, List.set_cons_succ])
            refine wpAnyH_take (i := 2) (oi := { dst := some 72, op := Go.Op.move (Go.Operand.tmp 13), type := 3, pos := _, after := #[], guard := none }) (v := ?_) rfl (by kernel_rfl) (by kernel_rfl) (by kernel_rfl) (fun _ _ _ h => h) (Or.inl ⟨by rfl, ?_⟩) hH0 ?_
            rotate_left
            · (intro w hSw; (try dsimp only at hSw); go_simp <;> with_reducible rfl)
            (try simp only [Act.put, List.setIfInBounds_toArray, List.set_cons_zero, List.set_cons_succ])
            refine wpAnyH_take (i := 3) (oi := { dst := some 73, op := Go.Op.indexAddr 26 (Go.Operand.tmp 71) (Go.Operand.tmp 72), type := 0, pos := _, after := #[{ on := 1, ground := Go.Ground.data }, { on := 2, ground := Go.Ground.data }], guard := none }) (v := ?_) rfl (by kernel_rfl) (by kernel_rfl) (by kernel_rfl) (fun _ _ _ h => h) (Or.inl ⟨by rfl, ?_⟩) hH0 ?_
            rotate_left
            · (intro w hSw; (try dsimp only at hSw); go_simp <;> with_reducible rfl)
            (try simp only [Act.put, List.setIfInBounds_toArray, List.set_cons_zero, List.set_cons_succ])
            refine wpAnyH_take (i := 4) (oi := { dst := some 74, op := Go.Op.fieldAddr 44 (Go.Operand.tmp 73) 0, type := 0, pos := _, after := #[{ on := 3, ground := Go.Ground.data }], guard := none }) (v := ?_) rfl (by kernel_rfl) (by kernel_rfl) (by kernel_rfl) (fun _ _ _ h => h) (Or.inl ⟨by rfl, ?_⟩) hH0 ?_
            rotate_left
            · (intro w hSw; (try dsimp only at hSw); go_simp <;> with_reducible rfl)
            (try simp only [Act.put, List.setIfInBounds_toArray, List.set_cons_zero, List.set_cons_succ])
            refine wpAnyH_take (i := 5) (oi := { dst := some 75, op := Go.Op.load 2 (Go.Operand.tmp 74), type := 2, pos := _, after := #[{ on := 4, ground := Go.Ground.data }], guard := none }) (v := ?_) rfl (by kernel_rfl) (by kernel_rfl) (by kernel_rfl) (fun _ _ _ h => h) (Or.inl ⟨by rfl, ?_⟩) hH0 ?_
            rotate_left
            · (intro w hSw; (try dsimp only at hSw); go_simp <;> with_reducible rfl)
            (try simp only [Act.put, List.setIfInBounds_toArray, List.set_cons_zero, List.set_cons_succ])
            refine wpAnyH_take (i := 6) (oi := { dst := some 76, op := Go.Op.move (Go.Operand.tmp 12), type := 26, pos := _, after := #[], guard := none }) (v := ?_) rfl (by kernel_rfl) (by kernel_rfl) (by kernel_rfl) (fun _ _ _ h => h) (Or.inl ⟨by rfl, ?_⟩) hH0 ?_
            rotate_left
            · (intro w hSw; (try dsimp only at hSw); go_simp <;> with_reducible rfl)
            (try simp only [Act.put, List.setIfInBounds_toArray, List.set_cons_zero, List.set_cons_succ])
            refine wpAnyH_take (i := 7) (oi := { dst := some 77, op := Go.Op.move (Go.Operand.tmp 13), type := 3, pos := _, after := #[], guard := none }) (v := ?_) rfl (by kernel_rfl) (by kernel_rfl) (by kernel_rfl) (fun _ _ _ h => h) (Or.inl ⟨by rfl, ?_⟩) hH0 ?_
            rotate_left
            · (intro w hSw; (try dsimp only at hSw); go_simp <;> with_reducible rfl)
            (try simp only [Act.put, List.setIfInBounds_toArray, List.set_cons_zero, List.set_cons_succ])
            refine wpAnyH_take (i := 8) (oi := { dst := some 78, op := Go.Op.indexAddr 26 (Go.Operand.tmp 76) (Go.Operand.tmp 77), type := 0, pos := _, after := #[{ on := 6, ground := Go.Ground.data }, { on := 7, ground := Go.Ground.data }], guard := none }) (v := ?_) rfl (by kernel_rfl) (by kernel_rfl) (by kernel_rfl) (fun _ _ _ h => h) (Or.inl ⟨by rfl, ?_⟩) hH0 ?_
            rotate_left
            · (intro w hSw; (try dsimp only at hSw); go_simp <;> with_reducible rfl)
            (try simp only [Act.put, List.setIfInBounds_toArray, List.set_cons_zero, List.set_cons_succ])
            refine wpAnyH_take (i := 9) (oi := { dst := some 79, op := Go.Op.fieldAddr 44 (Go.Operand.tmp 78) 1, type := 0, pos := _, after := #[{ on := 8, ground := Go.Ground.data }], guard := none }) (v := ?_) rfl (by kernel_rfl) (by kernel_rfl) (by kernel_rfl) (fun _ _ _ h => h) (Or.inl ⟨by rfl, ?_⟩) hH0 ?_
            rotate_left
            · (intro w hSw; (try dsimp only at hSw); go_simp <;> with_reducible rfl)
            (try simp only [Act.put, List.setIfInBounds_toArray, List.set_cons_zero, List.set_cons_succ])
            refine wpAnyH_take (i := 10) (oi := { dst := some 80, op := Go.Op.load 2 (Go.Operand.tmp 79), type := 2, pos := _, after := #[{ on := 9, ground := Go.Ground.data }], guard := none }) (v := ?_) rfl (by kernel_rfl) (by kernel_rfl) (by kernel_rfl) (fun _ _ _ h => h) (Or.inl ⟨by rfl, ?_⟩) hH0 ?_
            rotate_left
            · (intro w hSw; (try dsimp only at hSw); go_simp <;> with_reducible rfl)
            (try simp only [Act.put, List.setIfInBounds_toArray, List.set_cons_zero, List.set_cons_succ])
            refine wpAnyH_take (i := 11) (oi := { dst := some 81, op := Go.Op.move (Go.Operand.tmp 12), type := 26, pos := _, after := #[], guard := none }) (v := ?_) rfl (by kernel_rfl) (by kernel_rfl) (by kernel_rfl) (fun _ _ _ h => h) (Or.inl ⟨by rfl, ?_⟩) hH0 ?_
            rotate_left
            · (intro w hSw; (try dsimp only at hSw); go_simp <;> with_reducible rfl)
            (try simp only [Act.put, List.setIfInBounds_toArray, List.set_cons_zero, List.set_cons_succ])
            refine wpAnyH_take (i := 12) (oi := { dst := some 82, op := Go.Op.move (Go.Operand.tmp 13), type := 3, pos := _, after := #[], guard := none }) (v := ?_) rfl (by kernel_rfl) (by kernel_rfl) (by kernel_rfl) (fun _ _ _ h => h) (Or.inl ⟨by rfl, ?_⟩) hH0 ?_
            rotate_left
            · (intro w hSw; (try dsimp only at hSw); go_simp <;> with_reducible rfl)
            (try simp only [Act.put, List.setIfInBounds_toArray, List.set_cons_zero, List.set_cons_succ])
            refine wpAnyH_take (i := 13) (oi := { dst := some 83, op := Go.Op.indexAddr 26 (Go.Operand.tmp 81) (Go.Operand.tmp 82), type := 0, pos := _, after := #[{ on := 11, ground := Go.Ground.data }, { on := 12, ground := Go.Ground.data }], guard := none }) (v := ?_) rfl (by kernel_rfl) (by kernel_rfl) (by kernel_rfl) (fun _ _ _ h => h) (Or.inl ⟨by rfl, ?_⟩) hH0 ?_
            rotate_left
            · (intro w hSw; (try dsimp only at hSw); go_simp <;> with_reducible rfl)
            (try simp only [Act.put, List.setIfInBounds_toArray, List.set_cons_zero, List.set_cons_succ])
            refine wpAnyH_take (i := 14) (oi := { dst := some 84, op := Go.Op.fieldAddr 44 (Go.Operand.tmp 83) 2, type := 0, pos := _, after := #[{ on := 13, ground := Go.Ground.data }], guard := none }) (v := ?_) rfl (by kernel_rfl) (by kernel_rfl) (by kernel_rfl) (fun _ _ _ h => h) (Or.inl ⟨by rfl, ?_⟩) hH0 ?_
            rotate_left
            · (intro w hSw; (try dsimp only at hSw); go_simp <;> with_reducible rfl)
            (try simp only [Act.put, List.setIfInBounds_toArray, List.set_cons_zero, List.set_cons_succ])
            refine wpAnyH_take (i := 15) (oi := { dst := some 85, op := Go.Op.load 2 (Go.Operand.tmp 84), type := 2, pos := _, after := #[{ on := 14, ground := Go.Ground.data }], guard := none }) (v := ?_) rfl (by kernel_rfl) (by kernel_rfl) (by kernel_rfl) (fun _ _ _ h => h) (Or.inl ⟨by rfl, ?_⟩) hH0 ?_
            rotate_left
            · (intro w hSw; (try dsimp only at hSw); go_simp <;> with_reducible rfl)
            (try simp only [Act.put, List.setIfInBounds_toArray, List.set_cons_zero, List.set_cons_succ])
            refine wpAnyH_take (i := 16) (oi := { dst := some 86, op := Go.Op.build 42 #[(0, Go.Operand.const (Go.Value.int Go.IntKind.i64 3)), (1, Go.Operand.tmp 75), (2, Go.Operand.tmp 80), (3, Go.Operand.tmp 85)], type := 42, pos := _, after := #[{ on := 5, ground := Go.Ground.data }, { on := 10, ground := Go.Ground.data }, { on := 15, ground := Go.Ground.data }], guard := none }) (v := ?_) rfl (by kernel_rfl) (by kernel_rfl) (by kernel_rfl) (fun _ _ _ h => h) (Or.inl ⟨by rfl, ?_⟩) hH0 ?_
            rotate_left
            · (intro w hSw; (try dsimp only at hSw); go_simp <;> with_reducible rfl)
            (try simp only [Act.put, List.setIfInBounds_toArray, List.set_cons_zero, List.set_cons_succ])
            refine wpAnyH_ready (rs := [17]) (by kernel_rfl) (by simp) ?_
            refine AllReadyH.cons (o := { dst := some 87, op := Go.Op.buildSlice 30 1 #[(0, Go.Operand.tmp 86)], type := 30, pos := _, after := #[{ on := 16, ground := Go.Ground.data }], guard := none }) rfl (fun K hK => ?_) AllReadyH.nil
            go_simp
            refine hK.out _ _ ?_ (fun hH1 => ?_)
            · exact ⟨cell_later ((Below.refl _ _).alloc (Nat.le_refl _) _) hH0.1, cell_later ((Below.refl _ _).alloc (Nat.le_refl _) _) hH0.2.1, cell_later ((Below.refl _ _).alloc (Nat.le_refl _) _) hH0.2.2⟩
            clear hK K
            (try simp only [Act.put, List.setIfInBounds_toArray, List.set_cons_zero, List.set_cons_succ])
            refine wpAnyH_ready (rs := [18]) (by kernel_rfl) (by simp) ?_
            refine AllReadyH.cons (o := { dst := some 88, op := Go.Op.call { callee := Go.Callee.builtin Go.Builtin.append, args := #[Go.Operand.tmp 70, Go.Operand.tmp 87], argTypes := #[30, 30] }, type := 30, pos := _, after := #[{ on := 0, ground := Go.Ground.data }, { on := 17, ground := Go.Ground.data }], guard := none }) rfl (fun K hK => ?_) AllReadyH.nil
            have hX : Below wr.heap.size wr (wr.drew.alloc (.cells #[.int .i64 3, .int .i64 y1, .int .i64 y2, .int .i64 y3] 42)) := ((Below.refl wr.heap.size wr).drew).alloc (Nat.le_refl _) _
            have hOX := hide (ownsRow_below (unhide hO) hX)
            have hIX := hide (ownsRow_below (unhide hI) hX)
            refine step_c Try.underlying30 _ rfl _ _ rfl w.heap.size gi N.length ci N (3, y1, y2, y3) rfl (unhide hOX) wr.heap.size rfl (World.alloc_heap_new wr.drew _) (by omega) (by have := (unhide hBi).size; simp; omega) ?_
            intro g3 cap3 w3 h1 h2 h3
            have hne : g2 ≠ gi := by
              intro e
              obtain ⟨_, h⟩ := (unhide hIX)
              rcases h with ⟨hv, _⟩ | ⟨gg, cc, cur, hv, _, hh, _⟩
              · cases hv
              · injection hv with e1
                injection e1 with e1
                injection e1 with e1
                subst e1
                exact own_ne (unhide hOX) hh (by decide) e
            refine hK.out _ _ ?_ (fun hH2 => ?_)
            · exact ⟨cell_gr h2 hne hH1.1, cell_gr h2 hne hH1.2.1, cell_gr h2 hne hH1.2.2⟩
            clear hK K
            (try simp only [Act.put, List.setIfInBounds_toArray, List.set_cons_zero, List.set_cons_succ])
            refine wpAnyH_take (i := 19) (oi := { dst := some 8, op := Go.Op.assign (Go.Operand.tmp 88), type := 30, pos := _, after := #[{ on := 18, ground := Go.Ground.data }, { on := 18, ground := Go.Ground.chain }, { on := 0, ground := Go.Ground.phase }, { on := 1, ground := Go.Ground.phase }, { on := 2, ground := Go.Ground.phase }, { on := 3, ground := Go.Ground.phase }, { on := 4, ground := Go.Ground.phase }, { on := 5, ground := Go.Ground.phase }, { on := 6, ground := Go.Ground.phase }, { on := 7, ground := Go.Ground.phase }, { on := 8, ground := Go.Ground.phase }, { on := 9, ground := Go.Ground.phase }, { on := 10, ground := Go.Ground.phase }, { on := 11, ground := Go.Ground.phase }, { on := 12, ground := Go.Ground.phase }, { on := 13, ground := Go.Ground.phase }, { on := 14, ground := Go.Ground.phase }, { on := 15, ground := Go.Ground.phase }, { on := 16, ground := Go.Ground.phase }, { on := 17, ground := Go.Ground.phase }, { on := 18, ground := Go.Ground.phase }], guard := none }) (v := ?_) rfl (by kernel_rfl) (by kernel_rfl) (by kernel_rfl) (fun _ _ _ h => h) (Or.inl ⟨by rfl, ?_⟩) hH2 ?_
            rotate_left
            · (intro w hSw; (try dsimp only at hSw); go_simp <;> with_reducible rfl)
            (try simp only [Act.put, List.setIfInBounds_toArray, List.set_cons_zero, List.set_cons_succ])
            refine wpAnyH_done (by kernel_rfl) ?_ _
            refine NoPanic.normal ?_
            have hO3 := hide (show OwnC w3 w.heap.size g3 (N ++ [(3, y1, y2, y3)]).length cap3 (N ++ [(3, y1, y2, y3)]) by simpa using h1)
            have hI3 := hide (own_kept (unhide hIX) h2 hne)
            have hc3 : w3.cell? ⟨xb, 3, none⟩ = some (.int .i64 x4) := cell_gr h2 hgw (cell_later hX hci)
            have hB3 := hide (((unhide hBi).trans (hX.mono (unhide hBi).size)).grown h2 (by have := (unhide hBi).size; have := hX.size; omega) (fun q e => by injection e with e; have := own_ge (unhide hO); omega))
            have hgw3 : xb ≠ g3 := by have hz := hX.size; rcases h3 with h | h <;> first | omega | (simp at h hz; omega)
            clear h1 h2 h3 hX hOX hIX hH0 hH1 hH2 e0 e1 e2 hO hI hBi hci
            go_wp2
            go_roundw
            case rel => exact ⟨j + 1, g3, cap3, by omega, by go_num, by rw [unhide hns]; simp, by rw [unhide hns]; exact hO3, hI3, hc3, hgw3, by have := World.block_lt_of_cell? _ _ hc3; exact this, hB3⟩
            case measure => simp [intOf]; omega
          · have hje : j = J.length := by omega
            have hNe := hide (show tnUp l cs (k + 1) = N by rw [unhide hm2, hN, hje, List.take_length])
            clear hN
            go_wp2
            go_roundw
            case rel => exact ⟨k + 1, gi, ci, by omega, by go_num, by rw [unhide hso]; simp [oldC], by rw [unhide hNe], by rw [unhide hNe]; exact hO, hBi⟩
            case measure => simp [intOf]; omega
      · have hX := (((Below.refl wr.heap.size wr).alloc (Nat.le_refl _) (.cells #[.int .i64 3, .int .i64 x2, .int .i64 x3, .int .i64 x4] 42)).alloc (by simp) (.cells #[.int .i64 2, .int .i64 0, .int .i64 0, .int .i64 x4] 42))
        have hOX := hide (ownsRow_below (unhide hO) hX)
        have hwX := hide (laterB (unhide hwB) hX)
        have hnb := hide (show ((wr.alloc (.cells #[.int .i64 3, .int .i64 x2, .int .i64 x3, .int .i64 x4] 42)).alloc (.cells #[.int .i64 2, .int .i64 0, .int .i64 0, .int .i64 x4] 42)).heap[wr.heap.size + 1]? = some (.cells #[.int .i64 2, .int .i64 0, .int .i64 0, .int .i64 x4] 42 (0, 0)) by
          have := World.alloc_heap_new (wr.alloc (.cells #[.int .i64 3, .int .i64 x2, .int .i64 x3, .int .i64 x4] 42)) (.cells #[.int .i64 2, .int .i64 0, .int .i64 0, .int .i64 x4] 42)
          rwa [World.size_alloc] at this)
        clear hX hO
        go_wp2_with (at_builtin; refine wpList_c Try.underlying30 _ rfl _ _ rfl w.heap.size g M.length c M (2, 0, 0, x4) rfl (unhide hOX) (wr.heap.size + 1) rfl (unhide hnb) (by omega) (by simp; omega) ?_)
        intro g' cap' w' h1 h2 h3
        have hm2 := hide (show tnUp l cs (k + 1) = M ++ [(2, 0, 0, x4)] by rw [unhide hm]; simp [tn1])
        have hO2 := hide (show OwnC w' w.heap.size g' (M ++ [(2, 0, 0, x4)]).length cap' (M ++ [(2, 0, 0, x4)]) by simpa using h1)
        have hw2 := hide ((unhide hwX).grown h2 (unhide hwX).size (fun q e => by injection e with e; have := own_ge (unhide hOX); omega))
        clear h1 h2 h3 hOX hwX hnb hwB c0 c1' c2 c3
        go_wp2
        go_roundw
        case rel => exact ⟨k + 1, g', cap', by omega, by go_num, by rw [unhide hso]; simp [oldC], by rw [unhide hm2]; simp, by rw [unhide hm2]; exact hO2, hw2⟩
        case measure => simp [intOf]; omega
    · have hke : k = cs.length := by omega
      have hMe := hide (show M = tnUp l cs cs.length by rw [hM, hke])
      have hgg := own_ge (unhide hO)
      clear hM
      go_wp2
      refine bodyPost_ret (v := .tuple #[.slice (some ⟨g, 0, none⟩) M.length c, .bool true]) (by simp [results, Try.results16, go_sem]) rfl ?_
      rw [unhide hr, ← unhide hMe]
      exact ⟨g, c, rfl, hgg, unhide hO, unhide hwB⟩

end Go.Proofs.Ytipabjijbnhhpaa
