/-
  The model's plain cube: its contract: so many colours, in memory of their own.
-/
import Derived.Test.YtdmcbdogpeidjaaDrSc
import Derived.Test.YtdmcbdogpeidjaaICu
namespace Go.Proofs.Ytdmcbdogpeidjaa
open Go.RowKit
set_option linter.unusedVariables false
set_option linter.unusedSimpArgs false

theorem step_kR {T : TypeId} (hT : Try.prog.underlying T = some (.slice 26)) {ops : Array Oper} {o : Oper} {a : Act} {K : Act → World → Prop} {Q : Exit → Act → World → Prop} {E' : Prop} (w : World) (hgd : o.guard = none) (s x : Operand) (ho : o.op = .call { callee := .builtin .append, args := #[s, x], argTypes := #[T, T] })
    (B g n cap : Nat) (L : List Kl) (v : Kl) (hs : a.eval s = .slice (some ⟨g, 0, none⟩) n cap) (hown : Own w B g n cap L) (E : Nat) (hx : a.eval x = .slice (some ⟨E, 0, none⟩) 1 1)
    (hblk : w.heap[E]? = some (.cells #[.int .i64 v.1, .int .i64 v.2.1, .int .i64 v.2.2] 26 (0, 0))) (hl : n ≤ 1000000) (hB : B ≤ w.heap.size)
    (h : ∀ g' cap' w', Own w' B g' (n + 1) cap' (L ++ [v]) → w.grownBy w' (some g) → (g' = g ∨ g' = w.heap.size) → K (a.put o.dst (.slice (some ⟨g', 0, none⟩) (n + 1) cap')) w') :
    if Region.wanted o (yielded ops a.tmps) = true then Oper.wp Try.prog o a w K Q else E' := by
  obtain ⟨i0, hi, hz0, hz1, hz2⟩ := info_parts info44
  refine step_append_lies w hgd s x T ho B 26 i0 (.agg #[.int .i64 0, .int .i64 0, .int .i64 0]) 3 24 hT hi hz0 hz1 hz2 rfl (by decide) _ n (flK L) hs hown ⟨E, 0, none⟩ 1 1 [iv v.1, iv v.2.1, iv v.2.2] hx rfl (K_news hblk) (by intro u hu; simp at hu; rcases hu with rfl | rfl | rfl <;> rfl) (by decide) (by unfold maxLen; omega) (by omega) hB w.heap.size rfl ?_
  intro g' cap' w' h1 h2 h3 h4
  exact h g' cap' w' (by show World.ownsRow _ _ _ _ _ _ _; rw [flK_append]; exact h1) (by simpa [Value.ownBlock] using h2) (Or.imp (fun h3 => by simp [Value.ownBlock] at h3; exact h3.symm) id h3)
theorem alloc_newR (w : World) (o : Obj) : (w.drew.alloc o).heap[w.heap.size]? = some o := heap_alloc_new w.drew o

/-- a place's three numbers -/
theorem pc_nums {n : Int} {k : Nat} (hn : 2 ≤ n ∧ n ≤ 9) (hk : (k : Int) < n * n * n) : (0 ≤ (k : Int) / n / n ∧ (k : Int) / n / n ≤ n - 1) ∧ (0 ≤ (k : Int) / n % n ∧ (k : Int) / n % n ≤ n - 1) ∧ (0 ≤ (k : Int) % n ∧ (k : Int) % n ≤ n - 1) ∧ (0 ≤ (k : Int) / n ∧ (k : Int) / n ≤ 1000) := by
  obtain ⟨h0, h9⟩ := hn
  have : n = 2 ∨ n = 3 ∨ n = 4 ∨ n = 5 ∨ n = 6 ∨ n = 7 ∨ n = 8 ∨ n = 9 := by omega
  rcases this with rfl | rfl | rfl | rfl | rfl | rfl | rfl | rfl <;> omega
theorem pl_lv {b n : Int} (hn : 2 ≤ n ∧ n ≤ 9) (hb : 0 ≤ b ∧ b ≤ n - 1) : LvOk (rnd (b * 65535) (n - 1)) := by
  refine rnd_bd (by omega) (by rw [Int.zero_mul]; omega) ?_
  rw [Int.mul_comm b 65535]
  exact Int.mul_le_mul_of_nonneg_left hb.2 (by omega)

set_option maxRecDepth 100000 in
set_option maxHeartbeats 3200000 in
theorem splain_any (n : Int) (w : World) : Calls Try.prog 64 #[.int .i64 n] w fun e w' => ∃ (r c : Nat) (L : List Kl), e = .returned (.slice (some ⟨r, 0, none⟩) L.length c) ∧ L.length ≤ 729 ∧ (L.length = 0 ∨ 8 ≤ L.length) ∧ CsOk L ∧ Own w' w.heap.size r L.length c L ∧ Below w.heap.size w w' := by
  by_cases hn : 2 ≤ n ∧ n ≤ 9
  · have hd : Hid ((decide (2 ≤ n) && decide (n ≤ 9)) = true) := hide (by simp; omega)
    obtain ⟨q0, q1, q2, q3⟩ := cube_bd hn
    have hn' := hide hn
    obtain ⟨n0, n1⟩ := hn
    have nz : n ≠ 0 := by omega
    have nz' : ¬ n = 0 := nz
    go_enter Try.func64, Try.ntmps64
    go_wp2_with fail
    refine (in_any n 2 9 true _ (unhide hd)).mono ?_
    rintro e w9 ⟨rfl, hw0⟩
    have hw1 := hw0.symm
    subst hw1
    have hO0 : Hid (Own (w.alloc (.cells #[] 26)) w.heap.size w.heap.size 0 0 []) := hide (own_lit0 w (Nat.le_refl _))
    have hB0 : Hid (Below w.heap.size w (w.alloc (.cells #[] 26))) := hide ((Below.refl _ _).alloc (Nat.le_refl _) _)
    generalize hN2 : n * n = N2 at *
    generalize hN3 : N2 * n = N3 at *
    have eN3 : Hid (n * n * n = N3) := hide (by rw [hN2, hN3])
    go_wp2
    go_loopw [3, 4] (fun s t wr => ∃ (r c : Nat) (L : List Kl), t = .int .i64 (L.length : Int) ∧ s = .slice (some ⟨r, 0, none⟩) L.length c ∧ (L.length : Int) ≤ N3 ∧ Hid (CsOk L) ∧ Hid (Own wr w.heap.size r L.length c L) ∧ Hid (Below w.heap.size w wr)) (fun _ t _ => N3.toNat - (intOf t).toNat)
    case atStart => exact ⟨w.heap.size, 0, [], rfl, rfl, by simp; omega, hide (by intro c hc; simp at hc), hO0, hB0⟩
    case round =>
      clear hO0 hB0
      obtain ⟨r, c, L, rfl, rfl, hle, hC, hO, hw⟩ := hrel
      generalize hk : L.length = k at *
      have hk' := hide hk
      clear hk
      by_cases hlt : (k : Int) < N3
      · obtain ⟨⟨b0, b1⟩, ⟨c0, c1⟩, ⟨e0, e1⟩, ⟨a0, a1⟩⟩ := pc_nums (unhide hn') (by rw [unhide eN3]; exact hlt)
        have lv0 := hide (pl_lv (unhide hn') ⟨b0, b1⟩)
        have lv1 := hide (pl_lv (unhide hn') ⟨c0, c1⟩)
        have lv2 := hide (pl_lv (unhide hn') ⟨e0, e1⟩)
        have t1 : Int.tdiv (k : Int) n = (k : Int) / n := Int.tdiv_eq_ediv_of_nonneg (by omega)
        have t2 : Int.tdiv ((k : Int) / n) n = (k : Int) / n / n := Int.tdiv_eq_ediv_of_nonneg a0
        have t3 : Int.tmod ((k : Int) / n) n = (k : Int) / n % n := Int.tmod_eq_emod_of_nonneg a0
        have t4 : Int.tmod (k : Int) n = (k : Int) % n := Int.tmod_eq_emod_of_nonneg (by omega)
        generalize hA : (k : Int) / n = A at *
        generalize hBq : A / n = Bq at *
        generalize hCq : A % n = Cq at *
        generalize hEq : (k : Int) % n = Eq at *
        have wA : IntKind.i64.wrap A = A := by rw [IntKind.wrap_i64]; omega
        have wB : IntKind.i64.wrap Bq = Bq := by rw [IntKind.wrap_i64]; omega
        have wB2 : IntKind.i64.wrap (Bq * 65535) = Bq * 65535 := by rw [IntKind.wrap_i64]; omega
        have wC2 : IntKind.i64.wrap (Cq * 65535) = Cq * 65535 := by rw [IntKind.wrap_i64]; omega
        have wE2 : IntKind.i64.wrap (Eq * 65535) = Eq * 65535 := by rw [IntKind.wrap_i64]; omega
        have wn : IntKind.i64.wrap (n - 1) = n - 1 := by rw [IntKind.wrap_i64]; omega
        generalize hV0 : rnd (Bq * 65535) (n - 1) = V0 at *
        generalize hV1 : rnd (Cq * 65535) (n - 1) = V1 at *
        generalize hV2 : rnd (Eq * 65535) (n - 1) = V2 at *
        have E0 := hide hV0
        have E1 := hide hV1
        have E2 := hide hV2
        clear hV0 hV1 hV2
        go_wp2_with fail
        refine wp_region_noPanic ?_
        refine wp_region_held_drew (S := fun _ => True) (by kernel_rfl) trivial (fun hH0 => ?_)
        refine wpAnyH_take (i := 0) (oi := { dst := some 19, op := Go.Op.move (Go.Operand.tmp 3), type := 24, pos := _, after := #[], guard := none }) (v := ?_) rfl (by kernel_rfl) (by kernel_rfl) (by kernel_rfl) (fun _ _ _ h => h) (Or.inl ⟨by rfl, ?_⟩) trivial ?_
        rotate_left
        · (intro w hSw; (try dsimp only at hSw); go_simp <;> with_reducible rfl)
        (try simp only [Act.put, List.setIfInBounds_toArray, List.set_cons_zero, List.set_cons_succ])
        refine wpAnyH_take (i := 1) (oi := { dst := some 20, op := Go.Op.move (Go.Operand.tmp 4), type := 2, pos := _, after := #[], guard := none }) (v := ?_) rfl (by kernel_rfl) (by kernel_rfl) (by kernel_rfl) (fun _ _ _ h => h) (Or.inl ⟨by rfl, ?_⟩) trivial ?_
        rotate_left
        · (intro w hSw; (try dsimp only at hSw); go_simp <;> with_reducible rfl)
        (try simp only [Act.put, List.setIfInBounds_toArray, List.set_cons_zero, List.set_cons_succ])
        refine wpAnyH_take (i := 2) (oi := { dst := some 21, op := Go.Op.move (Go.Operand.tmp 0), type := 2, pos := _, after := #[], guard := none }) (v := ?_) rfl (by kernel_rfl) (by kernel_rfl) (by kernel_rfl) (fun _ _ _ h => h) (Or.inl ⟨by rfl, ?_⟩) trivial ?_
        rotate_left
        · (intro w hSw; (try dsimp only at hSw); go_simp <;> with_reducible rfl)
        (try simp only [Act.put, List.setIfInBounds_toArray, List.set_cons_zero, List.set_cons_succ])
        refine wpAnyH_take (i := 3) (oi := { dst := some 22, op := Go.Op.binOp Go.BinOp.quo 2 (Go.Operand.tmp 20) (Go.Operand.tmp 21) 2, type := 2, pos := _, after := #[{ on := 1, ground := Go.Ground.data }, { on := 2, ground := Go.Ground.data }], guard := none }) (v := ?_) rfl (by kernel_rfl) (by kernel_rfl) (by kernel_rfl) (fun _ _ _ h => h) (Or.inl ⟨by rfl, ?_⟩) trivial ?_
        rotate_left
        · (intro w hSw; (try dsimp only at hSw); go_simp <;> with_reducible rfl)
        (try simp only [Act.put, List.setIfInBounds_toArray, List.set_cons_zero, List.set_cons_succ])
        refine wpAnyH_take (i := 4) (oi := { dst := some 23, op := Go.Op.move (Go.Operand.tmp 0), type := 2, pos := _, after := #[], guard := none }) (v := ?_) rfl (by kernel_rfl) (by kernel_rfl) (by kernel_rfl) (fun _ _ _ h => h) (Or.inl ⟨by rfl, ?_⟩) trivial ?_
        rotate_left
        · (intro w hSw; (try dsimp only at hSw); go_simp <;> with_reducible rfl)
        (try simp only [Act.put, List.setIfInBounds_toArray, List.set_cons_zero, List.set_cons_succ])
        refine wpAnyH_take (i := 5) (oi := { dst := some 24, op := Go.Op.binOp Go.BinOp.quo 2 (Go.Operand.tmp 22) (Go.Operand.tmp 23) 2, type := 2, pos := _, after := #[{ on := 3, ground := Go.Ground.data }, { on := 4, ground := Go.Ground.data }], guard := none }) (v := ?_) rfl (by kernel_rfl) (by kernel_rfl) (by kernel_rfl) (fun _ _ _ h => h) (Or.inl ⟨by rfl, ?_⟩) trivial ?_
        rotate_left
        · (intro w hSw; (try dsimp only at hSw); go_simp <;> with_reducible rfl)
        (try simp only [Act.put, List.setIfInBounds_toArray, List.set_cons_zero, List.set_cons_succ])
        refine wpAnyH_take (i := 6) (oi := { dst := some 25, op := Go.Op.binOp Go.BinOp.mul 2 (Go.Operand.tmp 24) (Go.Operand.const (Go.Value.int Go.IntKind.i64 65535)) 2, type := 2, pos := _, after := #[{ on := 5, ground := Go.Ground.data }], guard := none }) (v := ?_) rfl (by kernel_rfl) (by kernel_rfl) (by kernel_rfl) (fun _ _ _ h => h) (Or.inl ⟨by rfl, ?_⟩) trivial ?_
        rotate_left
        · (intro w hSw; (try dsimp only at hSw); go_simp <;> with_reducible rfl)
        (try simp only [Act.put, List.setIfInBounds_toArray, List.set_cons_zero, List.set_cons_succ])
        refine wpAnyH_take (i := 7) (oi := { dst := some 26, op := Go.Op.move (Go.Operand.tmp 0), type := 2, pos := _, after := #[], guard := none }) (v := ?_) rfl (by kernel_rfl) (by kernel_rfl) (by kernel_rfl) (fun _ _ _ h => h) (Or.inl ⟨by rfl, ?_⟩) trivial ?_
        rotate_left
        · (intro w hSw; (try dsimp only at hSw); go_simp <;> with_reducible rfl)
        (try simp only [Act.put, List.setIfInBounds_toArray, List.set_cons_zero, List.set_cons_succ])
        refine wpAnyH_take (i := 8) (oi := { dst := some 27, op := Go.Op.binOp Go.BinOp.sub 2 (Go.Operand.tmp 26) (Go.Operand.const (Go.Value.int Go.IntKind.i64 1)) 2, type := 2, pos := _, after := #[{ on := 7, ground := Go.Ground.data }], guard := none }) (v := ?_) rfl (by kernel_rfl) (by kernel_rfl) (by kernel_rfl) (fun _ _ _ h => h) (Or.inl ⟨by rfl, ?_⟩) trivial ?_
        rotate_left
        · (intro w hSw; (try dsimp only at hSw); go_simp <;> with_reducible rfl)
        (try simp only [Act.put, List.setIfInBounds_toArray, List.set_cons_zero, List.set_cons_succ])
        refine wpAnyH_take (i := 10) (oi := { dst := some 29, op := Go.Op.move (Go.Operand.tmp 4), type := 2, pos := _, after := #[], guard := none }) (v := ?_) rfl (by kernel_rfl) (by kernel_rfl) (by kernel_rfl) (fun _ _ _ h => h) (Or.inl ⟨by rfl, ?_⟩) trivial ?_
        rotate_left
        · (intro w hSw; (try dsimp only at hSw); go_simp <;> with_reducible rfl)
        (try simp only [Act.put, List.setIfInBounds_toArray, List.set_cons_zero, List.set_cons_succ])
        refine wpAnyH_take (i := 11) (oi := { dst := some 30, op := Go.Op.move (Go.Operand.tmp 0), type := 2, pos := _, after := #[], guard := none }) (v := ?_) rfl (by kernel_rfl) (by kernel_rfl) (by kernel_rfl) (fun _ _ _ h => h) (Or.inl ⟨by rfl, ?_⟩) trivial ?_
        rotate_left
        · (intro w hSw; (try dsimp only at hSw); go_simp <;> with_reducible rfl)
        (try simp only [Act.put, List.setIfInBounds_toArray, List.set_cons_zero, List.set_cons_succ])
        refine wpAnyH_take (i := 12) (oi := { dst := some 31, op := Go.Op.binOp Go.BinOp.quo 2 (Go.Operand.tmp 29) (Go.Operand.tmp 30) 2, type := 2, pos := _, after := #[{ on := 10, ground := Go.Ground.data }, { on := 11, ground := Go.Ground.data }], guard := none }) (v := ?_) rfl (by kernel_rfl) (by kernel_rfl) (by kernel_rfl) (fun _ _ _ h => h) (Or.inl ⟨by rfl, ?_⟩) trivial ?_
        rotate_left
        · (intro w hSw; (try dsimp only at hSw); go_simp <;> with_reducible rfl)
        (try simp only [Act.put, List.setIfInBounds_toArray, List.set_cons_zero, List.set_cons_succ])
        refine wpAnyH_take (i := 13) (oi := { dst := some 32, op := Go.Op.move (Go.Operand.tmp 0), type := 2, pos := _, after := #[], guard := none }) (v := ?_) rfl (by kernel_rfl) (by kernel_rfl) (by kernel_rfl) (fun _ _ _ h => h) (Or.inl ⟨by rfl, ?_⟩) trivial ?_
        rotate_left
        · (intro w hSw; (try dsimp only at hSw); go_simp <;> with_reducible rfl)
        (try simp only [Act.put, List.setIfInBounds_toArray, List.set_cons_zero, List.set_cons_succ])
        refine wpAnyH_take (i := 14) (oi := { dst := some 33, op := Go.Op.binOp Go.BinOp.rem 2 (Go.Operand.tmp 31) (Go.Operand.tmp 32) 2, type := 2, pos := _, after := #[{ on := 12, ground := Go.Ground.data }, { on := 13, ground := Go.Ground.data }], guard := none }) (v := ?_) rfl (by kernel_rfl) (by kernel_rfl) (by kernel_rfl) (fun _ _ _ h => h) (Or.inl ⟨by rfl, ?_⟩) trivial ?_
        rotate_left
        · (intro w hSw; (try dsimp only at hSw); go_simp <;> with_reducible rfl)
        (try simp only [Act.put, List.setIfInBounds_toArray, List.set_cons_zero, List.set_cons_succ])
        refine wpAnyH_take (i := 15) (oi := { dst := some 34, op := Go.Op.binOp Go.BinOp.mul 2 (Go.Operand.tmp 33) (Go.Operand.const (Go.Value.int Go.IntKind.i64 65535)) 2, type := 2, pos := _, after := #[{ on := 14, ground := Go.Ground.data }], guard := none }) (v := ?_) rfl (by kernel_rfl) (by kernel_rfl) (by kernel_rfl) (fun _ _ _ h => h) (Or.inl ⟨by rfl, ?_⟩) trivial ?_
        rotate_left
        · (intro w hSw; (try dsimp only at hSw); go_simp <;> with_reducible rfl)
        (try simp only [Act.put, List.setIfInBounds_toArray, List.set_cons_zero, List.set_cons_succ])
        refine wpAnyH_take (i := 16) (oi := { dst := some 35, op := Go.Op.move (Go.Operand.tmp 0), type := 2, pos := _, after := #[], guard := none }) (v := ?_) rfl (by kernel_rfl) (by kernel_rfl) (by kernel_rfl) (fun _ _ _ h => h) (Or.inl ⟨by rfl, ?_⟩) trivial ?_
        rotate_left
        · (intro w hSw; (try dsimp only at hSw); go_simp <;> with_reducible rfl)
        (try simp only [Act.put, List.setIfInBounds_toArray, List.set_cons_zero, List.set_cons_succ])
        refine wpAnyH_take (i := 17) (oi := { dst := some 36, op := Go.Op.binOp Go.BinOp.sub 2 (Go.Operand.tmp 35) (Go.Operand.const (Go.Value.int Go.IntKind.i64 1)) 2, type := 2, pos := _, after := #[{ on := 16, ground := Go.Ground.data }], guard := none }) (v := ?_) rfl (by kernel_rfl) (by kernel_rfl) (by kernel_rfl) (fun _ _ _ h => h) (Or.inl ⟨by rfl, ?_⟩) trivial ?_
        rotate_left
        · (intro w hSw; (try dsimp only at hSw); go_simp <;> with_reducible rfl)
        (try simp only [Act.put, List.setIfInBounds_toArray, List.set_cons_zero, List.set_cons_succ])
        refine wpAnyH_take (i := 19) (oi := { dst := some 38, op := Go.Op.move (Go.Operand.tmp 4), type := 2, pos := _, after := #[], guard := none }) (v := ?_) rfl (by kernel_rfl) (by kernel_rfl) (by kernel_rfl) (fun _ _ _ h => h) (Or.inl ⟨by rfl, ?_⟩) trivial ?_
        rotate_left
        · (intro w hSw; (try dsimp only at hSw); go_simp <;> with_reducible rfl)
        (try simp only [Act.put, List.setIfInBounds_toArray, List.set_cons_zero, List.set_cons_succ])
        refine wpAnyH_take (i := 20) (oi := { dst := some 39, op := Go.Op.move (Go.Operand.tmp 0), type := 2, pos := _, after := #[], guard := none }) (v := ?_) rfl (by kernel_rfl) (by kernel_rfl) (by kernel_rfl) (fun _ _ _ h => h) (Or.inl ⟨by rfl, ?_⟩) trivial ?_
        rotate_left
        · (intro w hSw; (try dsimp only at hSw); go_simp <;> with_reducible rfl)
        (try simp only [Act.put, List.setIfInBounds_toArray, List.set_cons_zero, List.set_cons_succ])
        refine wpAnyH_take (i := 21) (oi := { dst := some 40, op := Go.Op.binOp Go.BinOp.rem 2 (Go.Operand.tmp 38) (Go.Operand.tmp 39) 2, type := 2, pos := _, after := #[{ on := 19, ground := Go.Ground.data }, { on := 20, ground := Go.Ground.data }], guard := none }) (v := ?_) rfl (by kernel_rfl) (by kernel_rfl) (by kernel_rfl) (fun _ _ _ h => h) (Or.inl ⟨by rfl, ?_⟩) trivial ?_
        rotate_left
        · (intro w hSw; (try dsimp only at hSw); go_simp <;> with_reducible rfl)
        (try simp only [Act.put, List.setIfInBounds_toArray, List.set_cons_zero, List.set_cons_succ])
        refine wpAnyH_take (i := 22) (oi := { dst := some 41, op := Go.Op.binOp Go.BinOp.mul 2 (Go.Operand.tmp 40) (Go.Operand.const (Go.Value.int Go.IntKind.i64 65535)) 2, type := 2, pos := _, after := #[{ on := 21, ground := Go.Ground.data }], guard := none }) (v := ?_) rfl (by kernel_rfl) (by kernel_rfl) (by kernel_rfl) (fun _ _ _ h => h) (Or.inl ⟨by rfl, ?_⟩) trivial ?_
        rotate_left
        · (intro w hSw; (try dsimp only at hSw); go_simp <;> with_reducible rfl)
        (try simp only [Act.put, List.setIfInBounds_toArray, List.set_cons_zero, List.set_cons_succ])
        refine wpAnyH_take (i := 23) (oi := { dst := some 42, op := Go.Op.move (Go.Operand.tmp 0), type := 2, pos := _, after := #[], guard := none }) (v := ?_) rfl (by kernel_rfl) (by kernel_rfl) (by kernel_rfl) (fun _ _ _ h => h) (Or.inl ⟨by rfl, ?_⟩) trivial ?_
        rotate_left
        · (intro w hSw; (try dsimp only at hSw); go_simp <;> with_reducible rfl)
        (try simp only [Act.put, List.setIfInBounds_toArray, List.set_cons_zero, List.set_cons_succ])
        refine wpAnyH_take (i := 24) (oi := { dst := some 43, op := Go.Op.binOp Go.BinOp.sub 2 (Go.Operand.tmp 42) (Go.Operand.const (Go.Value.int Go.IntKind.i64 1)) 2, type := 2, pos := _, after := #[{ on := 23, ground := Go.Ground.data }], guard := none }) (v := ?_) rfl (by kernel_rfl) (by kernel_rfl) (by kernel_rfl) (fun _ _ _ h => h) (Or.inl ⟨by rfl, ?_⟩) trivial ?_
        rotate_left
        · (intro w hSw; (try dsimp only at hSw); go_simp <;> with_reducible rfl)
        (try simp only [Act.put, List.setIfInBounds_toArray, List.set_cons_zero, List.set_cons_succ])
        refine wpAnyH_ready (rs := [9]) (by kernel_rfl) (by simp) ?_
        refine AllReadyH.cons (o := { dst := some 28, op := Go.Op.call { callee := Go.Callee.value (Go.Operand.func 50), args := #[Go.Operand.tmp 25, Go.Operand.tmp 27], argTypes := #[2, 2] }, type := 2, pos := _, after := #[{ on := 6, ground := Go.Ground.data }, { on := 8, ground := Go.Ground.data }], guard := none }) rfl (fun K9 hK9 => ?_) AllReadyH.nil
        go_simp
        go_at_call 50
        refine (srnd_any (Bq * 65535) (n - 1) V0 _ (by omega) (by omega) (by omega) (unhide E0)).mono ?_
        rintro e w9 ⟨rfl, hw0⟩
        have hw1 := hw0.symm
        subst hw1
        (try simp only [])
        refine hK9.out _ _ trivial (fun hH9 => ?_)
        clear hK9 K9
        (try simp only [Act.put, List.setIfInBounds_toArray, List.set_cons_zero, List.set_cons_succ])
        refine wpAnyH_ready (rs := [18]) (by kernel_rfl) (by simp) ?_
        refine AllReadyH.cons (o := { dst := some 37, op := Go.Op.call { callee := Go.Callee.value (Go.Operand.func 50), args := #[Go.Operand.tmp 34, Go.Operand.tmp 36], argTypes := #[2, 2] }, type := 2, pos := _, after := #[{ on := 15, ground := Go.Ground.data }, { on := 17, ground := Go.Ground.data }, { on := 9, ground := Go.Ground.chain }], guard := none }) rfl (fun K9 hK9 => ?_) AllReadyH.nil
        go_simp
        go_at_call 50
        refine (srnd_any (Cq * 65535) (n - 1) V1 _ (by omega) (by omega) (by omega) (unhide E1)).mono ?_
        rintro e w9 ⟨rfl, hw0⟩
        have hw1 := hw0.symm
        subst hw1
        (try simp only [])
        refine hK9.out _ _ trivial (fun hH18 => ?_)
        clear hK9 K9
        (try simp only [Act.put, List.setIfInBounds_toArray, List.set_cons_zero, List.set_cons_succ])
        refine wpAnyH_ready (rs := [25]) (by kernel_rfl) (by simp) ?_
        refine AllReadyH.cons (o := { dst := some 44, op := Go.Op.call { callee := Go.Callee.value (Go.Operand.func 50), args := #[Go.Operand.tmp 41, Go.Operand.tmp 43], argTypes := #[2, 2] }, type := 2, pos := _, after := #[{ on := 22, ground := Go.Ground.data }, { on := 24, ground := Go.Ground.data }, { on := 18, ground := Go.Ground.chain }], guard := none }) rfl (fun K9 hK9 => ?_) AllReadyH.nil
        go_simp
        go_at_call 50
        refine (srnd_any (Eq * 65535) (n - 1) V2 _ (by omega) (by omega) (by omega) (unhide E2)).mono ?_
        rintro e w9 ⟨rfl, hw0⟩
        have hw1 := hw0.symm
        subst hw1
        (try simp only [])
        refine hK9.out _ _ trivial (fun hH25 => ?_)
        clear hK9 K9
        (try simp only [Act.put, List.setIfInBounds_toArray, List.set_cons_zero, List.set_cons_succ])
        refine wpAnyH_take (i := 26) (oi := { dst := some 45, op := Go.Op.build 26 #[(0, Go.Operand.tmp 28), (1, Go.Operand.tmp 37), (2, Go.Operand.tmp 44)], type := 26, pos := _, after := #[{ on := 9, ground := Go.Ground.data }, { on := 18, ground := Go.Ground.data }, { on := 25, ground := Go.Ground.data }], guard := none }) (v := ?_) rfl (by kernel_rfl) (by kernel_rfl) (by kernel_rfl) (fun _ _ _ h => h) (Or.inl ⟨by rfl, ?_⟩) trivial ?_
        rotate_left
        · (intro w hSw; (try dsimp only at hSw); go_simp <;> with_reducible rfl)
        (try simp only [Act.put, List.setIfInBounds_toArray, List.set_cons_zero, List.set_cons_succ])
        refine wpAnyH_ready (rs := [27]) (by kernel_rfl) (by simp) ?_
        refine AllReadyH.cons (o := { dst := some 46, op := Go.Op.buildSlice 24 1 #[(0, Go.Operand.tmp 45)], type := 24, pos := _, after := #[{ on := 26, ground := Go.Ground.data }], guard := none }) rfl (fun K9 hK9 => ?_) AllReadyH.nil
        go_simp
        refine hK9.out _ _ trivial (fun hH27 => ?_)
        clear hK9 K9
        (try simp only [Act.put, List.setIfInBounds_toArray, List.set_cons_zero, List.set_cons_succ])
        refine wpAnyH_ready (rs := [28]) (by kernel_rfl) (by simp) ?_
        refine AllReadyH.cons (o := { dst := some 47, op := Go.Op.call { callee := Go.Callee.builtin Go.Builtin.append, args := #[Go.Operand.tmp 19, Go.Operand.tmp 46], argTypes := #[24, 24] }, type := 24, pos := _, after := #[{ on := 0, ground := Go.Ground.data }, { on := 27, ground := Go.Ground.data }, { on := 25, ground := Go.Ground.chain }], guard := none }) rfl (fun K9 hK9 => ?_) AllReadyH.nil
        have hX : Below wr.heap.size wr (wr.drew.alloc (.cells #[.int .i64 V0, .int .i64 V1, .int .i64 V2] 26)) := ((Below.refl wr.heap.size wr).drew).alloc (Nat.le_refl _) _
        have hOX := hide (ownsRow_below (unhide hO) hX)
        have hsw := (unhide hw).size
        refine step_kR Try.underlying24 _ rfl _ _ rfl w.heap.size r k c L (V0, V1, V2) rfl (unhide hOX) wr.heap.size rfl (alloc_newR wr _) (by omega) (by show w.heap.size ≤ (wr.heap.push _).size; rw [Array.size_push]; omega) ?_
        intro g3 c3 w3 h1 h2 h3
        refine hK9.out _ _ trivial (fun hH28 => ?_)
        clear hK9 K9
        (try simp only [Act.put, List.setIfInBounds_toArray, List.set_cons_zero, List.set_cons_succ])
        refine wpAnyH_take (i := 29) (oi := { dst := some 3, op := Go.Op.assign (Go.Operand.tmp 47), type := 24, pos := _, after := #[{ on := 28, ground := Go.Ground.data }, { on := 28, ground := Go.Ground.chain }, { on := 0, ground := Go.Ground.phase }, { on := 1, ground := Go.Ground.phase }, { on := 2, ground := Go.Ground.phase }, { on := 3, ground := Go.Ground.phase }, { on := 4, ground := Go.Ground.phase }, { on := 5, ground := Go.Ground.phase }, { on := 6, ground := Go.Ground.phase }, { on := 7, ground := Go.Ground.phase }, { on := 8, ground := Go.Ground.phase }, { on := 9, ground := Go.Ground.phase }, { on := 10, ground := Go.Ground.phase }, { on := 11, ground := Go.Ground.phase }, { on := 12, ground := Go.Ground.phase }, { on := 13, ground := Go.Ground.phase }, { on := 14, ground := Go.Ground.phase }, { on := 15, ground := Go.Ground.phase }, { on := 16, ground := Go.Ground.phase }, { on := 17, ground := Go.Ground.phase }, { on := 18, ground := Go.Ground.phase }, { on := 19, ground := Go.Ground.phase }, { on := 20, ground := Go.Ground.phase }, { on := 21, ground := Go.Ground.phase }, { on := 22, ground := Go.Ground.phase }, { on := 23, ground := Go.Ground.phase }, { on := 24, ground := Go.Ground.phase }, { on := 25, ground := Go.Ground.phase }, { on := 26, ground := Go.Ground.phase }, { on := 27, ground := Go.Ground.phase }, { on := 28, ground := Go.Ground.phase }], guard := none }) (v := ?_) rfl (by kernel_rfl) (by kernel_rfl) (by kernel_rfl) (fun _ _ _ h => h) (Or.inl ⟨by rfl, ?_⟩) trivial ?_
        rotate_left
        · (intro w hSw; (try dsimp only at hSw); go_simp <;> with_reducible rfl)
        (try simp only [Act.put, List.setIfInBounds_toArray, List.set_cons_zero, List.set_cons_succ])
        refine wpAnyH_done (by kernel_rfl) ?_ _
        refine NoPanic.normal ?_
        have hlen : Hid ((L ++ [(V0, V1, V2)]).length = k + 1) := hide (by rw [List.length_append, unhide hk']; rfl)
        have hO3 : Hid (Own w3 w.heap.size g3 (L ++ [(V0, V1, V2)]).length c3 (L ++ [(V0, V1, V2)])) := hide (by rw [unhide hlen]; exact h1)
        have hw3 := hide (below_grown (laterB (unhide hw) hX) h2 (own_ge (unhide hO)))
        have hC3 : Hid (CsOk (L ++ [(V0, V1, V2)])) := hide (by
          intro c hc
          rcases List.mem_append.1 hc with h | h
          · exact unhide hC c h
          · simp at h; subst h; exact ⟨unhide lv0, unhide lv1, unhide lv2⟩)
        clear h1 h2 h3 hX hOX hO hw hC t1 t2 t3 t4 wA wB wB2 wC2 wE2 wn hA hBq hCq hEq
        go_wp2
        go_roundw
        case rel => exact ⟨g3, c3, L ++ [(V0, V1, V2)], by rw [unhide hlen]; go_num, by rw [unhide hlen], by rw [unhide hlen]; omega, hC3, hO3, hw3⟩
        case measure => simp [intOf]; omega
      · have hke : (k : Int) = N3 := by omega
        go_wp2
        go_ret
        refine ⟨r, c, L, ?_, ?_, ?_, unhide hC, ?_, unhide hw⟩
        · rw [unhide hk']; rfl
        · rw [unhide hk']; omega
        · rw [unhide hk']; omega
        · rw [unhide hk']; exact unhide hO
  · have hd : Hid ((decide (2 ≤ n) && decide (n ≤ 9)) = false) := hide (by rw [Bool.eq_false_iff]; intro h; simp at h; exact hn h)
    clear hn
    go_enter Try.func64, Try.ntmps64
    go_wp2_with fail
    refine (in_any n 2 9 false _ (unhide hd)).mono ?_
    rintro e w9 ⟨rfl, hw0⟩
    have hw1 := hw0.symm
    subst hw1
    go_wp2
    go_ret
    exact ⟨w.heap.size, 0, [], rfl, by simp, Or.inl rfl, by intro c hc; simp at hc, own_lit0 w (Nat.le_refl _), (Below.refl _ _).alloc (Nat.le_refl _) _⟩
end Go.Proofs.Ytdmcbdogpeidjaa
