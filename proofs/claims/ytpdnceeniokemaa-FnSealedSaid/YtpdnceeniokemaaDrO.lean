/-
  The contract of the model's draw of a lock, a minute and a body: some answer; nothing that was there is written.
-/
import Derived.Test.YtpdnceeniokemaaDrO1
namespace Go.Proofs.Ytpdnceeniokemaa
open Go.RowKit
set_option linter.unusedVariables false
set_option linter.unusedSimpArgs false

set_option maxRecDepth 100000 in
set_option maxHeartbeats 6400000 in
theorem dopen_any (a : Option Addr) (len cap : Nat) (W : World) (hl2 : len ≤ 4096) (hr : RdB W W.heap.size a len) :
    Calls Try.prog 12 #[.slice a len cap] W (AnL W) := by
  have hlen : len ≤ 9223372036854775807 := by omega
  have hb0 : Below W.heap.size W (W.alloc (.cells #[.int .i64 0, .int .i64 0, .int .i64 0] 25)) := (Below.refl _ _).alloc (Nat.le_refl _) _
  have hb0' := hide hb0
  have hrB := hide (rdb_later hr hb0)
  have hrb0 := hide (show (W.alloc (.cells #[.int .i64 0, .int .i64 0, .int .i64 0] 25)).heap[W.heap.size]? = some (.cells #[.int .i64 0, .int .i64 0, .int .i64 0] 25 (0, 0)) from heap_alloc_new W _)
  have hsz0 : (W.alloc (.cells #[.int .i64 0, .int .i64 0, .int .i64 0] 25)).heap.size = W.heap.size + 1 := by simp
  clear hr hb0
  go_enter Try.func12, Try.ntmps12
  go_wp2_with fail
  generalize W.alloc (.cells #[.int .i64 0, .int .i64 0, .int .i64 0] 25) = W0 at *
  refine (new_any a len cap W0 hlen (by omega) (rdb_up (unhide hrB) (by omega))).mono ?_
  rintro e w1 ⟨g, rfl, hg0, hc1, hb1⟩
  have hBW := hide (laterB (unhide hb0') hb1)
  have hrb := hide ((hb1.block W.heap.size (by omega)).trans (unhide hrb0))
  have D1 := hide (show DS w1 W.heap.size g a len cap w1 from ⟨hc1, rdb_later (unhide hrB) (hb1.mono (by omega)), grown_refl _ _⟩)
  have hgl := hc1.lt
  have hBw : W.heap.size ≤ w1.heap.size := by have := hb1.size; omega
  have hrw : W.heap.size < w1.heap.size := by have := hb1.size; omega
  have hBg : W.heap.size ≤ g := by omega
  have hgW := hBg
  have hrg : W.heap.size ≠ g := by omega
  clear hc1 hb1 hrb0 hrB hb0'
  go_wp2_with fail
  refine (below_any W.heap.size g a len cap 100 _ hBg hlen (unhide D1).cur (unhide D1).rd (by omega)).mono ?_
  rintro e w2 ⟨f, rfl, _, _, k1, g1⟩
  have D2 := hide ((unhide D1).step hBg k1 g1)
  clear k1 g1 D1
  go_wp2_with fail
  refine (dsec_any W.heap.size g a len cap _ hBg hlen (unhide D2).cur (unhide D2).rd).mono ?_
  rintro e w3 ⟨sec, rfl, k1, g1⟩
  have D3 := (unhide D2).step hBg k1 g1
  have hqw : w1.heap.size ≤ w3.heap.size := D3.gr.size
  have Q1 := hide (show LQ w1 W.heap.size g a len cap w3.heap.size (w3.alloc (.cells #[.int .i64 f, .int .i64 0, .int .i64 sec] 25)) f 0 sec from ⟨D3.later hBg ((Below.refl w3.heap.size w3).alloc (Nat.le_refl _) _), heap_alloc_new w3 _⟩)
  clear k1 g1 D2 D3
  go_wp2_with fail
  generalize w3.alloc (.cells #[.int .i64 f, .int .i64 0, .int .i64 sec] 25) = X at *
  obtain ⟨q, hq⟩ : ∃ q, w3.heap.size = q := ⟨_, rfl⟩
  rw [hq] at hqw Q1 ⊢
  clear hq
  have hqg : q ≠ g := by omega
  have hqr : q ≠ W.heap.size := by omega
  have hcon := hide (fun w' h => below_T (w := w1) (a := a) (cap := cap) (f := f) (s := sec) (n := 50) hBg hlen hqg (by omega) w' h)
  have hall := hide (show LT w1 W.heap.size g a len cap q f sec X.drew from ⟨(unhide Q1).drew.cells.1, 0, (unhide Q1).drew⟩)
  clear Q1
  go_region_held3 (fun w' => w'.cell? ⟨q, 0, none⟩ = some (.int .i64 f) ∧ ∃ t, LQ w1 W.heap.size g a len cap q w' f t sec)
    (first | assumption | exact (unhide hall) | exact (LT.set ‹_› hBw hgl hqw))
    ((go_at_call 50; refine (unhide hcon _ (by assumption)).mono ?_; rintro e w4 ⟨x, t1, rfl, hS4, c1, f1⟩; unfold LT at hS4))
  rename_i hH
  obtain ⟨_, t, Q2⟩ := hH
  have Q := hide Q2
  generalize World.setCell _ _ _ = wr at *
  clear Q2 hcon hall
  go_wp2_with fail
  have hcon := hide (fun w' h => from_Q (w := w1) (a := a) (cap := cap) (f := f) (t := t) (s := sec) hBg hlen hqg w' h)
  have hall := hide (show wr.drew.cell? ⟨q, 0, none⟩ = some (.int .i64 f) ∧ LQ w1 W.heap.size g a len cap q wr.drew f t sec from ⟨(unhide Q).drew.cells.1, (unhide Q).drew⟩)
  clear Q
  go_region_held3 (fun w' => w'.cell? ⟨q, 0, none⟩ = some (.int .i64 f) ∧ LQ w1 W.heap.size g a len cap q w' f t sec)
    (first | assumption | exact (unhide hall))
    ((go_at_call 52; refine (unhide hcon _ (by assumption)).mono ?_; rintro e w5 ⟨mx, rfl, hS5⟩))
  rename_i hH
  have Q := hide hH.2
  clear hH hcon hall
  generalize IntKind.i64.wrap (f + mx) = mi at *
  go_wp2_with fail
  refine (once_any W.heap.size g a len cap 16 _ hBg hlen (unhide Q).ds.cur (unhide Q).ds.rd (by omega)).mono ?_
  rintro e w6 ⟨v, rfl, k1, g1⟩
  have Q6 := hide ((unhide Q).step hBg hqg k1 g1)
  clear k1 g1 Q
  cases v with
  | false =>
    have hcon := hide (fun w' h => body_Q (w := w1) (a := a) (cap := cap) (q := q) (t := t) (f := f) (s := sec) hBg hBw hlen hqg hrg w' h (unhide hrb))
    have hal2 := hide (show (w6.drew.cell? ⟨q, 0, none⟩ = some (.int .i64 f) ∧ w6.drew.cell? ⟨q, 1, none⟩ = some (.int .i64 t) ∧ w6.drew.cell? ⟨q, 2, none⟩ = some (.int .i64 sec)) ∧ LQ w1 W.heap.size g a len cap q w6.drew f t sec from ⟨(unhide Q6).drew.cells, (unhide Q6).drew⟩)
    clear Q6
    go_wp2_with fail
    go_region_held3 (fun w' => w'.cell? ⟨q, 0, none⟩ = some (.int .i64 f) ∧ w'.cell? ⟨q, 1, none⟩ = some (.int .i64 t) ∧ w'.cell? ⟨q, 2, none⟩ = some (.int .i64 sec))
      (first | assumption | exact (unhide hal2).1 | (exact keepR ‹_› hqr))
      ((go_at_call 55; refine (unhide hcon _ (unhide hal2)).mono ?_; rintro e wz ⟨Gz, cz, Lz, rfl, ⟨hcz, hqz⟩, owz, hyz, hnz, hrz⟩; obtain ⟨z0, z1, z2⟩ := blk3 hrz; have y0 := frz hrz 0; have y1 := frz hrz 1; have y2 := frz hrz 2; have hfin := hide (fun m => anl_of (m := m) rfl hrw (unhide hBW) hgW hqz owz hyz hnz (.int .i64 f) (.int .i64 t) (.int .i64 sec)); clear hqz owz hrz))
    go_wp2
    refine bodyPost_ret (v := .tuple #[.agg #[.int .i64 f, .int .i64 t, .int .i64 sec], .int .i64 mi, .slice (some ⟨Gz, 0, none⟩) Lz.length cz]) (by simp [results, Try.results12, go_sem, z0, z1, z2]) rfl ?_
    exact unhide hfin _
  | true =>
    go_wp2_with fail
    refine (below_any W.heap.size g a len cap 3 _ hBg hlen (unhide Q6).ds.cur (unhide Q6).ds.rd (by omega)).mono ?_
    rintro e wr ⟨k, rfl, k0, k2, k1, g1⟩
    have Q := hide ((unhide Q6).step hBg hqg k1 g1)
    have hzg : g < wr.heap.size := by have := (unhide Q).ds.cur.lt; exact this
    clear k1 g1 Q6
    have hcase : k = 0 ∨ k = 1 ∨ k = 2 := by omega
    rcases hcase with rfl | rfl | rfl
    · clear k0 k2
      go_wp2_with fail
      refine wp_region_noPanic ?_
      refine wp_region_held_drew (S := (fun w' => LF w1 W.heap.size g a len cap q t sec w')) (by kernel_rfl) ?_ (fun hH0 => ?_)
      · exact LF.drew ⟨(unhide Q).cells.2.1, f, unhide Q⟩
      clear Q
      refine wpAnyH_take (i := 0) (oi := { dst := some 32, op := Go.Op.fieldAddr 25 (Go.Operand.tmp 6) 1, type := 0, pos := _, after := #[], guard := none }) (v := ?_) rfl (by kernel_rfl) (by kernel_rfl) (by kernel_rfl) (fun _ _ _ h => h) (Or.inl ⟨by rfl, ?_⟩) hH0 ?_
      rotate_left
      · (intro w hSw; have hSc := hSw.1; go_simp <;> with_reducible rfl)
      (try simp only [Act.put, List.setIfInBounds_toArray, List.set_cons_zero, List.set_cons_succ])
      refine wpAnyH_take (i := 1) (oi := { dst := some 33, op := Go.Op.load 2 (Go.Operand.tmp 32), type := 2, pos := _, after := #[{ on := 0, ground := Go.Ground.data }], guard := none }) (v := ?_) rfl (by kernel_rfl) (by kernel_rfl) (by kernel_rfl) (fun _ _ _ h => h) (Or.inl ⟨by rfl, ?_⟩) hH0 ?_
      rotate_left
      · (intro w hSw; have hSc := hSw.1; go_simp <;> with_reducible rfl)
      (try simp only [Act.put, List.setIfInBounds_toArray, List.set_cons_zero, List.set_cons_succ])
      refine wpAnyH_take (i := 2) (oi := { dst := some 34, op := Go.Op.fieldAddr 25 (Go.Operand.tmp 6) 1, type := 0, pos := _, after := #[], guard := none }) (v := ?_) rfl (by kernel_rfl) (by kernel_rfl) (by kernel_rfl) (fun _ _ _ h => h) (Or.inl ⟨by rfl, ?_⟩) hH0 ?_
      rotate_left
      · (intro w hSw; have hSc := hSw.1; go_simp <;> with_reducible rfl)
      (try simp only [Act.put, List.setIfInBounds_toArray, List.set_cons_zero, List.set_cons_succ])
      refine wpAnyH_take (i := 3) (oi := { dst := some 35, op := Go.Op.load 2 (Go.Operand.tmp 34), type := 2, pos := _, after := #[{ on := 2, ground := Go.Ground.data }], guard := none }) (v := ?_) rfl (by kernel_rfl) (by kernel_rfl) (by kernel_rfl) (fun _ _ _ h => h) (Or.inl ⟨by rfl, ?_⟩) hH0 ?_
      rotate_left
      · (intro w hSw; have hSc := hSw.1; go_simp <;> with_reducible rfl)
      (try simp only [Act.put, List.setIfInBounds_toArray, List.set_cons_zero, List.set_cons_succ])
      refine wpAnyH_take (i := 4) (oi := { dst := some 36, op := Go.Op.binOp Go.BinOp.add 2 (Go.Operand.tmp 35) (Go.Operand.const (Go.Value.int Go.IntKind.i64 1)) 2, type := 2, pos := _, after := #[{ on := 3, ground := Go.Ground.data }], guard := none }) (v := ?_) rfl (by kernel_rfl) (by kernel_rfl) (by kernel_rfl) (fun _ _ _ h => h) (Or.inl ⟨by rfl, ?_⟩) hH0 ?_
      rotate_left
      · (intro w hSw; have hSc := hSw.1; go_simp <;> with_reducible rfl)
      (try simp only [Act.put, List.setIfInBounds_toArray, List.set_cons_zero, List.set_cons_succ])
      refine wpAnyH_take (i := 6) (oi := { dst := some 38, op := Go.Op.move (Go.Operand.tmp 5), type := 66, pos := _, after := #[], guard := none }) (v := ?_) rfl (by kernel_rfl) (by kernel_rfl) (by kernel_rfl) (fun _ _ _ h => h) (Or.inl ⟨by rfl, ?_⟩) hH0 ?_
      rotate_left
      · (intro w hSw; have hSc := hSw.1; go_simp <;> with_reducible rfl)
      (try simp only [Act.put, List.setIfInBounds_toArray, List.set_cons_zero, List.set_cons_succ])
      refine wpAnyH_ready (rs := [5, 7]) (by kernel_rfl) (by simp) ?_
      refine AllReadyH.cons (o := { dst := some 37, op := Go.Op.buildSlice 53 3 #[(0, Go.Operand.const (Go.Value.int Go.IntKind.i64 (-1))), (1, Go.Operand.tmp 33), (2, Go.Operand.tmp 36)], type := 53, pos := _, after := #[{ on := 1, ground := Go.Ground.data }, { on := 4, ground := Go.Ground.data }], guard := none }) rfl (fun K hK => ?_) ?_
      · go_simp
        have hlit := hide (fun k hk => lit_at3 (w := wr.drew) (T := 2) (a0 := -1) (a1 := t) (a2 := IntKind.i64.wrap (t + 1)) k hk)
        have hEg : wr.drew.heap.size ≠ g := by have := hzg; simp at this ⊢; omega
        refine hK.out _ _ ?_ (fun hH1 => ?_)
        · exact hH0.alloc hBg _
        clear hK K
        (try simp only [Act.put, List.setIfInBounds_toArray, List.set_cons_zero, List.set_cons_succ])
        refine wpAnyH_ready (rs := [7]) (by kernel_rfl) (by simp) ?_
        refine AllReadyH.cons (o := { dst := some 39, op := Go.Op.call { callee := Go.Callee.value (Go.Operand.func 50), args := #[Go.Operand.tmp 38, Go.Operand.const (Go.Value.int Go.IntKind.i64 3)], argTypes := #[66, 2] }, type := 2, pos := _, after := #[{ on := 6, ground := Go.Ground.data }], guard := none }) rfl (fun K hK => ?_) AllReadyH.nil
        go_simp
        go_at_call 50
        refine (below_F hBg hlen hqg (by omega) _ hH1).mono ?_
        rintro e wc ⟨x, f1, rfl, ⟨x0, x1⟩, hS1, c0, f0, gg⟩
        go_wp2_with fail
        refine hK.out _ _ ?_ (fun hHc => ?_)
        · exact hS1
        clear hK K hS1
        obtain ⟨n, rfl⟩ := Int.eq_ofNat_of_zero_le x0
        (try simp only [Act.put, List.setIfInBounds_toArray, List.set_cons_zero, List.set_cons_succ])
        obtain ⟨v, hv⟩ := unhide hlit n (by omega)
        have hv1 : wc.cell? ⟨wr.heap.size, n, none⟩ = some (.int .i64 v) := grown_cell gg hEg hv
        clear hv hlit gg hH1 hH0
        refine wpAnyH_take (i := 8) (oi := { dst := some 40, op := Go.Op.indexAddr 53 (Go.Operand.tmp 37) (Go.Operand.tmp 39), type := 0, pos := _, after := #[{ on := 5, ground := Go.Ground.data }, { on := 7, ground := Go.Ground.data }], guard := none }) (v := ?_) rfl (by kernel_rfl) (by kernel_rfl) (by kernel_rfl) (fun _ _ _ h => h) (Or.inl ⟨by rfl, ?_⟩) hHc ?_
        rotate_left
        · (intro w hSw; go_simp <;> with_reducible rfl)
        (try simp only [Act.put, List.setIfInBounds_toArray, List.set_cons_zero, List.set_cons_succ])
        refine wpAnyH_ready (rs := [9]) (by kernel_rfl) (by simp) ?_
        refine AllReadyH.cons (o := { dst := some 41, op := Go.Op.load 2 (Go.Operand.tmp 40), type := 2, pos := _, after := #[{ on := 8, ground := Go.Ground.data }], guard := none }) rfl (fun K hK => ?_) AllReadyH.nil
        go_simp
        refine hK.out _ _ ?_ (fun hH5 => ?_)
        · exact hHc
        clear hK K
        (try simp only [Act.put, List.setIfInBounds_toArray, List.set_cons_zero, List.set_cons_succ])
        refine wpAnyH_take (i := 10) (oi := { dst := some 42, op := Go.Op.fieldAddr 25 (Go.Operand.tmp 6) 0, type := 0, pos := _, after := #[{ on := 0, ground := Go.Ground.phase }, { on := 1, ground := Go.Ground.phase }, { on := 2, ground := Go.Ground.phase }, { on := 3, ground := Go.Ground.phase }, { on := 4, ground := Go.Ground.phase }, { on := 5, ground := Go.Ground.phase }, { on := 6, ground := Go.Ground.phase }, { on := 7, ground := Go.Ground.phase }, { on := 8, ground := Go.Ground.phase }, { on := 9, ground := Go.Ground.phase }], guard := none }) (v := ?_) rfl (by kernel_rfl) (by kernel_rfl) (by kernel_rfl) (fun _ _ _ h => h) (Or.inl ⟨by rfl, ?_⟩) hH5 ?_
        rotate_left
        · (intro w hSw; go_simp <;> with_reducible rfl)
        (try simp only [Act.put, List.setIfInBounds_toArray, List.set_cons_zero, List.set_cons_succ])
        refine wpAnyH_ready (rs := [11]) (by kernel_rfl) (by simp) ?_
        refine AllReadyH.cons (o := { dst := none, op := Go.Op.store 2 (Go.Operand.tmp 42) (Go.Operand.tmp 41), type := 0, pos := _, after := #[{ on := 10, ground := Go.Ground.data }, { on := 9, ground := Go.Ground.data }, { on := 7, ground := Go.Ground.chain }, { on := 0, ground := Go.Ground.phase }, { on := 1, ground := Go.Ground.phase }, { on := 2, ground := Go.Ground.phase }, { on := 3, ground := Go.Ground.phase }, { on := 4, ground := Go.Ground.phase }, { on := 5, ground := Go.Ground.phase }, { on := 6, ground := Go.Ground.phase }, { on := 7, ground := Go.Ground.phase }, { on := 8, ground := Go.Ground.phase }, { on := 9, ground := Go.Ground.phase }], guard := none }) rfl (fun K hK => ?_) AllReadyH.nil
        go_simp
        refine hK.out _ _ ?_ (fun hH6 => ?_)
        · exact hH5.set hBw hgl hqw
        clear hK K
        (try simp only [Act.put, List.setIfInBounds_toArray, List.set_cons_zero, List.set_cons_succ])
        refine wpAnyH_done (by kernel_rfl) ?_ _
        refine NoPanic.normal ?_
        obtain ⟨_, f2, Q2⟩ := hH6
        have Q3 := hide Q2
        generalize World.setCell _ _ _ = X at *
        clear Q2 hH5 hHc
        have hcon := hide (fun w' h => body_Q (w := w1) (a := a) (cap := cap) (q := q) (t := t) (f := f2) (s := sec) hBg hBw hlen hqg hrg w' h (unhide hrb))
        have hal2 := hide (show (X.drew.cell? ⟨q, 0, none⟩ = some (.int .i64 f2) ∧ X.drew.cell? ⟨q, 1, none⟩ = some (.int .i64 t) ∧ X.drew.cell? ⟨q, 2, none⟩ = some (.int .i64 sec)) ∧ LQ w1 W.heap.size g a len cap q X.drew f2 t sec from ⟨(unhide Q3).drew.cells, (unhide Q3).drew⟩)
        clear Q3
        go_wp2_with fail
        go_region_held3 (fun w' => w'.cell? ⟨q, 0, none⟩ = some (.int .i64 f2) ∧ w'.cell? ⟨q, 1, none⟩ = some (.int .i64 t) ∧ w'.cell? ⟨q, 2, none⟩ = some (.int .i64 sec))
          (first | assumption | exact (unhide hal2).1 | (exact keepR ‹_› hqr))
          ((go_at_call 55; refine (unhide hcon _ (unhide hal2)).mono ?_; rintro e wz ⟨Gz, cz, Lz, rfl, ⟨hcz, hqz⟩, owz, hyz, hnz, hrz⟩; obtain ⟨z0, z1, z2⟩ := blk3 hrz; have y0 := frz hrz 0; have y1 := frz hrz 1; have y2 := frz hrz 2; have hfin := hide (fun m => anl_of (m := m) rfl hrw (unhide hBW) hgW hqz owz hyz hnz (.int .i64 f2) (.int .i64 t) (.int .i64 sec)); clear hqz owz hrz))
        go_wp2
        refine bodyPost_ret (v := .tuple #[.agg #[.int .i64 f2, .int .i64 t, .int .i64 sec], .int .i64 mi, .slice (some ⟨Gz, 0, none⟩) Lz.length cz]) (by simp [results, Try.results12, go_sem, z0, z1, z2]) rfl ?_
        exact unhide hfin _
      refine AllReadyH.cons (o := { dst := some 39, op := Go.Op.call { callee := Go.Callee.value (Go.Operand.func 50), args := #[Go.Operand.tmp 38, Go.Operand.const (Go.Value.int Go.IntKind.i64 3)], argTypes := #[66, 2] }, type := 2, pos := _, after := #[{ on := 6, ground := Go.Ground.data }], guard := none }) rfl (fun K hK => ?_) AllReadyH.nil
      go_simp
      go_at_call 50
      refine (below_F hBg hlen hqg (by omega) _ hH0).mono ?_
      rintro e wc ⟨x, f1, rfl, ⟨x0, x1⟩, hS1, c0, f0, gg⟩
      go_wp2_with fail
      refine hK.out _ _ ?_ (fun hHc => ?_)
      · exact hS1
      clear hK K hS1
      obtain ⟨n, rfl⟩ := Int.eq_ofNat_of_zero_le x0
      (try simp only [Act.put, List.setIfInBounds_toArray, List.set_cons_zero, List.set_cons_succ])
      refine wpAnyH_ready (rs := [5]) (by kernel_rfl) (by simp) ?_
      refine AllReadyH.cons (o := { dst := some 37, op := Go.Op.buildSlice 53 3 #[(0, Go.Operand.const (Go.Value.int Go.IntKind.i64 (-1))), (1, Go.Operand.tmp 33), (2, Go.Operand.tmp 36)], type := 53, pos := _, after := #[{ on := 1, ground := Go.Ground.data }, { on := 4, ground := Go.Ground.data }], guard := none }) rfl (fun K hK => ?_) AllReadyH.nil
      go_simp
      obtain ⟨v, hv⟩ := lit_at3 (w := wc) (T := 2) (a0 := -1) (a1 := t) (a2 := IntKind.i64.wrap (t + 1)) n (by omega)
      have c0' := cell_later' ((Below.refl wc.heap.size wc).alloc (Nat.le_refl _) (.cells #[.int .i64 (-1), .int .i64 t, .int .i64 (IntKind.i64.wrap (t + 1))] 2)) c0
      have f0' := froz_later ((Below.refl wc.heap.size wc).alloc (Nat.le_refl _) (.cells #[.int .i64 (-1), .int .i64 t, .int .i64 (IntKind.i64.wrap (t + 1))] 2)) c0 f0
      refine hK.out _ _ ?_ (fun hHd => ?_)
      · exact hHc.alloc hBg _
      clear hK K
      (try simp only [Act.put, List.setIfInBounds_toArray, List.set_cons_zero, List.set_cons_succ])
      clear gg hHc hH0 c0 f0
      refine wpAnyH_take (i := 8) (oi := { dst := some 40, op := Go.Op.indexAddr 53 (Go.Operand.tmp 37) (Go.Operand.tmp 39), type := 0, pos := _, after := #[{ on := 5, ground := Go.Ground.data }, { on := 7, ground := Go.Ground.data }], guard := none }) (v := ?_) rfl (by kernel_rfl) (by kernel_rfl) (by kernel_rfl) (fun _ _ _ h => h) (Or.inl ⟨by rfl, ?_⟩) hHd ?_
      rotate_left
      · (intro w hSw; go_simp <;> with_reducible rfl)
      (try simp only [Act.put, List.setIfInBounds_toArray, List.set_cons_zero, List.set_cons_succ])
      refine wpAnyH_ready (rs := [9]) (by kernel_rfl) (by simp) ?_
      refine AllReadyH.cons (o := { dst := some 41, op := Go.Op.load 2 (Go.Operand.tmp 40), type := 2, pos := _, after := #[{ on := 8, ground := Go.Ground.data }], guard := none }) rfl (fun K hK => ?_) AllReadyH.nil
      go_simp
      refine hK.out _ _ ?_ (fun hH5 => ?_)
      · exact hHd
      clear hK K
      (try simp only [Act.put, List.setIfInBounds_toArray, List.set_cons_zero, List.set_cons_succ])
      refine wpAnyH_take (i := 10) (oi := { dst := some 42, op := Go.Op.fieldAddr 25 (Go.Operand.tmp 6) 0, type := 0, pos := _, after := #[{ on := 0, ground := Go.Ground.phase }, { on := 1, ground := Go.Ground.phase }, { on := 2, ground := Go.Ground.phase }, { on := 3, ground := Go.Ground.phase }, { on := 4, ground := Go.Ground.phase }, { on := 5, ground := Go.Ground.phase }, { on := 6, ground := Go.Ground.phase }, { on := 7, ground := Go.Ground.phase }, { on := 8, ground := Go.Ground.phase }, { on := 9, ground := Go.Ground.phase }], guard := none }) (v := ?_) rfl (by kernel_rfl) (by kernel_rfl) (by kernel_rfl) (fun _ _ _ h => h) (Or.inl ⟨by rfl, ?_⟩) hH5 ?_
      rotate_left
      · (intro w hSw; go_simp <;> with_reducible rfl)
      (try simp only [Act.put, List.setIfInBounds_toArray, List.set_cons_zero, List.set_cons_succ])
      refine wpAnyH_ready (rs := [11]) (by kernel_rfl) (by simp) ?_
      refine AllReadyH.cons (o := { dst := none, op := Go.Op.store 2 (Go.Operand.tmp 42) (Go.Operand.tmp 41), type := 0, pos := _, after := #[{ on := 10, ground := Go.Ground.data }, { on := 9, ground := Go.Ground.data }, { on := 7, ground := Go.Ground.chain }, { on := 0, ground := Go.Ground.phase }, { on := 1, ground := Go.Ground.phase }, { on := 2, ground := Go.Ground.phase }, { on := 3, ground := Go.Ground.phase }, { on := 4, ground := Go.Ground.phase }, { on := 5, ground := Go.Ground.phase }, { on := 6, ground := Go.Ground.phase }, { on := 7, ground := Go.Ground.phase }, { on := 8, ground := Go.Ground.phase }, { on := 9, ground := Go.Ground.phase }], guard := none }) rfl (fun K hK => ?_) AllReadyH.nil
      go_simp
      refine hK.out _ _ ?_ (fun hH6 => ?_)
      · exact hH5.set hBw hgl hqw
      clear hK K
      (try simp only [Act.put, List.setIfInBounds_toArray, List.set_cons_zero, List.set_cons_succ])
      refine wpAnyH_done (by kernel_rfl) ?_ _
      refine NoPanic.normal ?_
      obtain ⟨_, f2, Q2⟩ := hH6
      have Q3 := hide Q2
      generalize World.setCell _ _ _ = X at *
      clear Q2 hH5 hHd
      have hcon := hide (fun w' h => body_Q (w := w1) (a := a) (cap := cap) (q := q) (t := t) (f := f2) (s := sec) hBg hBw hlen hqg hrg w' h (unhide hrb))
      have hal2 := hide (show (X.drew.cell? ⟨q, 0, none⟩ = some (.int .i64 f2) ∧ X.drew.cell? ⟨q, 1, none⟩ = some (.int .i64 t) ∧ X.drew.cell? ⟨q, 2, none⟩ = some (.int .i64 sec)) ∧ LQ w1 W.heap.size g a len cap q X.drew f2 t sec from ⟨(unhide Q3).drew.cells, (unhide Q3).drew⟩)
      clear Q3
      go_wp2_with fail
      go_region_held3 (fun w' => w'.cell? ⟨q, 0, none⟩ = some (.int .i64 f2) ∧ w'.cell? ⟨q, 1, none⟩ = some (.int .i64 t) ∧ w'.cell? ⟨q, 2, none⟩ = some (.int .i64 sec))
        (first | assumption | exact (unhide hal2).1 | (exact keepR ‹_› hqr))
        ((go_at_call 55; refine (unhide hcon _ (unhide hal2)).mono ?_; rintro e wz ⟨Gz, cz, Lz, rfl, ⟨hcz, hqz⟩, owz, hyz, hnz, hrz⟩; obtain ⟨z0, z1, z2⟩ := blk3 hrz; have y0 := frz hrz 0; have y1 := frz hrz 1; have y2 := frz hrz 2; have hfin := hide (fun m => anl_of (m := m) rfl hrw (unhide hBW) hgW hqz owz hyz hnz (.int .i64 f2) (.int .i64 t) (.int .i64 sec)); clear hqz owz hrz))
      go_wp2
      refine bodyPost_ret (v := .tuple #[.agg #[.int .i64 f2, .int .i64 t, .int .i64 sec], .int .i64 mi, .slice (some ⟨Gz, 0, none⟩) Lz.length cz]) (by simp [results, Try.results12, go_sem, z0, z1, z2]) rfl ?_
      exact unhide hfin _
    · clear k0 k2
      have hla := hide (fun k hk => lit_at2 (w := wr) (T := 2) (a0 := 1000000000) (a1 := 1000000001) k hk)
      have Q7 := hide ((unhide Q).later hBg ((Below.refl wr.heap.size wr).alloc (Nat.le_refl _) (.cells #[.int .i64 1000000000, .int .i64 1000000001] 2)))
      have hEg : wr.heap.size ≠ g := by omega
      clear Q
      go_wp2_with fail
      generalize wr.alloc _ = Y at *
      refine (below_any W.heap.size g a len cap 2 _ hBg hlen (unhide Q7).ds.cur (unhide Q7).ds.rd (by omega)).mono ?_
      rintro e w7 ⟨k, rfl, k0, k2, k1, g1⟩
      obtain ⟨n, rfl⟩ := Int.eq_ofNat_of_zero_le k0
      obtain ⟨v, hv⟩ := unhide hla n (by omega)
      have hv1 := grown_cell g1 hEg hv
      have Q8 := (unhide Q7).step hBg hqg k1 g1
      obtain ⟨c0, c1, c2⟩ := Q8.cells
      have f1 := Q8.froz 1
      have Q9 := hide (Q8.set1 hBw hgl hqw v)
      clear k1 g1 Q7 Q8 hv hla
      go_wp2_with fail
      generalize w7.setCell _ _ = X at *
      have hcon := hide (fun w' h => body_Q (w := w1) (a := a) (cap := cap) (q := q) (t := v) (f := f) (s := sec) hBg hBw hlen hqg hrg w' h (unhide hrb))
      have hal2 := hide (show (X.drew.cell? ⟨q, 0, none⟩ = some (.int .i64 f) ∧ X.drew.cell? ⟨q, 1, none⟩ = some (.int .i64 v) ∧ X.drew.cell? ⟨q, 2, none⟩ = some (.int .i64 sec)) ∧ LQ w1 W.heap.size g a len cap q X.drew f v sec from ⟨(unhide Q9).drew.cells, (unhide Q9).drew⟩)
      clear Q9
      go_wp2_with fail
      go_region_held3 (fun w' => w'.cell? ⟨q, 0, none⟩ = some (.int .i64 f) ∧ w'.cell? ⟨q, 1, none⟩ = some (.int .i64 v) ∧ w'.cell? ⟨q, 2, none⟩ = some (.int .i64 sec))
        (first | assumption | exact (unhide hal2).1 | (exact keepR ‹_› hqr))
        ((go_at_call 55; refine (unhide hcon _ (unhide hal2)).mono ?_; rintro e wz ⟨Gz, cz, Lz, rfl, ⟨hcz, hqz⟩, owz, hyz, hnz, hrz⟩; obtain ⟨z0, z1, z2⟩ := blk3 hrz; have y0 := frz hrz 0; have y1 := frz hrz 1; have y2 := frz hrz 2; have hfin := hide (fun m => anl_of (m := m) rfl hrw (unhide hBW) hgW hqz owz hyz hnz (.int .i64 f) (.int .i64 v) (.int .i64 sec)); clear hqz owz hrz))
      go_wp2
      refine bodyPost_ret (v := .tuple #[.agg #[.int .i64 f, .int .i64 v, .int .i64 sec], .int .i64 mi, .slice (some ⟨Gz, 0, none⟩) Lz.length cz]) (by simp [results, Try.results12, go_sem, z0, z1, z2]) rfl ?_
      exact unhide hfin _
    · clear k0 k2
      go_wp2_with fail
      refine (odd_any W.heap.size g a len cap _ hBg hlen (unhide Q).ds.cur (unhide Q).ds.rd).mono ?_
      rintro e w7 ⟨mo, rfl, k1, g1⟩
      have Q8 := hide ((unhide Q).step hBg hqg k1 g1)
      clear k1 g1 Q
      have hcon := hide (fun w' h => body_Q (w := w1) (a := a) (cap := cap) (q := q) (t := t) (f := f) (s := sec) hBg hBw hlen hqg hrg w' h (unhide hrb))
      have hal2 := hide (show (w7.drew.cell? ⟨q, 0, none⟩ = some (.int .i64 f) ∧ w7.drew.cell? ⟨q, 1, none⟩ = some (.int .i64 t) ∧ w7.drew.cell? ⟨q, 2, none⟩ = some (.int .i64 sec)) ∧ LQ w1 W.heap.size g a len cap q w7.drew f t sec from ⟨(unhide Q8).drew.cells, (unhide Q8).drew⟩)
      clear Q8
      go_wp2_with fail
      go_region_held3 (fun w' => w'.cell? ⟨q, 0, none⟩ = some (.int .i64 f) ∧ w'.cell? ⟨q, 1, none⟩ = some (.int .i64 t) ∧ w'.cell? ⟨q, 2, none⟩ = some (.int .i64 sec))
        (first | assumption | exact (unhide hal2).1 | (exact keepR ‹_› hqr))
        ((go_at_call 55; refine (unhide hcon _ (unhide hal2)).mono ?_; rintro e wz ⟨Gz, cz, Lz, rfl, ⟨hcz, hqz⟩, owz, hyz, hnz, hrz⟩; obtain ⟨z0, z1, z2⟩ := blk3 hrz; have y0 := frz hrz 0; have y1 := frz hrz 1; have y2 := frz hrz 2; have hfin := hide (fun m => anl_of (m := m) rfl hrw (unhide hBW) hgW hqz owz hyz hnz (.int .i64 f) (.int .i64 t) (.int .i64 sec)); clear hqz owz hrz))
      go_wp2
      refine bodyPost_ret (v := .tuple #[.agg #[.int .i64 f, .int .i64 t, .int .i64 sec], .int .i64 mo, .slice (some ⟨Gz, 0, none⟩) Lz.length cz]) (by simp [results, Try.results12, go_sem, z0, z1, z2]) rfl ?_
      exact unhide hfin _

end Go.Proofs.Ytpdnceeniokemaa
