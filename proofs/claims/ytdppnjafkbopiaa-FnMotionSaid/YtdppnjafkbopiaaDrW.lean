/-
  Contract of the model's draw of two pictures.
-/
import Derived.Test.YtdppnjafkbopiaaDrV
namespace Go.Proofs.Ytdppnjafkbopiaa
open Go.RowKit
set_option linter.unusedVariables false
set_option linter.unusedSimpArgs false
theorem lit_at5 {w : World} {T : TypeId} {a0 a1 a2 a3 a4 : Int} (k : Nat) (hk : k < 5) : ∃ v : Int, (w.alloc (.cells #[.int .i64 a0, .int .i64 a1, .int .i64 a2, .int .i64 a3, .int .i64 a4] T)).cell? ⟨w.heap.size, k, none⟩ = some (.int .i64 v) := by
  have hc : k = 0 ∨ k = 1 ∨ k = 2 ∨ k = 3 ∨ k = 4 := by omega
  rcases hc with rfl | rfl | rfl | rfl | rfl
  · exact ⟨a0, by simp [go_sem]⟩
  · exact ⟨a1, by simp [go_sem]⟩
  · exact ⟨a2, by simp [go_sem]⟩
  · exact ⟨a3, by simp [go_sem]⟩
  · exact ⟨a4, by simp [go_sem]⟩
theorem own_room9 {w : World} {B g n c : Nat} {L : List Int} (h : OwnV w B (.slice (some ⟨g, 0, none⟩) n c) n L) : c ≤ 9223372036854775807 := by
  rcases h.2 with ⟨h0, _⟩ | ⟨g', cap', cur, hv, _, _, h1, h2, _⟩
  · cases h0
  · cases hv; unfold maxLen at h2; omega
set_option maxRecDepth 100000 in
set_option maxHeartbeats 6400000 in
theorem dtw_any (B g : Nat) (a : Option Addr) (len cap : Nat) (w : World) (hB : B ≤ g) (hBw : B ≤ w.heap.size) (hl : len ≤ 9223372036854775807) (hc : CurAt w g a len cap) (hr : RdB w B a len) :
    Calls Try.prog 9 #[.pointer (some ⟨g, 0, none⟩)] w (TwR w B g a len cap) := by
  have hg0 := hc.lt
  have a1 : Below w.heap.size w (w.alloc (.cells #[.int .i64 0, .int .i64 0, .slice none 0 0] 26)) := (Below.refl _ _).alloc (Nat.le_refl _) _
  have r1 := P3.new w 26 0 0 (.slice none 0 0)
  have z1 := Deep.nblk_alloc w (.cells #[.int .i64 0, .int .i64 0, .slice none 0 0] 26)
  have d1 : DS w B g a len cap (w.alloc (.cells #[.int .i64 0, .int .i64 0, .slice none 0 0] 26)) := (⟨hc, hr, grown_refl _ _⟩ : DS w B g a len cap w).later hB a1
  clear hc hr
  go_enter Try.func9, Try.ntmps9
  go_wp2_with fail
  generalize w.alloc (.cells #[.int .i64 0, .int .i64 0, .slice none 0 0] 26) = w1 at *
  have a2 : Below w1.heap.size w1 (w1.alloc (.cells #[.int .i64 0, .int .i64 0, .slice none 0 0] 26)) := (Below.refl _ _).alloc (Nat.le_refl _) _
  have r2 := P3.new w1 26 0 0 (.slice none 0 0)
  rw [z1] at r2
  have S0 : Hid (DS w B g a len cap (w1.alloc (.cells #[.int .i64 0, .int .i64 0, .slice none 0 0] 26)) ∧ P3 (w1.alloc (.cells #[.int .i64 0, .int .i64 0, .slice none 0 0] 26)) w.heap.size 26 0 0 (.slice none 0 0) ∧ P3 (w1.alloc (.cells #[.int .i64 0, .int .i64 0, .slice none 0 0] 26)) (w.heap.size + 1) 26 0 0 (.slice none 0 0)) := hide ⟨d1.later hB a2, r1.later a2, r2⟩
  generalize w1.alloc (.cells #[.int .i64 0, .int .i64 0, .slice none 0 0] 26) = w2 at *
  clear a1 a2 r1 r2 d1 z1 w1
  refine (below_any B g a len cap 3 _ hB hl (unhide S0).1.cur (unhide S0).1.rd (by omega)).mono ?_
  rintro e w3 ⟨x, rfl, x0, x1, k3, g3⟩
  have S1 := hide (⟨(unhide S0).1.step hB k3 g3, (unhide S0).2.1.kept g3 (by omega), (unhide S0).2.2.kept g3 (by omega)⟩ : DS w B g a len cap w3 ∧ P3 w3 w.heap.size 26 0 0 (.slice none 0 0) ∧ P3 w3 (w.heap.size + 1) 26 0 0 (.slice none 0 0))
  obtain ⟨W, hW⟩ : ∃ W, 4 * (1 + x) = W := ⟨_, rfl⟩
  have hWc : W = 4 ∨ W = 8 ∨ W = 12 := by omega
  have hWc' := hide hWc
  clear S0 k3 g3 hWc
  go_wp2_with fail
  refine (below_any B g a len cap 3 _ hB hl (unhide S1).1.cur (unhide S1).1.rd (by omega)).mono ?_
  rintro e w4 ⟨y, rfl, y0, y1, k3, g3⟩
  have S2 := hide (⟨(unhide S1).1.step hB k3 g3, (unhide S1).2.1.kept g3 (by omega), (unhide S1).2.2.kept g3 (by omega)⟩ : DS w B g a len cap w4 ∧ P3 w4 w.heap.size 26 0 0 (.slice none 0 0) ∧ P3 w4 (w.heap.size + 1) 26 0 0 (.slice none 0 0))
  obtain ⟨H, hH⟩ : ∃ H, 4 * (1 + y) = H := ⟨_, rfl⟩
  have hHc : H = 4 ∨ H = 8 ∨ H = 12 := by omega
  have hHc' := hide hHc
  have hWc := unhide hWc'
  obtain ⟨M, hM, hM0, hM1, hM2⟩ := prod_bd hWc hHc
  have hM' := hide hM
  have hM2' := hide hM2
  clear S1 k3 g3 hHc hWc x0 x1 hM hM2
  have hw4 := (unhide S2).1.gr.size
  clear hW
  go_wp2_with fail
  refine (dpc_any B g a len cap W H M _ hB (by omega) hl (unhide S2).1.cur (unhide S2).1.rd (unhide hM') (by omega) (by omega)).mono ?_
  rintro e w5 ⟨G6, c6, L6, rfl, hL6, hP6, d5, o5⟩
  have S3 := hide (⟨(unhide S2).1.step hB d5.cur d5.gr, (unhide S2).2.1.kept d5.gr (by omega), (unhide S2).2.2.kept d5.gr (by omega)⟩ : DS w B g a len cap w5 ∧ P3 w5 w.heap.size 26 0 0 (.slice none 0 0) ∧ P3 w5 (w.heap.size + 1) 26 0 0 (.slice none 0 0))
  have hG6 := own_lt o5
  have O5 : Hid (OwnV w5 w.heap.size (.slice (some ⟨G6, 0, none⟩) M c6) M L6) := hide (ownV_mono o5 hw4)
  have hP6' := hide hP6
  have hk6 : w.heap.size + 1 < w5.heap.size := by
    have h1 := (unhide S3).2.2.apart (unhide O5) G6 rfl
    have h2 := (unhide S3).2.1.apart (unhide O5) G6 rfl
    have h3 := own_ge (unhide O5)
    omega
  clear S2 d5 o5 hP6 hH y0 y1
  have hb6 : Below w5.heap.size w5 (w5.alloc (.cells #[.int .i64 W, .int .i64 H, .slice (some ⟨G6, 0, none⟩) M c6] 26)) := (Below.refl _ _).alloc (Nat.le_refl _) _
  have U6 : Hid (T1 w B g a len cap w5.heap.size G6 M c6 L6 W H (w5.alloc (.cells #[.int .i64 W, .int .i64 H, .slice (some ⟨G6, 0, none⟩) M c6] 26))) := hide ⟨(unhide S3).1.later hB hb6, (unhide S3).2.1.later hb6, (unhide S3).2.2.later hb6, P3.new _ _ _ _ _, ownsRow_below (unhide O5) hb6⟩
  have z6 := Deep.nblk_alloc w5 (.cells #[.int .i64 W, .int .i64 H, .slice (some ⟨G6, 0, none⟩) M c6] 26)
  clear hb6 S3 O5
  go_wp2_with fail
  generalize w5.alloc (.cells #[.int .i64 W, .int .i64 H, .slice (some ⟨G6, 0, none⟩) M c6] 26) = w6 at *
  generalize w5.heap.size = k6 at *
  clear w5
  refine (dpc_any B g a len cap W H M _ hB (by omega) hl (unhide U6).ds.cur (unhide U6).ds.rd (unhide hM') (by omega) (by omega)).mono ?_
  rintro e w7 ⟨G7, c7, L7, rfl, hL7, hP7, d7, o7⟩
  have U7 := hide ((unhide U6).call hB hg0 (by omega) d7.cur d7.gr)
  have hsz := d7.gr.size
  have hb7 : Below w7.heap.size w7 (w7.alloc (.cells #[.int .i64 W, .int .i64 H, .slice (some ⟨G7, 0, none⟩) M c7] 26)) := (Below.refl _ _).alloc (Nat.le_refl _) _
  have DT0 : Hid (Tw w B g a len cap w6.heap.size k6 w7.heap.size G6 M c6 L6 W H W H (.slice (some ⟨G7, 0, none⟩) M c7) M L7 (w7.alloc (.cells #[.int .i64 W, .int .i64 H, .slice (some ⟨G7, 0, none⟩) M c7] 26))) := hide ⟨(unhide U7).later hB hb7, P3.new _ _ _ _ _, ownsRow_below o7 hb7⟩
  have hk7 : w.heap.size + 1 < w7.heap.size := by omega
  have hkk : w7.heap.size ≠ k6 := by omega
  have hCw : w.heap.size ≤ w6.heap.size := by omega
  have hG6C : G6 < w6.heap.size := by omega
  clear U6 U7 d7 o7 hb7 hP7 hL7 hG6
  go_wp2_with fail
  generalize w7.alloc (.cells #[.int .i64 W, .int .i64 H, .slice (some ⟨G7, 0, none⟩) M c7] 26) = w8 at *
  generalize w7.heap.size = k7 at *
  generalize w6.heap.size = C at *
  clear w7 w6 hw4 z6
  refine (once_any B g a len cap 2 _ hB hl (unhide DT0).t.ds.cur (unhide DT0).t.ds.rd (by omega)).mono ?_
  rintro e w9 ⟨o, rfl, k3, g3⟩
  have DT := hide ((unhide DT0).call hB hg0 (by omega) (by omega) hCw k3 g3)
  clear DT0 k3 g3
  have hM2 := unhide hM2'
  cases o
  · have hM2h := hide hM2
    clear hM2
    go_wp2_with fail
    refine (once_any B g a len cap 20 _ hB hl (unhide DT).t.ds.cur (unhide DT).t.ds.rd (by omega)).mono ?_
    rintro e wt ⟨o9, rfl, k9, g9⟩
    have D9 := hide ((unhide DT).call hB hg0 (by omega) (by omega) hCw k9 g9)
    clear DT k9 g9
    have hL7 := ownV_len (unhide D9).o7
    cases o9
    · have FF := hide ((unhide D9).fw hCw)
      obtain ⟨c0, c1, c2⟩ := (unhide D9).t.p6.cells
      obtain ⟨d0, d1, d2⟩ := (unhide D9).p7.cells
      obtain ⟨a0, a1, a2⟩ := (unhide D9).t.r2.cells
      have af0 := (unhide D9).t.r2.fz 0
      have af1 := (unhide D9).t.r2.fz 1
      have af2 := (unhide D9).t.r2.fz 2
      obtain ⟨b0, b1, b2⟩ := (unhide D9).t.r3.cells
      have bf0 := (unhide D9).t.r3.fz 0
      have bf1 := (unhide D9).t.r3.fz 1
      have bf2 := (unhide D9).t.r3.fz 2
      have hn23 : ¬ (w.heap.size = w.heap.size + 1) := by omega
      have FZ := hide ((unhide FF).six hBw hg0 w.heap.size (w.heap.size + 1) (Or.inl rfl) (Or.inr rfl) (.int .i64 W) (.int .i64 H) (.slice (some ⟨G6, 0, none⟩) M c6) (.int .i64 W) (.int .i64 H) (.slice (some ⟨G7, 0, none⟩) M c7)).drew
      go_wp2_with fail
      go_region
      go_wp2
      exact bodyPost_ret (v := .tuple #[pcv W H (some ⟨G6, 0, none⟩) M c6, pcv W H (some ⟨G7, 0, none⟩) M c7]) (by simp [results, Try.results9, go_sem, a0, a1, a2, b0, b1, b2]) rfl ⟨W, H, W, H, _, _, M, M, c6, c7, L6, L7, rfl, hL6, (by first | omega | (simp; omega)), by omega, by omega, unhide FZ⟩
    go_wp2_with fail
    refine (below_any B g a len cap 4 _ hB hl (unhide D9).t.ds.cur (unhide D9).t.ds.rd (by omega)).mono ?_
    rintro e wu ⟨t, rfl, t0, t1, k9, g9⟩
    have D8 := hide ((unhide D9).call hB hg0 (by omega) (by omega) hCw k9 g9)
    clear D9 k9 g9
    have ht : t = 0 ∨ t = 1 ∨ t = 2 ∨ t = 3 := by omega
    clear t0 t1
    rcases ht with rfl | rfl | rfl | rfl
    · have hMp : (0 : Int) < M := by omega
      have hM00 : 0 < M := by omega
      have hgw : g < wu.heap.size := (unhide D8).t.ds.cur.lt
      have hgl := hide (fun (wx : World) (k : Nat) (hk : k < 3) => lit_at3 (w := wx) (T := 2) (a0 := -1) (a1 := 256) (a2 := 4611686018427387904) k hk)
      go_wp2_with fail
      refine wp_region_noPanic ?_
      refine wp_region_held_drew (S := (fun w' => Te w B g a len cap C k6 k7 G6 M c6 L6 W H W H (.slice (some ⟨G7, 0, none⟩) M c7) M w')) (by kernel_rfl) ?_ (fun hH0 => ?_)
      · exact (unhide D8).drew.te
      refine wpAnyH_take (i := 0) (oi := { dst := some 72, op := Go.Op.fieldAddr 26 (Go.Operand.tmp 7) 2, type := 0, pos := _, after := #[], guard := none }) (v := ?_) rfl (by kernel_rfl) (by kernel_rfl) (by kernel_rfl) (fun _ _ _ h => h) (Or.inl ⟨by rfl, ?_⟩) hH0 ?_
      rotate_left
      · (intro w hSw; have hSc := hSw.1; go_simp <;> with_reducible rfl)
      (try simp only [Act.put, List.setIfInBounds_toArray, List.set_cons_zero, List.set_cons_succ])
      refine wpAnyH_take (i := 1) (oi := { dst := some 73, op := Go.Op.load 24 (Go.Operand.tmp 72), type := 24, pos := _, after := #[{ on := 0, ground := Go.Ground.data }], guard := none }) (v := ?_) rfl (by kernel_rfl) (by kernel_rfl) (by kernel_rfl) (fun _ _ _ h => h) (Or.inl ⟨by rfl, ?_⟩) hH0 ?_
      rotate_left
      · (intro w hSw; have hSc := hSw.1; go_simp <;> with_reducible rfl)
      (try simp only [Act.put, List.setIfInBounds_toArray, List.set_cons_zero, List.set_cons_succ])
      refine wpAnyH_take (i := 3) (oi := { dst := some 75, op := Go.Op.move (Go.Operand.tmp 0), type := 31, pos := _, after := #[], guard := none }) (v := ?_) rfl (by kernel_rfl) (by kernel_rfl) (by kernel_rfl) (fun _ _ _ h => h) (Or.inl ⟨by rfl, ?_⟩) hH0 ?_
      rotate_left
      · (intro w hSw; have hSc := hSw.1; go_simp <;> with_reducible rfl)
      (try simp only [Act.put, List.setIfInBounds_toArray, List.set_cons_zero, List.set_cons_succ])
      refine wpAnyH_ready (rs := [2, 4]) (by kernel_rfl) (by simp) ?_
      refine AllReadyH.cons (o := { dst := some 74, op := Go.Op.buildSlice 24 3 #[(0, Go.Operand.const (Go.Value.int Go.IntKind.i64 (-1))), (1, Go.Operand.const (Go.Value.int Go.IntKind.i64 256)), (2, Go.Operand.const (Go.Value.int Go.IntKind.i64 4611686018427387904))], type := 24, pos := _, after := #[], guard := none }) rfl (fun K hK => ?_) ?_
      · go_simp
        have DA := hide ((unhide D8).drew.later hB ((Below.refl _ _).alloc (Nat.le_refl _) (.cells #[.int .i64 (-1), .int .i64 256, .int .i64 4611686018427387904] 2)))
        refine hK.out _ _ ?_ (fun hH1 => ?_)
        · exact (unhide DA).te
        clear hK K
        (try simp only [Act.put, List.setIfInBounds_toArray, List.set_cons_zero, List.set_cons_succ])
        refine wpAnyH_ready (rs := [4]) (by kernel_rfl) (by simp) ?_
        refine AllReadyH.cons (o := { dst := some 76, op := Go.Op.call { callee := Go.Callee.value (Go.Operand.func 10), args := #[Go.Operand.tmp 75, Go.Operand.const (Go.Value.int Go.IntKind.i64 3)], argTypes := #[31, 2] }, type := 2, pos := _, after := #[{ on := 3, ground := Go.Ground.data }], guard := none }) rfl (fun K hK => ?_) AllReadyH.nil
        go_simp
        go_at_call 10
        refine (below_any B g a len cap 3 _ hB hl (unhide DA).t.ds.cur (unhide DA).t.ds.rd (by omega)).mono ?_
        rintro e wv ⟨y, rfl, y0, y1, k9, g9⟩
        obtain ⟨y, rfl⟩ : ∃ y' : Nat, y = y' := ⟨y.toNat, by omega⟩
        obtain ⟨v, hv0⟩ := unhide hgl wu.drew y (by omega)
        have hv : wv.cell? ⟨wu.heap.size, y, none⟩ = some (.int .i64 v) := grown_cell g9 (by omega) hv0
        have E8 := hide ((unhide DA).call hB hg0 (by omega) (by omega) hCw k9 g9)
        clear k9 g9 hv0
        go_wp2_with fail
        refine hK.out _ _ ?_ (fun hHc => ?_)
        · exact (unhide E8).te
        clear hK K hH1 hH0 DA
        (try simp only [Act.put, List.setIfInBounds_toArray, List.set_cons_zero, List.set_cons_succ])
        refine wpAnyH_take (i := 5) (oi := { dst := some 77, op := Go.Op.indexAddr 24 (Go.Operand.tmp 74) (Go.Operand.tmp 76), type := 0, pos := _, after := #[{ on := 2, ground := Go.Ground.data }, { on := 4, ground := Go.Ground.data }], guard := none }) (v := ?_) rfl (by kernel_rfl) (by kernel_rfl) (by kernel_rfl) (fun _ _ _ h => h) (Or.inl ⟨by rfl, ?_⟩) hHc ?_
        rotate_left
        · (intro w hSw; go_simp <;> with_reducible rfl)
        (try simp only [Act.put, List.setIfInBounds_toArray, List.set_cons_zero, List.set_cons_succ])
        refine wpAnyH_ready (rs := [6]) (by kernel_rfl) (by simp) ?_
        refine AllReadyH.cons (o := { dst := some 78, op := Go.Op.load 2 (Go.Operand.tmp 77), type := 2, pos := _, after := #[{ on := 5, ground := Go.Ground.data }], guard := none }) rfl (fun K hK => ?_) AllReadyH.nil
        go_simp
        refine hK.out _ _ ?_ (fun hH5 => ?_)
        · exact hHc
        clear hK K
        (try simp only [Act.put, List.setIfInBounds_toArray, List.set_cons_zero, List.set_cons_succ])
        refine wpAnyH_take (i := 7) (oi := { dst := some 79, op := Go.Op.indexAddr 24 (Go.Operand.tmp 73) (Go.Operand.const (Go.Value.int Go.IntKind.i64 0)), type := 0, pos := _, after := #[{ on := 1, ground := Go.Ground.data }, { on := 0, ground := Go.Ground.phase }, { on := 1, ground := Go.Ground.phase }, { on := 2, ground := Go.Ground.phase }, { on := 3, ground := Go.Ground.phase }, { on := 4, ground := Go.Ground.phase }, { on := 5, ground := Go.Ground.phase }, { on := 6, ground := Go.Ground.phase }], guard := none }) (v := ?_) rfl (by kernel_rfl) (by kernel_rfl) (by kernel_rfl) (fun _ _ _ h => h) (Or.inl ⟨by rfl, ?_⟩) hH5 ?_
        rotate_left
        · (intro w hSw; go_simp <;> with_reducible rfl)
        (try simp only [Act.put, List.setIfInBounds_toArray, List.set_cons_zero, List.set_cons_succ])
        obtain ⟨z, hz⟩ : ∃ z, L7[0]? = some z := ⟨L7[0]'(by omega), List.getElem?_eq_getElem _⟩
        have hz0 := ownI_at hz (unhide E8).o7
        have hzf := (unhide E8).o7.frozenAt 0
        have D9 := hide ((unhide E8).el hBw hg0 hCw hG6C v)
        have hL8 : (L7.set 0 v).length = M := by rw [List.length_set]; exact hL7
        refine wpAnyH_ready (rs := [8]) (by kernel_rfl) (by simp) ?_
        refine AllReadyH.cons (o := { dst := none, op := Go.Op.store 2 (Go.Operand.tmp 79) (Go.Operand.tmp 78), type := 0, pos := _, after := #[{ on := 7, ground := Go.Ground.data }, { on := 6, ground := Go.Ground.data }, { on := 4, ground := Go.Ground.chain }, { on := 0, ground := Go.Ground.phase }, { on := 1, ground := Go.Ground.phase }, { on := 2, ground := Go.Ground.phase }, { on := 3, ground := Go.Ground.phase }, { on := 4, ground := Go.Ground.phase }, { on := 5, ground := Go.Ground.phase }, { on := 6, ground := Go.Ground.phase }], guard := none }) rfl (fun K hK => ?_) AllReadyH.nil
        go_simp
        refine hK.out _ _ ?_ (fun hH6 => ?_)
        · exact (unhide D9).te
        clear hK K hH6
        (try simp only [Act.put, List.setIfInBounds_toArray, List.set_cons_zero, List.set_cons_succ])
        refine wpAnyH_done (by kernel_rfl) ?_ _
        refine NoPanic.normal ?_
        generalize World.setCell _ _ _ = wz at *
        clear hH5 hHc hz0 hzf hv E8 D8
        have FF := hide ((unhide D9).fw hCw)
        obtain ⟨c0, c1, c2⟩ := (unhide D9).t.p6.cells
        obtain ⟨d0, d1, d2⟩ := (unhide D9).p7.cells
        obtain ⟨a0, a1, a2⟩ := (unhide D9).t.r2.cells
        have af0 := (unhide D9).t.r2.fz 0
        have af1 := (unhide D9).t.r2.fz 1
        have af2 := (unhide D9).t.r2.fz 2
        obtain ⟨b0, b1, b2⟩ := (unhide D9).t.r3.cells
        have bf0 := (unhide D9).t.r3.fz 0
        have bf1 := (unhide D9).t.r3.fz 1
        have bf2 := (unhide D9).t.r3.fz 2
        have hn23 : ¬ (w.heap.size = w.heap.size + 1) := by omega
        have FZ := hide ((unhide FF).six hBw hg0 w.heap.size (w.heap.size + 1) (Or.inl rfl) (Or.inr rfl) (.int .i64 W) (.int .i64 H) (.slice (some ⟨G6, 0, none⟩) M c6) (.int .i64 W) (.int .i64 H) (.slice (some ⟨G7, 0, none⟩) M c7)).drew
        go_wp2_with fail
        go_region
        go_wp2
        exact bodyPost_ret (v := .tuple #[pcv W H (some ⟨G6, 0, none⟩) M c6, pcv W H (some ⟨G7, 0, none⟩) M c7]) (by simp [results, Try.results9, go_sem, a0, a1, a2, b0, b1, b2]) rfl ⟨W, H, W, H, _, _, M, M, c6, c7, L6, (L7.set 0 v), rfl, hL6, hL8, by omega, by omega, unhide FZ⟩
      refine AllReadyH.cons (o := { dst := some 76, op := Go.Op.call { callee := Go.Callee.value (Go.Operand.func 10), args := #[Go.Operand.tmp 75, Go.Operand.const (Go.Value.int Go.IntKind.i64 3)], argTypes := #[31, 2] }, type := 2, pos := _, after := #[{ on := 3, ground := Go.Ground.data }], guard := none }) rfl (fun K hK => ?_) AllReadyH.nil
      go_simp
      go_at_call 10
      refine (below_any B g a len cap 3 _ hB hl (unhide D8).drew.t.ds.cur (unhide D8).drew.t.ds.rd (by omega)).mono ?_
      rintro e wv ⟨y, rfl, y0, y1, k9, g9⟩
      obtain ⟨y, rfl⟩ : ∃ y' : Nat, y = y' := ⟨y.toNat, by omega⟩
      have E7 := hide ((unhide D8).drew.call hB hg0 (by omega) (by omega) hCw k9 g9)
      clear k9 g9
      go_wp2_with fail
      refine hK.out _ _ ?_ (fun hH1 => ?_)
      · exact (unhide E7).te
      clear hK K hH0
      (try simp only [Act.put, List.setIfInBounds_toArray, List.set_cons_zero, List.set_cons_succ])
      refine wpAnyH_ready (rs := [2]) (by kernel_rfl) (by simp) ?_
      refine AllReadyH.cons (o := { dst := some 74, op := Go.Op.buildSlice 24 3 #[(0, Go.Operand.const (Go.Value.int Go.IntKind.i64 (-1))), (1, Go.Operand.const (Go.Value.int Go.IntKind.i64 256)), (2, Go.Operand.const (Go.Value.int Go.IntKind.i64 4611686018427387904))], type := 24, pos := _, after := #[], guard := none }) rfl (fun K hK => ?_) AllReadyH.nil
      go_simp
      have E8 := hide ((unhide E7).later hB ((Below.refl _ _).alloc (Nat.le_refl _) (.cells #[.int .i64 (-1), .int .i64 256, .int .i64 4611686018427387904] 2)))
      obtain ⟨v, hv⟩ := unhide hgl wv y (by omega)
      refine hK.out _ _ ?_ (fun hHc => ?_)
      · exact (unhide E8).te
      clear hK K hH1 E7
      (try simp only [Act.put, List.setIfInBounds_toArray, List.set_cons_zero, List.set_cons_succ])
      refine wpAnyH_take (i := 5) (oi := { dst := some 77, op := Go.Op.indexAddr 24 (Go.Operand.tmp 74) (Go.Operand.tmp 76), type := 0, pos := _, after := #[{ on := 2, ground := Go.Ground.data }, { on := 4, ground := Go.Ground.data }], guard := none }) (v := ?_) rfl (by kernel_rfl) (by kernel_rfl) (by kernel_rfl) (fun _ _ _ h => h) (Or.inl ⟨by rfl, ?_⟩) hHc ?_
      rotate_left
      · (intro w hSw; go_simp <;> with_reducible rfl)
      (try simp only [Act.put, List.setIfInBounds_toArray, List.set_cons_zero, List.set_cons_succ])
      refine wpAnyH_ready (rs := [6]) (by kernel_rfl) (by simp) ?_
      refine AllReadyH.cons (o := { dst := some 78, op := Go.Op.load 2 (Go.Operand.tmp 77), type := 2, pos := _, after := #[{ on := 5, ground := Go.Ground.data }], guard := none }) rfl (fun K hK => ?_) AllReadyH.nil
      go_simp
      refine hK.out _ _ ?_ (fun hH5 => ?_)
      · exact hHc
      clear hK K
      (try simp only [Act.put, List.setIfInBounds_toArray, List.set_cons_zero, List.set_cons_succ])
      refine wpAnyH_take (i := 7) (oi := { dst := some 79, op := Go.Op.indexAddr 24 (Go.Operand.tmp 73) (Go.Operand.const (Go.Value.int Go.IntKind.i64 0)), type := 0, pos := _, after := #[{ on := 1, ground := Go.Ground.data }, { on := 0, ground := Go.Ground.phase }, { on := 1, ground := Go.Ground.phase }, { on := 2, ground := Go.Ground.phase }, { on := 3, ground := Go.Ground.phase }, { on := 4, ground := Go.Ground.phase }, { on := 5, ground := Go.Ground.phase }, { on := 6, ground := Go.Ground.phase }], guard := none }) (v := ?_) rfl (by kernel_rfl) (by kernel_rfl) (by kernel_rfl) (fun _ _ _ h => h) (Or.inl ⟨by rfl, ?_⟩) hH5 ?_
      rotate_left
      · (intro w hSw; go_simp <;> with_reducible rfl)
      (try simp only [Act.put, List.setIfInBounds_toArray, List.set_cons_zero, List.set_cons_succ])
      obtain ⟨z, hz⟩ : ∃ z, L7[0]? = some z := ⟨L7[0]'(by omega), List.getElem?_eq_getElem _⟩
      have hz0 := ownI_at hz (unhide E8).o7
      have hzf := (unhide E8).o7.frozenAt 0
      have D9 := hide ((unhide E8).el hBw hg0 hCw hG6C v)
      have hL8 : (L7.set 0 v).length = M := by rw [List.length_set]; exact hL7
      refine wpAnyH_ready (rs := [8]) (by kernel_rfl) (by simp) ?_
      refine AllReadyH.cons (o := { dst := none, op := Go.Op.store 2 (Go.Operand.tmp 79) (Go.Operand.tmp 78), type := 0, pos := _, after := #[{ on := 7, ground := Go.Ground.data }, { on := 6, ground := Go.Ground.data }, { on := 4, ground := Go.Ground.chain }, { on := 0, ground := Go.Ground.phase }, { on := 1, ground := Go.Ground.phase }, { on := 2, ground := Go.Ground.phase }, { on := 3, ground := Go.Ground.phase }, { on := 4, ground := Go.Ground.phase }, { on := 5, ground := Go.Ground.phase }, { on := 6, ground := Go.Ground.phase }], guard := none }) rfl (fun K hK => ?_) AllReadyH.nil
      go_simp
      refine hK.out _ _ ?_ (fun hH6 => ?_)
      · exact (unhide D9).te
      clear hK K hH6
      (try simp only [Act.put, List.setIfInBounds_toArray, List.set_cons_zero, List.set_cons_succ])
      refine wpAnyH_done (by kernel_rfl) ?_ _
      refine NoPanic.normal ?_
      generalize World.setCell _ _ _ = wz at *
      clear hH5 hHc hz0 hzf hv E8 D8
      have FF := hide ((unhide D9).fw hCw)
      obtain ⟨c0, c1, c2⟩ := (unhide D9).t.p6.cells
      obtain ⟨d0, d1, d2⟩ := (unhide D9).p7.cells
      obtain ⟨a0, a1, a2⟩ := (unhide D9).t.r2.cells
      have af0 := (unhide D9).t.r2.fz 0
      have af1 := (unhide D9).t.r2.fz 1
      have af2 := (unhide D9).t.r2.fz 2
      obtain ⟨b0, b1, b2⟩ := (unhide D9).t.r3.cells
      have bf0 := (unhide D9).t.r3.fz 0
      have bf1 := (unhide D9).t.r3.fz 1
      have bf2 := (unhide D9).t.r3.fz 2
      have hn23 : ¬ (w.heap.size = w.heap.size + 1) := by omega
      have FZ := hide ((unhide FF).six hBw hg0 w.heap.size (w.heap.size + 1) (Or.inl rfl) (Or.inr rfl) (.int .i64 W) (.int .i64 H) (.slice (some ⟨G6, 0, none⟩) M c6) (.int .i64 W) (.int .i64 H) (.slice (some ⟨G7, 0, none⟩) M c7)).drew
      go_wp2_with fail
      go_region
      go_wp2
      exact bodyPost_ret (v := .tuple #[pcv W H (some ⟨G6, 0, none⟩) M c6, pcv W H (some ⟨G7, 0, none⟩) M c7]) (by simp [results, Try.results9, go_sem, a0, a1, a2, b0, b1, b2]) rfl ⟨W, H, W, H, _, _, M, M, c6, c7, L6, (L7.set 0 v), rfl, hL6, hL8, by omega, by omega, unhide FZ⟩
    · have DA := hide ((unhide D8).later hB ((Below.refl _ _).alloc (Nat.le_refl _) (.cells #[.int .i64 0, .int .i64 16, .int .i64 20, .int .i64 6, .int .i64 (-4)] 2)))
      have hgw : g < wu.heap.size := (unhide D8).t.ds.cur.lt
      clear D8
      go_wp2_with fail
      refine (below_any B g a len cap 5 _ hB hl (unhide DA).t.ds.cur (unhide DA).t.ds.rd (by omega)).mono ?_
      rintro e wv ⟨y, rfl, y0, y1, k9, g9⟩
      obtain ⟨y, rfl⟩ : ∃ y' : Nat, y = y' := ⟨y.toNat, by omega⟩
      obtain ⟨v, hv⟩ := lit_at5 (w := wu) (T := 2) (a0 := 0) (a1 := 16) (a2 := 20) (a3 := 6) (a4 := -4) y (by omega)
      have hv6 := grown_cell g9 (by omega) hv
      have D8 := hide ((unhide DA).call hB hg0 (by omega) (by omega) hCw k9 g9)
      clear DA k9 g9 hv
      obtain ⟨c0, c1, c2⟩ := (unhide D8).t.p6.cells
      have cf0 := (unhide D8).t.p6.fz 0
      have D9 := hide ((unhide D8).w6 hBw hg0 hk6 hkk v)
      go_upto_region 26 with fail
      generalize wv.setCell ⟨k6, 0, none⟩ (.int .i64 v) = wz at *
      clear D8 c0 c1 c2 cf0 hv6
      have FF := hide ((unhide D9).fw hCw)
      obtain ⟨c0, c1, c2⟩ := (unhide D9).t.p6.cells
      obtain ⟨d0, d1, d2⟩ := (unhide D9).p7.cells
      obtain ⟨a0, a1, a2⟩ := (unhide D9).t.r2.cells
      have af0 := (unhide D9).t.r2.fz 0
      have af1 := (unhide D9).t.r2.fz 1
      have af2 := (unhide D9).t.r2.fz 2
      obtain ⟨b0, b1, b2⟩ := (unhide D9).t.r3.cells
      have bf0 := (unhide D9).t.r3.fz 0
      have bf1 := (unhide D9).t.r3.fz 1
      have bf2 := (unhide D9).t.r3.fz 2
      have hn23 : ¬ (w.heap.size = w.heap.size + 1) := by omega
      have FZ := hide ((unhide FF).six hBw hg0 w.heap.size (w.heap.size + 1) (Or.inl rfl) (Or.inr rfl) (.int .i64 v) (.int .i64 H) (.slice (some ⟨G6, 0, none⟩) M c6) (.int .i64 W) (.int .i64 H) (.slice (some ⟨G7, 0, none⟩) M c7)).drew
      go_wp2_with fail
      go_region
      go_wp2
      exact bodyPost_ret (v := .tuple #[pcv v H (some ⟨G6, 0, none⟩) M c6, pcv W H (some ⟨G7, 0, none⟩) M c7]) (by simp [results, Try.results9, go_sem, a0, a1, a2, b0, b1, b2]) rfl ⟨v, H, W, H, _, _, M, M, c6, c7, L6, L7, rfl, hL6, (by first | omega | (simp; omega)), by omega, by omega, unhide FZ⟩
    · have hcp := own_cap (unhide D8).o7
      obtain ⟨d0, d1, d2⟩ := (unhide D8).p7.cells
      have df2 := (unhide D8).p7.fz 2
      have FF := hide ((unhide D8).fwt (u := .slice (some ⟨G7, 1, none⟩) (M - 1) (c7 - 1)) hBw hg0 hk7 hCw)
      have t2 := hide ((unhide D8).t.set hBw hg0 (i := 2) (u := .slice (some ⟨G7, 1, none⟩) (M - 1) (c7 - 1)) hk7 hkk ((unhide D8).p7.apart (unhide D8).t.o6 G6 rfl))
      have q7 := hide ((unhide D8).p7.set2 (.slice (some ⟨G7, 1, none⟩) (M - 1) (c7 - 1)))
      have hc71 : ¬ c7 = 1 := by omega
      have hc72 : ¬ (1 : Int) = c7 := by omega
      have hcm : c7 ≤ 9223372036854775807 := by have := (own_room9 (unhide D8).o7); omega
      go_upto_region 26 with fail
      generalize wu.setCell ⟨k7, 2, none⟩ (.slice (some ⟨G7, 1, none⟩) (M - 1) (c7 - 1)) = wz at *
      clear D8 d0 d1 d2 df2
      obtain ⟨c0, c1, c2⟩ := (unhide t2).p6.cells
      obtain ⟨d0, d1, d2⟩ := (unhide q7).cells
      obtain ⟨a0, a1, a2⟩ := (unhide t2).r2.cells
      have af0 := (unhide t2).r2.fz 0
      have af1 := (unhide t2).r2.fz 1
      have af2 := (unhide t2).r2.fz 2
      obtain ⟨b0, b1, b2⟩ := (unhide t2).r3.cells
      have bf0 := (unhide t2).r3.fz 0
      have bf1 := (unhide t2).r3.fz 1
      have bf2 := (unhide t2).r3.fz 2
      have hn23 : ¬ (w.heap.size = w.heap.size + 1) := by omega
      have FZ := hide ((unhide FF).six hBw hg0 w.heap.size (w.heap.size + 1) (Or.inl rfl) (Or.inr rfl) (.int .i64 W) (.int .i64 H) (.slice (some ⟨G6, 0, none⟩) M c6) (.int .i64 W) (.int .i64 H) (.slice (some ⟨G7, 1, none⟩) (M - 1) (c7 - 1))).drew
      go_wp2_with fail
      go_region
      go_wp2
      exact bodyPost_ret (v := .tuple #[pcv W H (some ⟨G6, 0, none⟩) M c6, pcv W H (some ⟨G7, 1, none⟩) (M - 1) (c7 - 1)]) (by simp [results, Try.results9, go_sem, a0, a1, a2, b0, b1, b2]) rfl ⟨W, H, W, H, _, _, M, (M - 1), c6, (c7 - 1), L6, (L7.drop 1), rfl, hL6, (by first | omega | (simp; omega)), by omega, by omega, unhide FZ⟩
    · go_wp2_with fail
      refine (dpc_any B g a len cap H W M _ hB (by have := (unhide D8).t.ds.gr.size; omega) hl (unhide D8).t.ds.cur (unhide D8).t.ds.rd (unhide hM2h) (by omega) (by omega)).mono ?_
      rintro e wv ⟨G8, c8, L8, rfl, hL8, _, d8, o8⟩
      have hsz8 : C ≤ wu.heap.size := by have h1 := own_lt (unhide D8).o7; have h2 := own_ge (unhide D8).o7; omega
      have D7 := hide ((unhide D8).call hB hg0 (by omega) (by omega) hCw d8.cur d8.gr)
      have D9 := hide ((unhide D7).put7 (p := H) (q := W) hBw hg0 hk7 hkk (ownV_mono o8 hsz8))
      obtain ⟨d0, d1, d2⟩ := (unhide D7).p7.cells
      have df0 := (unhide D7).p7.fz 0
      have df1 := (unhide D7).p7.fz 1
      have df2 := (unhide D7).p7.fz 2
      clear d8 o8 D8 hsz8
      go_upto_region 26 with fail
      generalize ((wv.setCell ⟨k7, 0, none⟩ (.int .i64 H)).setCell ⟨k7, 1, none⟩ (.int .i64 W)).setCell ⟨k7, 2, none⟩ (.slice (some ⟨G8, 0, none⟩) M c8) = wz at *
      clear D7 d0 d1 d2 df0 df1 df2
      have FF := hide ((unhide D9).fw hCw)
      obtain ⟨c0, c1, c2⟩ := (unhide D9).t.p6.cells
      obtain ⟨d0, d1, d2⟩ := (unhide D9).p7.cells
      obtain ⟨a0, a1, a2⟩ := (unhide D9).t.r2.cells
      have af0 := (unhide D9).t.r2.fz 0
      have af1 := (unhide D9).t.r2.fz 1
      have af2 := (unhide D9).t.r2.fz 2
      obtain ⟨b0, b1, b2⟩ := (unhide D9).t.r3.cells
      have bf0 := (unhide D9).t.r3.fz 0
      have bf1 := (unhide D9).t.r3.fz 1
      have bf2 := (unhide D9).t.r3.fz 2
      have hn23 : ¬ (w.heap.size = w.heap.size + 1) := by omega
      have FZ := hide ((unhide FF).six hBw hg0 w.heap.size (w.heap.size + 1) (Or.inl rfl) (Or.inr rfl) (.int .i64 W) (.int .i64 H) (.slice (some ⟨G6, 0, none⟩) M c6) (.int .i64 H) (.int .i64 W) (.slice (some ⟨G8, 0, none⟩) M c8)).drew
      go_wp2_with fail
      go_region
      go_wp2
      exact bodyPost_ret (v := .tuple #[pcv W H (some ⟨G6, 0, none⟩) M c6, pcv H W (some ⟨G8, 0, none⟩) M c8]) (by simp [results, Try.results9, go_sem, a0, a1, a2, b0, b1, b2]) rfl ⟨W, H, H, W, _, _, M, M, c6, c8, L6, L8, rfl, hL6, (by first | omega | (simp; omega)), by omega, by omega, unhide FZ⟩
  obtain ⟨d0, d1, d2⟩ := (unhide DT).p7.cells
  have df0 := (unhide DT).p7.fz 0
  have df1 := (unhide DT).p7.fz 1
  have df2 := (unhide DT).p7.fz 2
  have D1 := hide ((unhide DT).reset hBw hg0 hk7 hkk W H)
  clear DT
  have hM2h := hide hM2
  clear hM2
  go_wp2_with fail
  generalize ((w9.setCell ⟨k7, 0, none⟩ (.int .i64 W)).setCell ⟨k7, 1, none⟩ (.int .i64 H)).setCell ⟨k7, 2, none⟩ (.slice none 0 0) = wb at *
  clear d0 d1 d2 df0 df1 df2
  refine (from_any B g a len cap (-2) 2 _ hB hl (unhide D1).t.ds.cur (unhide D1).t.ds.rd (by omega) (by omega) (by omega)).mono ?_
  rintro e wc ⟨dx, rfl, dx0, dx1, k3, g3⟩
  have D2 := hide ((unhide D1).call hB hg0 (by omega) (by omega) hCw k3 g3)
  clear D1 k3 g3
  go_wp2_with fail
  refine (from_any B g a len cap (-2) 2 _ hB hl (unhide D2).t.ds.cur (unhide D2).t.ds.rd (by omega) (by omega) (by omega)).mono ?_
  rintro e wd ⟨dy, rfl, dy0, dy1, k3, g3⟩
  have D3 := hide ((unhide D2).call hB hg0 (by omega) (by omega) hCw k3 g3)
  clear D2 k3 g3
  have hwm : IntKind.i64.wrap (W * H) = M := by rw [unhide hM', IntKind.wrap_i64]; omega
  have hW0 : 4 ≤ W ∧ W ≤ 12 := by have := unhide hWc'; omega
  obtain ⟨hW4, hW12⟩ := hW0
  have hWz : ¬ W = 0 := by omega
  have hpc := hide (show PcOk W H L6 from ⟨by have := unhide hWc'; unfold Side4; omega, by have := unhide hHc'; unfold Side4; omega, by rw [hL6]; exact (unhide hM').symm, unhide hP6'⟩)
  go_wp2
  go_loopw [10] (fun t wr => ∃ (i : Nat) (v : Value) (L : List Int), i ≤ M ∧ t = .int .i64 i ∧ Hid (Tw w B g a len cap C k6 k7 G6 M c6 L6 W H W H v i L wr)) (fun t _ => M - (intOf t).toNat)
  case atStart => exact ⟨0, _, [], by omega, rfl, D3⟩
  case round =>
  clear D3
  obtain ⟨i, v, L7, hi, rfl, D⟩ := hrel
  by_cases hlt : i < M
  · have hall : Hid (wr.cell? ⟨k6, 0, none⟩ = some (.int .i64 W) ∧ wr.cell? ⟨k6, 1, none⟩ = some (.int .i64 H) ∧ wr.cell? ⟨k6, 2, none⟩ = some (.slice (some ⟨G6, 0, none⟩) M c6) ∧ Below wr.heap.size wr wr) := hide ⟨(unhide D).t.p6.cells.1, (unhide D).t.p6.cells.2.1, (unhide D).t.p6.cells.2.2, Below.refl _ _⟩
    have e1 : -1000 ≤ IntKind.i64.wrap ((i : Int).tmod W + dx) ∧ IntKind.i64.wrap ((i : Int).tmod W + dx) ≤ 1000 := by
      rw [Int.tmod_eq_emod_of_nonneg (by omega)]
      have h1 := Int.emod_nonneg (i : Int) hWz
      have h2 := Int.emod_lt_of_pos (i : Int) (show 0 < W by omega)
      rw [IntKind.wrap_i64]; omega
    have e2 : -1000 ≤ IntKind.i64.wrap (IntKind.i64.wrap ((i : Int) / W) + dy) ∧ IntKind.i64.wrap (IntKind.i64.wrap ((i : Int) / W) + dy) ≤ 1000 := by
      have h1 := Int.ediv_nonneg (show 0 ≤ (i : Int) by omega) (show 0 ≤ W by omega)
      have h2 := Int.ediv_le_self W (show 0 ≤ (i : Int) by omega)
      rw [IntKind.wrap_i64, IntKind.wrap_i64]; omega
    have c21 := hide (show ∀ w', Below wr.heap.size wr w' → Calls Try.prog 21 #[pcv W H (some ⟨G6, 0, none⟩) M c6, .int .i64 (IntKind.i64.wrap ((i : Int).tmod W + dx)), .int .i64 (IntKind.i64.wrap (IntKind.i64.wrap ((i : Int) / W) + dy))] w' (fun e w'' => ∃ P, e = .returned (.int .i64 P) ∧ Below w'.heap.size w' w'') from fun w' hb' => by
      have h9 := sat_any W H (some ⟨G6, 0, none⟩) c6 L6 (IntKind.i64.wrap ((i : Int).tmod W + dx)) (IntKind.i64.wrap (IntKind.i64.wrap ((i : Int) / W) + dy)) w' (unhide hpc) ((ins_own (unhide D).t.o6).below hb') e1 e2
      rw [hL6] at h9
      exact h9.mono (fun e w'' h => ⟨_, h.1, h.2⟩))
    clear e1 e2
    go_wp2_with fail
    go_region_held3 (fun w' => w'.cell? ⟨k6, 0, none⟩ = some (.int .i64 W) ∧ w'.cell? ⟨k6, 1, none⟩ = some (.int .i64 H) ∧ w'.cell? ⟨k6, 2, none⟩ = some (.slice (some ⟨G6, 0, none⟩) M c6) ∧ Below wr.heap.size wr w')
      (first | with_reducible exact hS5 | exact keep3d (unhide hall))
      ((go_at_call 21
        refine (unhide c21 wr.drew (Below.refl wr.heap.size wr).drew).mono ?_
        rintro e w5 ⟨P, rfl, k5⟩
        have hS5 := keep3 (keep3d (unhide hall)) k5
        clear k5))
    have D5 := hide ((unhide D).later hB hS5.2.2.2)
    clear hS5 hall c21 D
    go_wp2_with fail
    refine (once_any B g a len cap 9 _ hB hl (unhide D5).t.ds.cur (unhide D5).t.ds.rd (by omega)).mono ?_
    rintro e w6 ⟨o, rfl, k6', g6⟩
    have D6 := hide ((unhide D5).call hB hg0 (by omega) (by omega) hCw k6' g6)
    clear D5 k6' g6
    cases o
    · have DD := D6
      clear D6
      rename World => wx
      obtain ⟨d0, d1, d2⟩ := (unhide DD).p7.cells
      have hws : C ≤ wx.heap.size := by have h1 := (unhide DD).p7.lt; omega
      go_wp2_with (at_builtin; refine wpList_iV wx rfl _ _ rfl C i v L7 P rfl (unhide DD).o7 rfl (by omega) hws ?_)
      intro G' c' w7 ho hgr
      have D7 := hide ((unhide DD).app hBw hg0 hk7 hkk hCw hG6C ho hgr)
      have q7 := (unhide DD).p7.grown (unhide DD).o7 hgr
      obtain ⟨e0, e1, e2⟩ := q7.cells
      have f2 := q7.fz 2
      clear ho hgr DD q7 d0 d1 d2 hws
      go_wp2
      go_roundw
      case rel => exact ⟨i + 1, _, _, by omega, by go_num, D7⟩
      case measure => simp [intOf]; omega
    go_wp2_with fail
    refine (below_any B g a len cap 256 _ hB hl (unhide D6).t.ds.cur (unhide D6).t.ds.rd (by omega)).mono ?_
    rintro e wx ⟨p, rfl, _, _, k3, g3⟩
    have DD := hide ((unhide D6).call hB hg0 (by omega) (by omega) hCw k3 g3)
    clear D6 k3 g3
    obtain ⟨d0, d1, d2⟩ := (unhide DD).p7.cells
    have hws : C ≤ wx.heap.size := by have h1 := (unhide DD).p7.lt; omega
    go_wp2_with (at_builtin; refine wpList_iV wx rfl _ _ rfl C i v L7 p rfl (unhide DD).o7 rfl (by omega) hws ?_)
    intro G' c' w7 ho hgr
    have D7 := hide ((unhide DD).app hBw hg0 hk7 hkk hCw hG6C ho hgr)
    have q7 := (unhide DD).p7.grown (unhide DD).o7 hgr
    obtain ⟨e0, e1, e2⟩ := q7.cells
    have f2 := q7.fz 2
    clear ho hgr DD q7 d0 d1 d2 hws
    go_wp2
    go_roundw
    case rel => exact ⟨i + 1, _, _, by omega, by go_num, D7⟩
    case measure => simp [intOf]; omega
  have hiM : i = M := by omega
  subst hiM
  have tM : ((i : Int) < i) = False := by simp
  have DT := D
  clear D
  go_wp2_with fail
  refine (once_any B g a len cap 20 _ hB hl (unhide DT).t.ds.cur (unhide DT).t.ds.rd (by omega)).mono ?_
  rintro e wt ⟨o9, rfl, k9, g9⟩
  have D9 := hide ((unhide DT).call hB hg0 (by omega) (by omega) hCw k9 g9)
  clear DT k9 g9
  have hL7 := ownV_len (unhide D9).o7
  obtain ⟨G7, c7, rfl⟩ := ownV_shape (unhide D9).o7 (by omega)
  cases o9
  · have FF := hide ((unhide D9).fw hCw)
    obtain ⟨c0, c1, c2⟩ := (unhide D9).t.p6.cells
    obtain ⟨d0, d1, d2⟩ := (unhide D9).p7.cells
    obtain ⟨a0, a1, a2⟩ := (unhide D9).t.r2.cells
    have af0 := (unhide D9).t.r2.fz 0
    have af1 := (unhide D9).t.r2.fz 1
    have af2 := (unhide D9).t.r2.fz 2
    obtain ⟨b0, b1, b2⟩ := (unhide D9).t.r3.cells
    have bf0 := (unhide D9).t.r3.fz 0
    have bf1 := (unhide D9).t.r3.fz 1
    have bf2 := (unhide D9).t.r3.fz 2
    have hn23 : ¬ (w.heap.size = w.heap.size + 1) := by omega
    have FZ := hide ((unhide FF).six hBw hg0 w.heap.size (w.heap.size + 1) (Or.inl rfl) (Or.inr rfl) (.int .i64 W) (.int .i64 H) (.slice (some ⟨G6, 0, none⟩) i c6) (.int .i64 W) (.int .i64 H) (.slice (some ⟨G7, 0, none⟩) i c7)).drew
    go_wp2_with fail
    go_region
    go_wp2
    exact bodyPost_ret (v := .tuple #[pcv W H (some ⟨G6, 0, none⟩) i c6, pcv W H (some ⟨G7, 0, none⟩) i c7]) (by simp [results, Try.results9, go_sem, a0, a1, a2, b0, b1, b2]) rfl ⟨W, H, W, H, _, _, i, i, c6, c7, L6, L7, rfl, hL6, (by first | omega | (simp; omega)), by omega, by omega, unhide FZ⟩
  go_wp2_with fail
  refine (below_any B g a len cap 4 _ hB hl (unhide D9).t.ds.cur (unhide D9).t.ds.rd (by omega)).mono ?_
  rintro e wu ⟨t, rfl, t0, t1, k9, g9⟩
  have D8 := hide ((unhide D9).call hB hg0 (by omega) (by omega) hCw k9 g9)
  clear D9 k9 g9
  have ht : t = 0 ∨ t = 1 ∨ t = 2 ∨ t = 3 := by omega
  clear t0 t1
  rcases ht with rfl | rfl | rfl | rfl
  · have hMp : (0 : Int) < i := by omega
    have hM00 : 0 < i := by omega
    have hgw : g < wu.heap.size := (unhide D8).t.ds.cur.lt
    have hgl := hide (fun (wx : World) (k : Nat) (hk : k < 3) => lit_at3 (w := wx) (T := 2) (a0 := -1) (a1 := 256) (a2 := 4611686018427387904) k hk)
    go_wp2_with fail
    refine wp_region_noPanic ?_
    refine wp_region_held_drew (S := (fun w' => Te w B g a len cap C k6 k7 G6 i c6 L6 W H W H (.slice (some ⟨G7, 0, none⟩) i c7) i w')) (by kernel_rfl) ?_ (fun hH0 => ?_)
    · exact (unhide D8).drew.te
    refine wpAnyH_take (i := 0) (oi := { dst := some 72, op := Go.Op.fieldAddr 26 (Go.Operand.tmp 7) 2, type := 0, pos := _, after := #[], guard := none }) (v := ?_) rfl (by kernel_rfl) (by kernel_rfl) (by kernel_rfl) (fun _ _ _ h => h) (Or.inl ⟨by rfl, ?_⟩) hH0 ?_
    rotate_left
    · (intro w hSw; have hSc := hSw.1; go_simp <;> with_reducible rfl)
    (try simp only [Act.put, List.setIfInBounds_toArray, List.set_cons_zero, List.set_cons_succ])
    refine wpAnyH_take (i := 1) (oi := { dst := some 73, op := Go.Op.load 24 (Go.Operand.tmp 72), type := 24, pos := _, after := #[{ on := 0, ground := Go.Ground.data }], guard := none }) (v := ?_) rfl (by kernel_rfl) (by kernel_rfl) (by kernel_rfl) (fun _ _ _ h => h) (Or.inl ⟨by rfl, ?_⟩) hH0 ?_
    rotate_left
    · (intro w hSw; have hSc := hSw.1; go_simp <;> with_reducible rfl)
    (try simp only [Act.put, List.setIfInBounds_toArray, List.set_cons_zero, List.set_cons_succ])
    refine wpAnyH_take (i := 3) (oi := { dst := some 75, op := Go.Op.move (Go.Operand.tmp 0), type := 31, pos := _, after := #[], guard := none }) (v := ?_) rfl (by kernel_rfl) (by kernel_rfl) (by kernel_rfl) (fun _ _ _ h => h) (Or.inl ⟨by rfl, ?_⟩) hH0 ?_
    rotate_left
    · (intro w hSw; have hSc := hSw.1; go_simp <;> with_reducible rfl)
    (try simp only [Act.put, List.setIfInBounds_toArray, List.set_cons_zero, List.set_cons_succ])
    refine wpAnyH_ready (rs := [2, 4]) (by kernel_rfl) (by simp) ?_
    refine AllReadyH.cons (o := { dst := some 74, op := Go.Op.buildSlice 24 3 #[(0, Go.Operand.const (Go.Value.int Go.IntKind.i64 (-1))), (1, Go.Operand.const (Go.Value.int Go.IntKind.i64 256)), (2, Go.Operand.const (Go.Value.int Go.IntKind.i64 4611686018427387904))], type := 24, pos := _, after := #[], guard := none }) rfl (fun K hK => ?_) ?_
    · go_simp
      have DA := hide ((unhide D8).drew.later hB ((Below.refl _ _).alloc (Nat.le_refl _) (.cells #[.int .i64 (-1), .int .i64 256, .int .i64 4611686018427387904] 2)))
      refine hK.out _ _ ?_ (fun hH1 => ?_)
      · exact (unhide DA).te
      clear hK K
      (try simp only [Act.put, List.setIfInBounds_toArray, List.set_cons_zero, List.set_cons_succ])
      refine wpAnyH_ready (rs := [4]) (by kernel_rfl) (by simp) ?_
      refine AllReadyH.cons (o := { dst := some 76, op := Go.Op.call { callee := Go.Callee.value (Go.Operand.func 10), args := #[Go.Operand.tmp 75, Go.Operand.const (Go.Value.int Go.IntKind.i64 3)], argTypes := #[31, 2] }, type := 2, pos := _, after := #[{ on := 3, ground := Go.Ground.data }], guard := none }) rfl (fun K hK => ?_) AllReadyH.nil
      go_simp
      go_at_call 10
      refine (below_any B g a len cap 3 _ hB hl (unhide DA).t.ds.cur (unhide DA).t.ds.rd (by omega)).mono ?_
      rintro e wv ⟨y, rfl, y0, y1, k9, g9⟩
      obtain ⟨y, rfl⟩ : ∃ y' : Nat, y = y' := ⟨y.toNat, by omega⟩
      obtain ⟨v, hv0⟩ := unhide hgl wu.drew y (by omega)
      have hv : wv.cell? ⟨wu.heap.size, y, none⟩ = some (.int .i64 v) := grown_cell g9 (by omega) hv0
      have E8 := hide ((unhide DA).call hB hg0 (by omega) (by omega) hCw k9 g9)
      clear k9 g9 hv0
      go_wp2_with fail
      refine hK.out _ _ ?_ (fun hHc => ?_)
      · exact (unhide E8).te
      clear hK K hH1 hH0 DA
      (try simp only [Act.put, List.setIfInBounds_toArray, List.set_cons_zero, List.set_cons_succ])
      refine wpAnyH_take (i := 5) (oi := { dst := some 77, op := Go.Op.indexAddr 24 (Go.Operand.tmp 74) (Go.Operand.tmp 76), type := 0, pos := _, after := #[{ on := 2, ground := Go.Ground.data }, { on := 4, ground := Go.Ground.data }], guard := none }) (v := ?_) rfl (by kernel_rfl) (by kernel_rfl) (by kernel_rfl) (fun _ _ _ h => h) (Or.inl ⟨by rfl, ?_⟩) hHc ?_
      rotate_left
      · (intro w hSw; go_simp <;> with_reducible rfl)
      (try simp only [Act.put, List.setIfInBounds_toArray, List.set_cons_zero, List.set_cons_succ])
      refine wpAnyH_ready (rs := [6]) (by kernel_rfl) (by simp) ?_
      refine AllReadyH.cons (o := { dst := some 78, op := Go.Op.load 2 (Go.Operand.tmp 77), type := 2, pos := _, after := #[{ on := 5, ground := Go.Ground.data }], guard := none }) rfl (fun K hK => ?_) AllReadyH.nil
      go_simp
      refine hK.out _ _ ?_ (fun hH5 => ?_)
      · exact hHc
      clear hK K
      (try simp only [Act.put, List.setIfInBounds_toArray, List.set_cons_zero, List.set_cons_succ])
      refine wpAnyH_take (i := 7) (oi := { dst := some 79, op := Go.Op.indexAddr 24 (Go.Operand.tmp 73) (Go.Operand.const (Go.Value.int Go.IntKind.i64 0)), type := 0, pos := _, after := #[{ on := 1, ground := Go.Ground.data }, { on := 0, ground := Go.Ground.phase }, { on := 1, ground := Go.Ground.phase }, { on := 2, ground := Go.Ground.phase }, { on := 3, ground := Go.Ground.phase }, { on := 4, ground := Go.Ground.phase }, { on := 5, ground := Go.Ground.phase }, { on := 6, ground := Go.Ground.phase }], guard := none }) (v := ?_) rfl (by kernel_rfl) (by kernel_rfl) (by kernel_rfl) (fun _ _ _ h => h) (Or.inl ⟨by rfl, ?_⟩) hH5 ?_
      rotate_left
      · (intro w hSw; go_simp <;> with_reducible rfl)
      (try simp only [Act.put, List.setIfInBounds_toArray, List.set_cons_zero, List.set_cons_succ])
      obtain ⟨z, hz⟩ : ∃ z, L7[0]? = some z := ⟨L7[0]'(by omega), List.getElem?_eq_getElem _⟩
      have hz0 := ownI_at hz (unhide E8).o7
      have hzf := (unhide E8).o7.frozenAt 0
      have D9 := hide ((unhide E8).el hBw hg0 hCw hG6C v)
      have hL8 : (L7.set 0 v).length = i := by rw [List.length_set]; exact hL7
      refine wpAnyH_ready (rs := [8]) (by kernel_rfl) (by simp) ?_
      refine AllReadyH.cons (o := { dst := none, op := Go.Op.store 2 (Go.Operand.tmp 79) (Go.Operand.tmp 78), type := 0, pos := _, after := #[{ on := 7, ground := Go.Ground.data }, { on := 6, ground := Go.Ground.data }, { on := 4, ground := Go.Ground.chain }, { on := 0, ground := Go.Ground.phase }, { on := 1, ground := Go.Ground.phase }, { on := 2, ground := Go.Ground.phase }, { on := 3, ground := Go.Ground.phase }, { on := 4, ground := Go.Ground.phase }, { on := 5, ground := Go.Ground.phase }, { on := 6, ground := Go.Ground.phase }], guard := none }) rfl (fun K hK => ?_) AllReadyH.nil
      go_simp
      refine hK.out _ _ ?_ (fun hH6 => ?_)
      · exact (unhide D9).te
      clear hK K hH6
      (try simp only [Act.put, List.setIfInBounds_toArray, List.set_cons_zero, List.set_cons_succ])
      refine wpAnyH_done (by kernel_rfl) ?_ _
      refine NoPanic.normal ?_
      generalize World.setCell _ _ _ = wz at *
      clear hH5 hHc hz0 hzf hv E8 D8
      have FF := hide ((unhide D9).fw hCw)
      obtain ⟨c0, c1, c2⟩ := (unhide D9).t.p6.cells
      obtain ⟨d0, d1, d2⟩ := (unhide D9).p7.cells
      obtain ⟨a0, a1, a2⟩ := (unhide D9).t.r2.cells
      have af0 := (unhide D9).t.r2.fz 0
      have af1 := (unhide D9).t.r2.fz 1
      have af2 := (unhide D9).t.r2.fz 2
      obtain ⟨b0, b1, b2⟩ := (unhide D9).t.r3.cells
      have bf0 := (unhide D9).t.r3.fz 0
      have bf1 := (unhide D9).t.r3.fz 1
      have bf2 := (unhide D9).t.r3.fz 2
      have hn23 : ¬ (w.heap.size = w.heap.size + 1) := by omega
      have FZ := hide ((unhide FF).six hBw hg0 w.heap.size (w.heap.size + 1) (Or.inl rfl) (Or.inr rfl) (.int .i64 W) (.int .i64 H) (.slice (some ⟨G6, 0, none⟩) i c6) (.int .i64 W) (.int .i64 H) (.slice (some ⟨G7, 0, none⟩) i c7)).drew
      go_wp2_with fail
      go_region
      go_wp2
      exact bodyPost_ret (v := .tuple #[pcv W H (some ⟨G6, 0, none⟩) i c6, pcv W H (some ⟨G7, 0, none⟩) i c7]) (by simp [results, Try.results9, go_sem, a0, a1, a2, b0, b1, b2]) rfl ⟨W, H, W, H, _, _, i, i, c6, c7, L6, (L7.set 0 v), rfl, hL6, hL8, by omega, by omega, unhide FZ⟩
    refine AllReadyH.cons (o := { dst := some 76, op := Go.Op.call { callee := Go.Callee.value (Go.Operand.func 10), args := #[Go.Operand.tmp 75, Go.Operand.const (Go.Value.int Go.IntKind.i64 3)], argTypes := #[31, 2] }, type := 2, pos := _, after := #[{ on := 3, ground := Go.Ground.data }], guard := none }) rfl (fun K hK => ?_) AllReadyH.nil
    go_simp
    go_at_call 10
    refine (below_any B g a len cap 3 _ hB hl (unhide D8).drew.t.ds.cur (unhide D8).drew.t.ds.rd (by omega)).mono ?_
    rintro e wv ⟨y, rfl, y0, y1, k9, g9⟩
    obtain ⟨y, rfl⟩ : ∃ y' : Nat, y = y' := ⟨y.toNat, by omega⟩
    have E7 := hide ((unhide D8).drew.call hB hg0 (by omega) (by omega) hCw k9 g9)
    clear k9 g9
    go_wp2_with fail
    refine hK.out _ _ ?_ (fun hH1 => ?_)
    · exact (unhide E7).te
    clear hK K hH0
    (try simp only [Act.put, List.setIfInBounds_toArray, List.set_cons_zero, List.set_cons_succ])
    refine wpAnyH_ready (rs := [2]) (by kernel_rfl) (by simp) ?_
    refine AllReadyH.cons (o := { dst := some 74, op := Go.Op.buildSlice 24 3 #[(0, Go.Operand.const (Go.Value.int Go.IntKind.i64 (-1))), (1, Go.Operand.const (Go.Value.int Go.IntKind.i64 256)), (2, Go.Operand.const (Go.Value.int Go.IntKind.i64 4611686018427387904))], type := 24, pos := _, after := #[], guard := none }) rfl (fun K hK => ?_) AllReadyH.nil
    go_simp
    have E8 := hide ((unhide E7).later hB ((Below.refl _ _).alloc (Nat.le_refl _) (.cells #[.int .i64 (-1), .int .i64 256, .int .i64 4611686018427387904] 2)))
    obtain ⟨v, hv⟩ := unhide hgl wv y (by omega)
    refine hK.out _ _ ?_ (fun hHc => ?_)
    · exact (unhide E8).te
    clear hK K hH1 E7
    (try simp only [Act.put, List.setIfInBounds_toArray, List.set_cons_zero, List.set_cons_succ])
    refine wpAnyH_take (i := 5) (oi := { dst := some 77, op := Go.Op.indexAddr 24 (Go.Operand.tmp 74) (Go.Operand.tmp 76), type := 0, pos := _, after := #[{ on := 2, ground := Go.Ground.data }, { on := 4, ground := Go.Ground.data }], guard := none }) (v := ?_) rfl (by kernel_rfl) (by kernel_rfl) (by kernel_rfl) (fun _ _ _ h => h) (Or.inl ⟨by rfl, ?_⟩) hHc ?_
    rotate_left
    · (intro w hSw; go_simp <;> with_reducible rfl)
    (try simp only [Act.put, List.setIfInBounds_toArray, List.set_cons_zero, List.set_cons_succ])
    refine wpAnyH_ready (rs := [6]) (by kernel_rfl) (by simp) ?_
    refine AllReadyH.cons (o := { dst := some 78, op := Go.Op.load 2 (Go.Operand.tmp 77), type := 2, pos := _, after := #[{ on := 5, ground := Go.Ground.data }], guard := none }) rfl (fun K hK => ?_) AllReadyH.nil
    go_simp
    refine hK.out _ _ ?_ (fun hH5 => ?_)
    · exact hHc
    clear hK K
    (try simp only [Act.put, List.setIfInBounds_toArray, List.set_cons_zero, List.set_cons_succ])
    refine wpAnyH_take (i := 7) (oi := { dst := some 79, op := Go.Op.indexAddr 24 (Go.Operand.tmp 73) (Go.Operand.const (Go.Value.int Go.IntKind.i64 0)), type := 0, pos := _, after := #[{ on := 1, ground := Go.Ground.data }, { on := 0, ground := Go.Ground.phase }, { on := 1, ground := Go.Ground.phase }, { on := 2, ground := Go.Ground.phase }, { on := 3, ground := Go.Ground.phase }, { on := 4, ground := Go.Ground.phase }, { on := 5, ground := Go.Ground.phase }, { on := 6, ground := Go.Ground.phase }], guard := none }) (v := ?_) rfl (by kernel_rfl) (by kernel_rfl) (by kernel_rfl) (fun _ _ _ h => h) (Or.inl ⟨by rfl, ?_⟩) hH5 ?_
    rotate_left
    · (intro w hSw; go_simp <;> with_reducible rfl)
    (try simp only [Act.put, List.setIfInBounds_toArray, List.set_cons_zero, List.set_cons_succ])
    obtain ⟨z, hz⟩ : ∃ z, L7[0]? = some z := ⟨L7[0]'(by omega), List.getElem?_eq_getElem _⟩
    have hz0 := ownI_at hz (unhide E8).o7
    have hzf := (unhide E8).o7.frozenAt 0
    have D9 := hide ((unhide E8).el hBw hg0 hCw hG6C v)
    have hL8 : (L7.set 0 v).length = i := by rw [List.length_set]; exact hL7
    refine wpAnyH_ready (rs := [8]) (by kernel_rfl) (by simp) ?_
    refine AllReadyH.cons (o := { dst := none, op := Go.Op.store 2 (Go.Operand.tmp 79) (Go.Operand.tmp 78), type := 0, pos := _, after := #[{ on := 7, ground := Go.Ground.data }, { on := 6, ground := Go.Ground.data }, { on := 4, ground := Go.Ground.chain }, { on := 0, ground := Go.Ground.phase }, { on := 1, ground := Go.Ground.phase }, { on := 2, ground := Go.Ground.phase }, { on := 3, ground := Go.Ground.phase }, { on := 4, ground := Go.Ground.phase }, { on := 5, ground := Go.Ground.phase }, { on := 6, ground := Go.Ground.phase }], guard := none }) rfl (fun K hK => ?_) AllReadyH.nil
    go_simp
    refine hK.out _ _ ?_ (fun hH6 => ?_)
    · exact (unhide D9).te
    clear hK K hH6
    (try simp only [Act.put, List.setIfInBounds_toArray, List.set_cons_zero, List.set_cons_succ])
    refine wpAnyH_done (by kernel_rfl) ?_ _
    refine NoPanic.normal ?_
    generalize World.setCell _ _ _ = wz at *
    clear hH5 hHc hz0 hzf hv E8 D8
    have FF := hide ((unhide D9).fw hCw)
    obtain ⟨c0, c1, c2⟩ := (unhide D9).t.p6.cells
    obtain ⟨d0, d1, d2⟩ := (unhide D9).p7.cells
    obtain ⟨a0, a1, a2⟩ := (unhide D9).t.r2.cells
    have af0 := (unhide D9).t.r2.fz 0
    have af1 := (unhide D9).t.r2.fz 1
    have af2 := (unhide D9).t.r2.fz 2
    obtain ⟨b0, b1, b2⟩ := (unhide D9).t.r3.cells
    have bf0 := (unhide D9).t.r3.fz 0
    have bf1 := (unhide D9).t.r3.fz 1
    have bf2 := (unhide D9).t.r3.fz 2
    have hn23 : ¬ (w.heap.size = w.heap.size + 1) := by omega
    have FZ := hide ((unhide FF).six hBw hg0 w.heap.size (w.heap.size + 1) (Or.inl rfl) (Or.inr rfl) (.int .i64 W) (.int .i64 H) (.slice (some ⟨G6, 0, none⟩) i c6) (.int .i64 W) (.int .i64 H) (.slice (some ⟨G7, 0, none⟩) i c7)).drew
    go_wp2_with fail
    go_region
    go_wp2
    exact bodyPost_ret (v := .tuple #[pcv W H (some ⟨G6, 0, none⟩) i c6, pcv W H (some ⟨G7, 0, none⟩) i c7]) (by simp [results, Try.results9, go_sem, a0, a1, a2, b0, b1, b2]) rfl ⟨W, H, W, H, _, _, i, i, c6, c7, L6, (L7.set 0 v), rfl, hL6, hL8, by omega, by omega, unhide FZ⟩
  · have DA := hide ((unhide D8).later hB ((Below.refl _ _).alloc (Nat.le_refl _) (.cells #[.int .i64 0, .int .i64 16, .int .i64 20, .int .i64 6, .int .i64 (-4)] 2)))
    have hgw : g < wu.heap.size := (unhide D8).t.ds.cur.lt
    clear D8
    go_wp2_with fail
    refine (below_any B g a len cap 5 _ hB hl (unhide DA).t.ds.cur (unhide DA).t.ds.rd (by omega)).mono ?_
    rintro e wv ⟨y, rfl, y0, y1, k9, g9⟩
    obtain ⟨y, rfl⟩ : ∃ y' : Nat, y = y' := ⟨y.toNat, by omega⟩
    obtain ⟨v, hv⟩ := lit_at5 (w := wu) (T := 2) (a0 := 0) (a1 := 16) (a2 := 20) (a3 := 6) (a4 := -4) y (by omega)
    have hv6 := grown_cell g9 (by omega) hv
    have D8 := hide ((unhide DA).call hB hg0 (by omega) (by omega) hCw k9 g9)
    clear DA k9 g9 hv
    obtain ⟨c0, c1, c2⟩ := (unhide D8).t.p6.cells
    have cf0 := (unhide D8).t.p6.fz 0
    have D9 := hide ((unhide D8).w6 hBw hg0 hk6 hkk v)
    go_upto_region 26 with fail
    generalize wv.setCell ⟨k6, 0, none⟩ (.int .i64 v) = wz at *
    clear D8 c0 c1 c2 cf0 hv6
    have FF := hide ((unhide D9).fw hCw)
    obtain ⟨c0, c1, c2⟩ := (unhide D9).t.p6.cells
    obtain ⟨d0, d1, d2⟩ := (unhide D9).p7.cells
    obtain ⟨a0, a1, a2⟩ := (unhide D9).t.r2.cells
    have af0 := (unhide D9).t.r2.fz 0
    have af1 := (unhide D9).t.r2.fz 1
    have af2 := (unhide D9).t.r2.fz 2
    obtain ⟨b0, b1, b2⟩ := (unhide D9).t.r3.cells
    have bf0 := (unhide D9).t.r3.fz 0
    have bf1 := (unhide D9).t.r3.fz 1
    have bf2 := (unhide D9).t.r3.fz 2
    have hn23 : ¬ (w.heap.size = w.heap.size + 1) := by omega
    have FZ := hide ((unhide FF).six hBw hg0 w.heap.size (w.heap.size + 1) (Or.inl rfl) (Or.inr rfl) (.int .i64 v) (.int .i64 H) (.slice (some ⟨G6, 0, none⟩) i c6) (.int .i64 W) (.int .i64 H) (.slice (some ⟨G7, 0, none⟩) i c7)).drew
    go_wp2_with fail
    go_region
    go_wp2
    exact bodyPost_ret (v := .tuple #[pcv v H (some ⟨G6, 0, none⟩) i c6, pcv W H (some ⟨G7, 0, none⟩) i c7]) (by simp [results, Try.results9, go_sem, a0, a1, a2, b0, b1, b2]) rfl ⟨v, H, W, H, _, _, i, i, c6, c7, L6, L7, rfl, hL6, (by first | omega | (simp; omega)), by omega, by omega, unhide FZ⟩
  · have hcp := own_cap (unhide D8).o7
    obtain ⟨d0, d1, d2⟩ := (unhide D8).p7.cells
    have df2 := (unhide D8).p7.fz 2
    have FF := hide ((unhide D8).fwt (u := .slice (some ⟨G7, 1, none⟩) (i - 1) (c7 - 1)) hBw hg0 hk7 hCw)
    have t2 := hide ((unhide D8).t.set hBw hg0 (i := 2) (u := .slice (some ⟨G7, 1, none⟩) (i - 1) (c7 - 1)) hk7 hkk ((unhide D8).p7.apart (unhide D8).t.o6 G6 rfl))
    have q7 := hide ((unhide D8).p7.set2 (.slice (some ⟨G7, 1, none⟩) (i - 1) (c7 - 1)))
    have hc71 : ¬ c7 = 1 := by omega
    have hc72 : ¬ (1 : Int) = c7 := by omega
    have hcm : c7 ≤ 9223372036854775807 := by have := (own_room9 (unhide D8).o7); omega
    go_upto_region 26 with fail
    generalize wu.setCell ⟨k7, 2, none⟩ (.slice (some ⟨G7, 1, none⟩) (i - 1) (c7 - 1)) = wz at *
    clear D8 d0 d1 d2 df2
    obtain ⟨c0, c1, c2⟩ := (unhide t2).p6.cells
    obtain ⟨d0, d1, d2⟩ := (unhide q7).cells
    obtain ⟨a0, a1, a2⟩ := (unhide t2).r2.cells
    have af0 := (unhide t2).r2.fz 0
    have af1 := (unhide t2).r2.fz 1
    have af2 := (unhide t2).r2.fz 2
    obtain ⟨b0, b1, b2⟩ := (unhide t2).r3.cells
    have bf0 := (unhide t2).r3.fz 0
    have bf1 := (unhide t2).r3.fz 1
    have bf2 := (unhide t2).r3.fz 2
    have hn23 : ¬ (w.heap.size = w.heap.size + 1) := by omega
    have FZ := hide ((unhide FF).six hBw hg0 w.heap.size (w.heap.size + 1) (Or.inl rfl) (Or.inr rfl) (.int .i64 W) (.int .i64 H) (.slice (some ⟨G6, 0, none⟩) i c6) (.int .i64 W) (.int .i64 H) (.slice (some ⟨G7, 1, none⟩) (i - 1) (c7 - 1))).drew
    go_wp2_with fail
    go_region
    go_wp2
    exact bodyPost_ret (v := .tuple #[pcv W H (some ⟨G6, 0, none⟩) i c6, pcv W H (some ⟨G7, 1, none⟩) (i - 1) (c7 - 1)]) (by simp [results, Try.results9, go_sem, a0, a1, a2, b0, b1, b2]) rfl ⟨W, H, W, H, _, _, i, (i - 1), c6, (c7 - 1), L6, (L7.drop 1), rfl, hL6, (by first | omega | (simp; omega)), by omega, by omega, unhide FZ⟩
  · go_wp2_with fail
    refine (dpc_any B g a len cap H W i _ hB (by have := (unhide D8).t.ds.gr.size; omega) hl (unhide D8).t.ds.cur (unhide D8).t.ds.rd (unhide hM2h) (by omega) (by omega)).mono ?_
    rintro e wv ⟨G8, c8, L8, rfl, hL8, _, d8, o8⟩
    have hsz8 : C ≤ wu.heap.size := by have h1 := own_lt (unhide D8).o7; have h2 := own_ge (unhide D8).o7; omega
    have D7 := hide ((unhide D8).call hB hg0 (by omega) (by omega) hCw d8.cur d8.gr)
    have D9 := hide ((unhide D7).put7 (p := H) (q := W) hBw hg0 hk7 hkk (ownV_mono o8 hsz8))
    obtain ⟨d0, d1, d2⟩ := (unhide D7).p7.cells
    have df0 := (unhide D7).p7.fz 0
    have df1 := (unhide D7).p7.fz 1
    have df2 := (unhide D7).p7.fz 2
    clear d8 o8 D8 hsz8
    go_upto_region 26 with fail
    generalize ((wv.setCell ⟨k7, 0, none⟩ (.int .i64 H)).setCell ⟨k7, 1, none⟩ (.int .i64 W)).setCell ⟨k7, 2, none⟩ (.slice (some ⟨G8, 0, none⟩) i c8) = wz at *
    clear D7 d0 d1 d2 df0 df1 df2
    have FF := hide ((unhide D9).fw hCw)
    obtain ⟨c0, c1, c2⟩ := (unhide D9).t.p6.cells
    obtain ⟨d0, d1, d2⟩ := (unhide D9).p7.cells
    obtain ⟨a0, a1, a2⟩ := (unhide D9).t.r2.cells
    have af0 := (unhide D9).t.r2.fz 0
    have af1 := (unhide D9).t.r2.fz 1
    have af2 := (unhide D9).t.r2.fz 2
    obtain ⟨b0, b1, b2⟩ := (unhide D9).t.r3.cells
    have bf0 := (unhide D9).t.r3.fz 0
    have bf1 := (unhide D9).t.r3.fz 1
    have bf2 := (unhide D9).t.r3.fz 2
    have hn23 : ¬ (w.heap.size = w.heap.size + 1) := by omega
    have FZ := hide ((unhide FF).six hBw hg0 w.heap.size (w.heap.size + 1) (Or.inl rfl) (Or.inr rfl) (.int .i64 W) (.int .i64 H) (.slice (some ⟨G6, 0, none⟩) i c6) (.int .i64 H) (.int .i64 W) (.slice (some ⟨G8, 0, none⟩) i c8)).drew
    go_wp2_with fail
    go_region
    go_wp2
    exact bodyPost_ret (v := .tuple #[pcv W H (some ⟨G6, 0, none⟩) i c6, pcv H W (some ⟨G8, 0, none⟩) i c8]) (by simp [results, Try.results9, go_sem, a0, a1, a2, b0, b1, b2]) rfl ⟨W, H, H, W, _, _, i, i, c6, c8, L6, L8, rfl, hL6, (by first | omega | (simp; omega)), by omega, by omega, unhide FZ⟩

end Go.Proofs.Ytdppnjafkbopiaa
