/-
  A round of Apply that keeps frames: the region that appends them.
-/
import Derived.Test.YtfcjdempigoiiaaIApL
namespace Go.Proofs.Ytfcjdempigoiiaa
open Go.RowKit Go.Shelf
set_option linter.unusedVariables false
set_option linter.unusedSimpArgs false


set_option maxRecDepth 100000 in
set_option maxHeartbeats 12800000 in
theorem ap_keep {Q : Exit → Act → World → Prop} {l1 m : Nat} {u0 u1 u2 u3 u4 u5 u7 u10 u11 u12 u13 u14 u15 u16 u17 u18 u19 u20 u21 u22 u23 u24 u25 u26 u27 u28 u29 u30 u31 u32 u33 u34 u35 u36 u37 u38 u39 u40 u41 u42 u43 u44 u45 u46 u47 u48 u49 u50 u51 u52 u53 u54 u55 u56 u57 u58 u59 u60 u61 u62 u63 : Value} {w W : World} {s0 M r cap T Bx bb ca : Nat} {a : Option Addr} {l L : List Kl} {x1 x2 x3 x4 ok nk y : Int} (hQo : ∀ a w, ¬ Q .outgrown a w) (hQp : ∀ c a a' w, Q (.panic c) a w → Q (.panic c) a' w)
    (hs0e : w.heap.size = s0) (hM : s0 ≤ M) (iM : Boxed W M 47 (.slice (some ⟨r, 0, none⟩) L.length cap)) (iO : Own W s0 r L.length cap L) (iT : W.heap[T]? = some (.cells #[.slice a l.length ca, .int .i64 y] 49 (0, 0))) (iB : Below s0 w W) (hsz : bb < W.heap.size) (iN : r ≠ bb)
    (hblk : W.heap[Bx]? = some (.cells #[.int .i64 x1, .int .i64 x2, .int .i64 x3, .int .i64 x4, .int .i64 ok, .int .i64 nk] 71 (0, 0))) (hTM : T ≠ M) (hBM : Bx ≠ M) (hLl : L.length ≤ 1000000)
    (hKl : Kls w a l) (hT : TOk l) (q0 : 0 ≤ ok) (n0 : 1 ≤ x4) (hq2 : ok + x4 ≤ clen l)
    (hQ : ∀ (a' : Act) (w5 : World) (g' cap' : Nat), KeepsOthers W w5 → KeepX M r W w5 → Boxed w5 M 47 (.slice (some ⟨g', 0, none⟩) (L ++ part l ok (ok + x4)).length cap') → Own w5 s0 g' (L ++ part l ok (ok + x4)).length cap' (L ++ part l ok (ok + x4)) → Below s0 w w5 → g' ≠ bb → (∀ c o, W.heap[c]? = some o → c ≠ M → c ≠ r → w5.heap[c]? = some o) → Q .normal a' w5) :
    (Code.region 9 #[{ dst := some 39, op := Go.Op.load 47 (Go.Operand.tmp 8), type := 47, pos := "l05_change.go:42", after := #[], guard := none }, { dst := some 40, op := Go.Op.fieldAddr 49 (Go.Operand.tmp 6) 0, type := 0, pos := "l05_change.go:42", after := #[], guard := none }, { dst := some 41, op := Go.Op.load 47 (Go.Operand.tmp 40), type := 47, pos := "l05_change.go:42", after := #[{ on := 1, ground := Go.Ground.data }], guard := none }, { dst := some 42, op := Go.Op.fieldAddr 71 (Go.Operand.tmp 9) 1, type := 0, pos := "l05_change.go:42", after := #[], guard := none }, { dst := some 43, op := Go.Op.load 2 (Go.Operand.tmp 42), type := 2, pos := "l05_change.go:42", after := #[{ on := 3, ground := Go.Ground.data }], guard := none }, { dst := some 44, op := Go.Op.fieldAddr 71 (Go.Operand.tmp 9) 1, type := 0, pos := "l05_change.go:42", after := #[], guard := none }, { dst := some 45, op := Go.Op.load 2 (Go.Operand.tmp 44), type := 2, pos := "l05_change.go:42", after := #[{ on := 5, ground := Go.Ground.data }], guard := none }, { dst := some 46, op := Go.Op.fieldAddr 71 (Go.Operand.tmp 9) 0, type := 0, pos := "l05_change.go:42", after := #[], guard := none }, { dst := some 47, op := Go.Op.fieldAddr 60 (Go.Operand.tmp 46) 3, type := 0, pos := "l05_change.go:42", after := #[{ on := 7, ground := Go.Ground.data }], guard := none }, { dst := some 48, op := Go.Op.load 2 (Go.Operand.tmp 47), type := 2, pos := "l05_change.go:42", after := #[{ on := 8, ground := Go.Ground.data }], guard := none }, { dst := some 49, op := Go.Op.binOp Go.BinOp.add 2 (Go.Operand.tmp 45) (Go.Operand.tmp 48) 2, type := 2, pos := "l05_change.go:42", after := #[{ on := 6, ground := Go.Ground.data }, { on := 9, ground := Go.Ground.data }], guard := none }, { dst := some 50, op := Go.Op.call { callee := Go.Callee.value (Go.Operand.func 28), args := #[Go.Operand.tmp 41, Go.Operand.tmp 43, Go.Operand.tmp 49], argTypes := #[47, 2, 2] }, type := 47, pos := "l05_change.go:42", after := #[{ on := 2, ground := Go.Ground.data }, { on := 4, ground := Go.Ground.data }, { on := 10, ground := Go.Ground.data }], guard := none }, { dst := some 51, op := Go.Op.call { callee := Go.Callee.builtin Go.Builtin.append, args := #[Go.Operand.tmp 39, Go.Operand.tmp 50], argTypes := #[47, 47] }, type := 47, pos := "l05_change.go:42", after := #[{ on := 0, ground := Go.Ground.data }, { on := 11, ground := Go.Ground.data }, { on := 11, ground := Go.Ground.chain }], guard := none }, { dst := none, op := Go.Op.store 47 (Go.Operand.tmp 8) (Go.Operand.tmp 51), type := 0, pos := "l05_change.go:42", after := #[{ on := 12, ground := Go.Ground.data }, { on := 12, ground := Go.Ground.chain }, { on := 0, ground := Go.Ground.phase }, { on := 1, ground := Go.Ground.phase }, { on := 2, ground := Go.Ground.phase }, { on := 3, ground := Go.Ground.phase }, { on := 4, ground := Go.Ground.phase }, { on := 5, ground := Go.Ground.phase }, { on := 6, ground := Go.Ground.phase }, { on := 7, ground := Go.Ground.phase }, { on := 8, ground := Go.Ground.phase }, { on := 9, ground := Go.Ground.phase }, { on := 10, ground := Go.Ground.phase }, { on := 11, ground := Go.Ground.phase }, { on := 12, ground := Go.Ground.phase }], guard := none }] true).wpIn (Fence.wide.inRound l1) m Try.prog Q { tmps := #[u0, u1, u2, u3, u4, u5, .pointer (some ⟨T, 0, none⟩), u7, .pointer (some ⟨M, 0, none⟩), .pointer (some ⟨Bx, 0, none⟩), u10, u11, u12, u13, u14, u15, u16, u17, u18, u19, u20, u21, u22, u23, u24, u25, u26, u27, u28, u29, u30, u31, u32, u33, u34, u35, u36, u37, u38, u39, u40, u41, u42, u43, u44, u45, u46, u47, u48, u49, u50, u51, u52, u53, u54, u55, u56, u57, u58, u59, u60, u61, u62, u63], defers := [] } W := by
  have hTr : T ≠ r := own_ne iO iT (by decide)
  have hBr : Bx ≠ r := own_ne iO hblk (by decide)
  have cM := iM.cell
  have cMd : W.drew.cell? ⟨M, 0, none⟩ = some (.slice (some ⟨r, 0, none⟩) L.length cap) := cM
  have iOd : Hid (W.drew.ownsRow s0 63 3 (.slice (some ⟨r, 0, none⟩) L.length cap) L.length (flK L)) := hide iO
  obtain ⟨t0, t1, t2, t3, t4, t5, tf⟩ := blk6 hblk
  obtain ⟨tT0, tT1⟩ := blk2 iT
  have iM' := hide iM
  have iO' := hide iO
  have iB' := hide iB
  clear iM iO iB iT hblk tf tT1
  have KBd : Hid (Kls W.drew a l) := hide (hKl.below (by rw [hs0e]; exact (unhide iB').drew))
  have hpp := part_pos hT.2.1 q0 n0 hq2
  have hpl := part_len l ok (ok + x4)
  have hlT := hT.1
  have hcl := hT.2.2
  have ha1 : ok + x4 ≤ 10000000 := by omega
  have ha2 : 0 ≤ ok + x4 := by omega
  have ha3 : x4 ≤ 10000000 := by omega
  have ha4 : ok ≤ 10000000 := by omega
  have hwr : IntKind.i64.wrap (ok + x4) = ok + x4 := by rw [IntKind.wrap_i64]; omega
  have hT2 := hide hT
  have hKl2 := hide hKl
  clear hT hKl hcl hq2
  refine wpIn_region_heldR (S := fun w' => w'.cell? ⟨T, 0, none⟩ = some (.slice a l.length ca) ∧ w'.cell? ⟨Bx, 3, none⟩ = some (.int .i64 x4) ∧ w'.cell? ⟨Bx, 4, none⟩ = some (.int .i64 ok)) (by kernel_rfl) (by kernel_rfl) hQo ?_ (fun hH0 => ?_)
  · exact ⟨tT0, t3, t4⟩
  refine wpAnyH_take (i := 1) (oi := { dst := some 40, op := Go.Op.fieldAddr 49 (Go.Operand.tmp 6) 0, type := 0, pos := _, after := #[], guard := none }) (v := ?_) rfl (by kernel_rfl) (by kernel_rfl) (by kernel_rfl) (fun _ _ _ h => hQp _ _ _ _ h) (Or.inl ⟨by rfl, ?_⟩) hH0 ?_
  rotate_left
  · (intro w hSw; (try dsimp only at hSw); go_simp <;> with_reducible rfl)
  (try simp only [Act.put, List.setIfInBounds_toArray, List.set_cons_zero, List.set_cons_succ])
  refine wpAnyH_take (i := 2) (oi := { dst := some 41, op := Go.Op.load 47 (Go.Operand.tmp 40), type := 47, pos := _, after := #[{ on := 1, ground := Go.Ground.data }], guard := none }) (v := ?_) rfl (by kernel_rfl) (by kernel_rfl) (by kernel_rfl) (fun _ _ _ h => hQp _ _ _ _ h) (Or.inl ⟨by rfl, ?_⟩) hH0 ?_
  rotate_left
  · (intro w hSw; (try dsimp only at hSw); go_simp <;> with_reducible rfl)
  (try simp only [Act.put, List.setIfInBounds_toArray, List.set_cons_zero, List.set_cons_succ])
  refine wpAnyH_take (i := 3) (oi := { dst := some 42, op := Go.Op.fieldAddr 71 (Go.Operand.tmp 9) 1, type := 0, pos := _, after := #[], guard := none }) (v := ?_) rfl (by kernel_rfl) (by kernel_rfl) (by kernel_rfl) (fun _ _ _ h => hQp _ _ _ _ h) (Or.inl ⟨by rfl, ?_⟩) hH0 ?_
  rotate_left
  · (intro w hSw; (try dsimp only at hSw); go_simp <;> with_reducible rfl)
  (try simp only [Act.put, List.setIfInBounds_toArray, List.set_cons_zero, List.set_cons_succ])
  refine wpAnyH_take (i := 4) (oi := { dst := some 43, op := Go.Op.load 2 (Go.Operand.tmp 42), type := 2, pos := _, after := #[{ on := 3, ground := Go.Ground.data }], guard := none }) (v := ?_) rfl (by kernel_rfl) (by kernel_rfl) (by kernel_rfl) (fun _ _ _ h => hQp _ _ _ _ h) (Or.inl ⟨by rfl, ?_⟩) hH0 ?_
  rotate_left
  · (intro w hSw; (try dsimp only at hSw); go_simp <;> with_reducible rfl)
  (try simp only [Act.put, List.setIfInBounds_toArray, List.set_cons_zero, List.set_cons_succ])
  refine wpAnyH_take (i := 5) (oi := { dst := some 44, op := Go.Op.fieldAddr 71 (Go.Operand.tmp 9) 1, type := 0, pos := _, after := #[], guard := none }) (v := ?_) rfl (by kernel_rfl) (by kernel_rfl) (by kernel_rfl) (fun _ _ _ h => hQp _ _ _ _ h) (Or.inl ⟨by rfl, ?_⟩) hH0 ?_
  rotate_left
  · (intro w hSw; (try dsimp only at hSw); go_simp <;> with_reducible rfl)
  (try simp only [Act.put, List.setIfInBounds_toArray, List.set_cons_zero, List.set_cons_succ])
  refine wpAnyH_take (i := 6) (oi := { dst := some 45, op := Go.Op.load 2 (Go.Operand.tmp 44), type := 2, pos := _, after := #[{ on := 5, ground := Go.Ground.data }], guard := none }) (v := ?_) rfl (by kernel_rfl) (by kernel_rfl) (by kernel_rfl) (fun _ _ _ h => hQp _ _ _ _ h) (Or.inl ⟨by rfl, ?_⟩) hH0 ?_
  rotate_left
  · (intro w hSw; (try dsimp only at hSw); go_simp <;> with_reducible rfl)
  (try simp only [Act.put, List.setIfInBounds_toArray, List.set_cons_zero, List.set_cons_succ])
  refine wpAnyH_take (i := 7) (oi := { dst := some 46, op := Go.Op.fieldAddr 71 (Go.Operand.tmp 9) 0, type := 0, pos := _, after := #[], guard := none }) (v := ?_) rfl (by kernel_rfl) (by kernel_rfl) (by kernel_rfl) (fun _ _ _ h => hQp _ _ _ _ h) (Or.inl ⟨by rfl, ?_⟩) hH0 ?_
  rotate_left
  · (intro w hSw; (try dsimp only at hSw); go_simp <;> with_reducible rfl)
  (try simp only [Act.put, List.setIfInBounds_toArray, List.set_cons_zero, List.set_cons_succ])
  refine wpAnyH_take (i := 8) (oi := { dst := some 47, op := Go.Op.fieldAddr 60 (Go.Operand.tmp 46) 3, type := 0, pos := _, after := #[{ on := 7, ground := Go.Ground.data }], guard := none }) (v := ?_) rfl (by kernel_rfl) (by kernel_rfl) (by kernel_rfl) (fun _ _ _ h => hQp _ _ _ _ h) (Or.inl ⟨by rfl, ?_⟩) hH0 ?_
  rotate_left
  · (intro w hSw; (try dsimp only at hSw); go_simp <;> with_reducible rfl)
  (try simp only [Act.put, List.setIfInBounds_toArray, List.set_cons_zero, List.set_cons_succ])
  refine wpAnyH_take (i := 9) (oi := { dst := some 48, op := Go.Op.load 2 (Go.Operand.tmp 47), type := 2, pos := _, after := #[{ on := 8, ground := Go.Ground.data }], guard := none }) (v := ?_) rfl (by kernel_rfl) (by kernel_rfl) (by kernel_rfl) (fun _ _ _ h => hQp _ _ _ _ h) (Or.inl ⟨by rfl, ?_⟩) hH0 ?_
  rotate_left
  · (intro w hSw; (try dsimp only at hSw); go_simp <;> with_reducible rfl)
  (try simp only [Act.put, List.setIfInBounds_toArray, List.set_cons_zero, List.set_cons_succ])
  refine wpAnyH_take (i := 10) (oi := { dst := some 49, op := Go.Op.binOp Go.BinOp.add 2 (Go.Operand.tmp 45) (Go.Operand.tmp 48) 2, type := 2, pos := _, after := #[{ on := 6, ground := Go.Ground.data }, { on := 9, ground := Go.Ground.data }], guard := none }) (v := ?_) rfl (by kernel_rfl) (by kernel_rfl) (by kernel_rfl) (fun _ _ _ h => hQp _ _ _ _ h) (Or.inl ⟨by rfl, ?_⟩) hH0 ?_
  rotate_left
  · (intro w hSw; (try dsimp only at hSw); go_simp <;> with_reducible rfl)
  (try simp only [Act.put, List.setIfInBounds_toArray, List.set_cons_zero, List.set_cons_succ])
  refine wpAnyH_ready (rs := [0, 11]) (by kernel_rfl) (by simp) ?_
  refine AllReadyH.cons (o := { dst := some 39, op := Go.Op.load 47 (Go.Operand.tmp 8), type := 47, pos := _, after := #[], guard := none }) rfl (fun K hK => ?_) ?_
  · go_simp
    refine hK.out _ _ ?_ (fun hH1 => ?_)
    · exact hH0
    clear hK K
    (try simp only [Act.put, List.setIfInBounds_toArray, List.set_cons_zero, List.set_cons_succ])
    refine wpAnyH_ready (rs := [11]) (by kernel_rfl) (by simp) ?_
    refine AllReadyH.cons (o := { dst := some 50, op := Go.Op.call { callee := Go.Callee.value (Go.Operand.func 28), args := #[Go.Operand.tmp 41, Go.Operand.tmp 43, Go.Operand.tmp 49], argTypes := #[47, 2, 2] }, type := 47, pos := _, after := #[{ on := 2, ground := Go.Ground.data }, { on := 4, ground := Go.Ground.data }, { on := 10, ground := Go.Ground.data }], guard := none }) rfl (fun K hK => ?_) AllReadyH.nil
    go_simp
    refine (ipart_any a ca l ok (ok + x4) _ (unhide hT2) ⟨by omega, by omega⟩ ⟨by omega, by omega⟩ (unhide KBd)).mono ?_
    rintro e w3 ⟨g3, c3, rfl, q3, n3, k3⟩
    refine hK.out _ _ ?_ (fun hH2 => ?_)
    · exact ⟨cell_later k3 hH0.1, cell_later k3 hH0.2.1, cell_later k3 hH0.2.2⟩
    clear hK K
    (try simp only [Act.put, List.setIfInBounds_toArray, List.set_cons_zero, List.set_cons_succ])
    refine wpAnyH_ready (rs := [12]) (by kernel_rfl) (by simp) ?_
    refine AllReadyH.cons (o := { dst := some 51, op := Go.Op.call { callee := Go.Callee.builtin Go.Builtin.append, args := #[Go.Operand.tmp 39, Go.Operand.tmp 50], argTypes := #[47, 47] }, type := 47, pos := _, after := #[{ on := 0, ground := Go.Ground.data }, { on := 11, ground := Go.Ground.data }, { on := 11, ground := Go.Ground.chain }], guard := none }) rfl (fun K hK => ?_) AllReadyH.nil
    refine step_apps Try.underlying47 _ rfl _ _ rfl s0 r cap L (part l ok (ok + x4)) g3 0 c3 rfl (ownsRow_below (unhide iOd) k3) rfl (kls_own n3) hpp (by omega) (by omega) (by have h1 := k3.size; have h2 := (unhide iB').size; have h3 : W.drew.heap.size = W.heap.size := rfl; omega) ?_
    intro g' cap' w4 n4 k4 hg4
    obtain ⟨F1, F2, F3, F4, F5, F6, F7, F8⟩ := app_fin (bb := bb) (t := 47) (by decide) (unhide iM') (unhide iO') (unhide iB') hs0e.symm hM hsz iN (below_undrew k3) n4 k4 (hg4.imp id (fun h => by omega))
    have fc4 := F1.cell
    have ff4 := F1.frozen
    generalize hLL : L ++ part l ok (ok + x4) = LL at *
    refine hK.out _ _ ?_ (fun hH3 => ?_)
    · exact ⟨cell_gr k4 hTr hH2.1, cell_gr k4 hBr hH2.2.1, cell_gr k4 hBr hH2.2.2⟩
    clear hK K
    (try simp only [Act.put, List.setIfInBounds_toArray, List.set_cons_zero, List.set_cons_succ])
    refine wpAnyH_ready (rs := [13]) (by kernel_rfl) (by simp) ?_
    refine AllReadyH.cons (o := { dst := none, op := Go.Op.store 47 (Go.Operand.tmp 8) (Go.Operand.tmp 51), type := 0, pos := _, after := #[{ on := 12, ground := Go.Ground.data }, { on := 12, ground := Go.Ground.chain }, { on := 0, ground := Go.Ground.phase }, { on := 1, ground := Go.Ground.phase }, { on := 2, ground := Go.Ground.phase }, { on := 3, ground := Go.Ground.phase }, { on := 4, ground := Go.Ground.phase }, { on := 5, ground := Go.Ground.phase }, { on := 6, ground := Go.Ground.phase }, { on := 7, ground := Go.Ground.phase }, { on := 8, ground := Go.Ground.phase }, { on := 9, ground := Go.Ground.phase }, { on := 10, ground := Go.Ground.phase }, { on := 11, ground := Go.Ground.phase }, { on := 12, ground := Go.Ground.phase }], guard := none }) rfl (fun K hK => ?_) AllReadyH.nil
    go_simp
    refine hK.out _ _ ?_ (fun hH4 => ?_)
    · exact ⟨cell_set hTM hH3.1, cell_set hBM hH3.2.1, cell_set hBM hH3.2.2⟩
    clear hK K
    (try simp only [Act.put, List.setIfInBounds_toArray, List.set_cons_zero, List.set_cons_succ])
    refine wpAnyH_done (by kernel_rfl) ?_ _
    exact hQ _ _ g' cap' F2 F3 F4 F5 F6 F7 F8
  refine AllReadyH.cons (o := { dst := some 50, op := Go.Op.call { callee := Go.Callee.value (Go.Operand.func 28), args := #[Go.Operand.tmp 41, Go.Operand.tmp 43, Go.Operand.tmp 49], argTypes := #[47, 2, 2] }, type := 47, pos := _, after := #[{ on := 2, ground := Go.Ground.data }, { on := 4, ground := Go.Ground.data }, { on := 10, ground := Go.Ground.data }], guard := none }) rfl (fun K hK => ?_) AllReadyH.nil
  go_simp
  refine (ipart_any a ca l ok (ok + x4) _ (unhide hT2) ⟨by omega, by omega⟩ ⟨by omega, by omega⟩ (unhide KBd)).mono ?_
  rintro e w3 ⟨g3, c3, rfl, q3, n3, k3⟩
  refine hK.out _ _ ?_ (fun hH1 => ?_)
  · exact ⟨cell_later k3 hH0.1, cell_later k3 hH0.2.1, cell_later k3 hH0.2.2⟩
  clear hK K
  (try simp only [Act.put, List.setIfInBounds_toArray, List.set_cons_zero, List.set_cons_succ])
  have cM3 : w3.cell? ⟨M, 0, none⟩ = some (.slice (some ⟨r, 0, none⟩) L.length cap) := cell_later k3 cMd
  refine wpAnyH_ready (rs := [0]) (by kernel_rfl) (by simp) ?_
  refine AllReadyH.cons (o := { dst := some 39, op := Go.Op.load 47 (Go.Operand.tmp 8), type := 47, pos := _, after := #[], guard := none }) rfl (fun K hK => ?_) AllReadyH.nil
  go_simp
  refine hK.out _ _ ?_ (fun hH2 => ?_)
  · exact hH1
  clear hK K
  (try simp only [Act.put, List.setIfInBounds_toArray, List.set_cons_zero, List.set_cons_succ])
  refine wpAnyH_ready (rs := [12]) (by kernel_rfl) (by simp) ?_
  refine AllReadyH.cons (o := { dst := some 51, op := Go.Op.call { callee := Go.Callee.builtin Go.Builtin.append, args := #[Go.Operand.tmp 39, Go.Operand.tmp 50], argTypes := #[47, 47] }, type := 47, pos := _, after := #[{ on := 0, ground := Go.Ground.data }, { on := 11, ground := Go.Ground.data }, { on := 11, ground := Go.Ground.chain }], guard := none }) rfl (fun K hK => ?_) AllReadyH.nil
  refine step_apps Try.underlying47 _ rfl _ _ rfl s0 r cap L (part l ok (ok + x4)) g3 0 c3 rfl (ownsRow_below (unhide iOd) k3) rfl (kls_own n3) hpp (by omega) (by omega) (by have h1 := k3.size; have h2 := (unhide iB').size; have h3 : W.drew.heap.size = W.heap.size := rfl; omega) ?_
  intro g' cap' w4 n4 k4 hg4
  obtain ⟨F1, F2, F3, F4, F5, F6, F7, F8⟩ := app_fin (bb := bb) (t := 47) (by decide) (unhide iM') (unhide iO') (unhide iB') hs0e.symm hM hsz iN (below_undrew k3) n4 k4 (hg4.imp id (fun h => by omega))
  have fc4 := F1.cell
  have ff4 := F1.frozen
  generalize hLL : L ++ part l ok (ok + x4) = LL at *
  refine hK.out _ _ ?_ (fun hH3 => ?_)
  · exact ⟨cell_gr k4 hTr hH2.1, cell_gr k4 hBr hH2.2.1, cell_gr k4 hBr hH2.2.2⟩
  clear hK K
  (try simp only [Act.put, List.setIfInBounds_toArray, List.set_cons_zero, List.set_cons_succ])
  refine wpAnyH_ready (rs := [13]) (by kernel_rfl) (by simp) ?_
  refine AllReadyH.cons (o := { dst := none, op := Go.Op.store 47 (Go.Operand.tmp 8) (Go.Operand.tmp 51), type := 0, pos := _, after := #[{ on := 12, ground := Go.Ground.data }, { on := 12, ground := Go.Ground.chain }, { on := 0, ground := Go.Ground.phase }, { on := 1, ground := Go.Ground.phase }, { on := 2, ground := Go.Ground.phase }, { on := 3, ground := Go.Ground.phase }, { on := 4, ground := Go.Ground.phase }, { on := 5, ground := Go.Ground.phase }, { on := 6, ground := Go.Ground.phase }, { on := 7, ground := Go.Ground.phase }, { on := 8, ground := Go.Ground.phase }, { on := 9, ground := Go.Ground.phase }, { on := 10, ground := Go.Ground.phase }, { on := 11, ground := Go.Ground.phase }, { on := 12, ground := Go.Ground.phase }], guard := none }) rfl (fun K hK => ?_) AllReadyH.nil
  go_simp
  refine hK.out _ _ ?_ (fun hH4 => ?_)
  · exact ⟨cell_set hTM hH3.1, cell_set hBM hH3.2.1, cell_set hBM hH3.2.2⟩
  clear hK K
  (try simp only [Act.put, List.setIfInBounds_toArray, List.set_cons_zero, List.set_cons_succ])
  refine wpAnyH_done (by kernel_rfl) ?_ _
  exact hQ _ _ g' cap' F2 F3 F4 F5 F6 F7 F8

end Go.Proofs.Ytfcjdempigoiiaa
