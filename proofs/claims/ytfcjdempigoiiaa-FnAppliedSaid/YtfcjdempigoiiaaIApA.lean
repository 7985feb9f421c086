/-
  A round of Apply that adds a clip: the region that appends it.
-/
import Derived.Test.YtfcjdempigoiiaaIApL
namespace Go.Proofs.Ytfcjdempigoiiaa
open Go.RowKit Go.Shelf
set_option linter.unusedVariables false
set_option linter.unusedSimpArgs false

theorem kls_lit1 (w : World) (x2 x3 x4 : Int) : Kls (w.alloc (.cells #[.int .i64 x2, .int .i64 x3, .int .i64 x4] 63)) (some ⟨w.heap.size, 0, none⟩) [(x2, x3, x4)] := by
  intro j x hx
  cases j with
  | succ j => simp at hx
  | zero =>
    simp at hx
    subst hx
    obtain ⟨h1, h2, h3⟩ := blk3 (World.alloc_heap_new w (.cells #[.int .i64 x2, .int .i64 x3, .int .i64 x4] 63))
    exact ⟨_, _, rfl, by simp, h1, h2, h3⟩

set_option maxRecDepth 100000 in
set_option maxHeartbeats 12800000 in
theorem ap_add {Q : Exit → Act → World → Prop} {l1 m : Nat} {u0 u1 u2 u3 u4 u5 u7 u10 u11 u12 u13 u14 u15 u16 u17 u18 u19 u20 u21 u22 u23 u24 u25 u26 u27 u28 u29 u30 u31 u32 u33 u34 u35 u36 u37 u38 u39 u40 u41 u42 u43 u44 u45 u46 u47 u48 u49 u50 u51 u52 u53 u54 u55 u56 u57 u58 u59 u60 u61 u62 u63 : Value} {w W : World} {s0 M r cap T Bx bb ca : Nat} {a : Option Addr} {l L : List Kl} {x1 x2 x3 x4 ok nk y : Int} (hQo : ∀ a w, ¬ Q .outgrown a w) (hQp : ∀ c a a' w, Q (.panic c) a w → Q (.panic c) a' w)
    (hs0e : w.heap.size = s0) (hM : s0 ≤ M) (iM : Boxed W M 47 (.slice (some ⟨r, 0, none⟩) L.length cap)) (iO : Own W s0 r L.length cap L) (iT : W.heap[T]? = some (.cells #[.slice a l.length ca, .int .i64 y] 49 (0, 0))) (iB : Below s0 w W) (hsz : bb < W.heap.size) (iN : r ≠ bb)
    (hblk : W.heap[Bx]? = some (.cells #[.int .i64 x1, .int .i64 x2, .int .i64 x3, .int .i64 x4, .int .i64 ok, .int .i64 nk] 71 (0, 0))) (hTM : T ≠ M) (hBM : Bx ≠ M) (hLl : L.length ≤ 1000000)
    (hQ : ∀ (a' : Act) (w5 : World) (g' cap' : Nat), KeepsOthers W w5 → KeepX M r W w5 → Boxed w5 M 47 (.slice (some ⟨g', 0, none⟩) (L ++ [(x2, x3, x4)]).length cap') → Own w5 s0 g' (L ++ [(x2, x3, x4)]).length cap' (L ++ [(x2, x3, x4)]) → Below s0 w w5 → g' ≠ bb → (∀ c o, W.heap[c]? = some o → c ≠ M → c ≠ r → w5.heap[c]? = some o) → Q .normal a' w5) :
    (Code.region 11 #[{ dst := some 54, op := Go.Op.load 47 (Go.Operand.tmp 8), type := 47, pos := "l05_change.go:44", after := #[], guard := none }, { dst := some 55, op := Go.Op.fieldAddr 71 (Go.Operand.tmp 9) 0, type := 0, pos := "l05_change.go:44", after := #[], guard := none }, { dst := some 56, op := Go.Op.load 60 (Go.Operand.tmp 55), type := 60, pos := "l05_change.go:44", after := #[{ on := 1, ground := Go.Ground.data }], guard := none }, { dst := some 57, op := Go.Op.call { callee := Go.Callee.value (Go.Operand.func 39), args := #[Go.Operand.tmp 56], argTypes := #[60] }, type := 63, pos := "l05_change.go:44", after := #[{ on := 2, ground := Go.Ground.data }], guard := none }, { dst := some 58, op := Go.Op.buildSlice 47 1 #[(0, Go.Operand.tmp 57)], type := 47, pos := "l05_change.go:44", after := #[{ on := 3, ground := Go.Ground.data }], guard := none }, { dst := some 59, op := Go.Op.call { callee := Go.Callee.builtin Go.Builtin.append, args := #[Go.Operand.tmp 54, Go.Operand.tmp 58], argTypes := #[47, 47] }, type := 47, pos := "l05_change.go:44", after := #[{ on := 0, ground := Go.Ground.data }, { on := 4, ground := Go.Ground.data }, { on := 3, ground := Go.Ground.chain }], guard := none }, { dst := none, op := Go.Op.store 47 (Go.Operand.tmp 8) (Go.Operand.tmp 59), type := 0, pos := "l05_change.go:44", after := #[{ on := 5, ground := Go.Ground.data }, { on := 5, ground := Go.Ground.chain }, { on := 0, ground := Go.Ground.phase }, { on := 1, ground := Go.Ground.phase }, { on := 2, ground := Go.Ground.phase }, { on := 3, ground := Go.Ground.phase }, { on := 4, ground := Go.Ground.phase }, { on := 5, ground := Go.Ground.phase }], guard := none }] true).wpIn (Fence.wide.inRound l1) m Try.prog Q { tmps := #[u0, u1, u2, u3, u4, u5, .pointer (some ⟨T, 0, none⟩), u7, .pointer (some ⟨M, 0, none⟩), .pointer (some ⟨Bx, 0, none⟩), u10, u11, u12, u13, u14, u15, u16, u17, u18, u19, u20, u21, u22, u23, u24, u25, u26, u27, u28, u29, u30, u31, u32, u33, u34, u35, u36, u37, u38, u39, u40, u41, u42, u43, u44, u45, u46, u47, u48, u49, u50, u51, u52, u53, u54, u55, u56, u57, u58, u59, u60, u61, u62, u63], defers := [] } W := by
  have hTr : T ≠ r := own_ne iO iT (by decide)
  have hBr : Bx ≠ r := own_ne iO hblk (by decide)
  have cM := iM.cell
  have cMd : W.drew.cell? ⟨M, 0, none⟩ = some (.slice (some ⟨r, 0, none⟩) L.length cap) := cM
  have iOd : Hid (W.drew.ownsRow s0 63 3 (.slice (some ⟨r, 0, none⟩) L.length cap) L.length (flK L)) := hide iO
  obtain ⟨t0, t1, t2, t3, t4, t5, tf⟩ := blk6 hblk
  obtain ⟨tT0, tT1⟩ := blk2 iT
  have iM' := hide iM
  have iO' := hide iO
  have iB' := hide iB
  clear iM iO iB iT hblk tf tT1
  refine wpIn_region_heldR (S := fun w' => w'.cell? ⟨Bx, 0, none⟩ = some (.int .i64 x1) ∧ w'.cell? ⟨Bx, 1, none⟩ = some (.int .i64 x2) ∧ w'.cell? ⟨Bx, 2, none⟩ = some (.int .i64 x3) ∧ w'.cell? ⟨Bx, 3, none⟩ = some (.int .i64 x4)) (by kernel_rfl) (by kernel_rfl) hQo ?_ (fun hH0 => ?_)
  · exact ⟨t0, t1, t2, t3⟩
  refine wpAnyH_take (i := 1) (oi := { dst := some 55, op := Go.Op.fieldAddr 71 (Go.Operand.tmp 9) 0, type := 0, pos := _, after := #[], guard := none }) (v := ?_) rfl (by kernel_rfl) (by kernel_rfl) (by kernel_rfl) (fun _ _ _ h => hQp _ _ _ _ h) (Or.inl ⟨by rfl, ?_⟩) hH0 ?_
  rotate_left
  · (intro w hSw; (try dsimp only at hSw); go_simp <;> with_reducible rfl)
  (try simp only [Act.put, List.setIfInBounds_toArray, List.set_cons_zero, List.set_cons_succ])
  refine wpAnyH_take (i := 2) (oi := { dst := some 56, op := Go.Op.load 60 (Go.Operand.tmp 55), type := 60, pos := _, after := #[{ on := 1, ground := Go.Ground.data }], guard := none }) (v := ?_) rfl (by kernel_rfl) (by kernel_rfl) (by kernel_rfl) (fun _ _ _ h => hQp _ _ _ _ h) (Or.inl ⟨by rfl, ?_⟩) hH0 ?_
  rotate_left
  · (intro w hSw; (try dsimp only at hSw); go_simp <;> with_reducible rfl)
  (try simp only [Act.put, List.setIfInBounds_toArray, List.set_cons_zero, List.set_cons_succ])
  refine wpAnyH_ready (rs := [0, 3]) (by kernel_rfl) (by simp) ?_
  refine AllReadyH.cons (o := { dst := some 54, op := Go.Op.load 47 (Go.Operand.tmp 8), type := 47, pos := _, after := #[], guard := none }) rfl (fun K hK => ?_) ?_
  · go_simp
    refine hK.out _ _ ?_ (fun hH1 => ?_)
    · exact hH0
    clear hK K
    (try simp only [Act.put, List.setIfInBounds_toArray, List.set_cons_zero, List.set_cons_succ])
    refine wpAnyH_ready (rs := [3]) (by kernel_rfl) (by simp) ?_
    refine AllReadyH.cons (o := { dst := some 57, op := Go.Op.call { callee := Go.Callee.value (Go.Operand.func 39), args := #[Go.Operand.tmp 56], argTypes := #[60] }, type := 63, pos := _, after := #[{ on := 2, ground := Go.Ground.data }], guard := none }) rfl (fun K hK => ?_) AllReadyH.nil
    go_simp
    refine (clipOf_any x1 x2 x3 x4 _).mono ?_
    rintro e w3 ⟨rfl, k3⟩
    refine hK.out _ _ ?_ (fun hH2 => ?_)
    · exact ⟨cell_later k3 hH0.1, cell_later k3 hH0.2.1, cell_later k3 hH0.2.2.1, cell_later k3 hH0.2.2.2⟩
    clear hK K
    (try simp only [Act.put, List.setIfInBounds_toArray, List.set_cons_zero, List.set_cons_succ])
    refine wpAnyH_ready (rs := [4]) (by kernel_rfl) (by simp) ?_
    refine AllReadyH.cons (o := { dst := some 58, op := Go.Op.buildSlice 47 1 #[(0, Go.Operand.tmp 57)], type := 47, pos := _, after := #[{ on := 3, ground := Go.Ground.data }], guard := none }) rfl (fun K hK => ?_) AllReadyH.nil
    go_simp
    refine hK.out _ _ ?_ (fun hH3 => ?_)
    · exact ⟨cell_later ((Below.refl _ w3).alloc (Nat.le_refl _) _) hH2.1, cell_later ((Below.refl _ w3).alloc (Nat.le_refl _) _) hH2.2.1, cell_later ((Below.refl _ w3).alloc (Nat.le_refl _) _) hH2.2.2.1, cell_later ((Below.refl _ w3).alloc (Nat.le_refl _) _) hH2.2.2.2⟩
    clear hK K
    (try simp only [Act.put, List.setIfInBounds_toArray, List.set_cons_zero, List.set_cons_succ])
    refine wpAnyH_ready (rs := [5]) (by kernel_rfl) (by simp) ?_
    refine AllReadyH.cons (o := { dst := some 59, op := Go.Op.call { callee := Go.Callee.builtin Go.Builtin.append, args := #[Go.Operand.tmp 54, Go.Operand.tmp 58], argTypes := #[47, 47] }, type := 47, pos := _, after := #[{ on := 0, ground := Go.Ground.data }, { on := 4, ground := Go.Ground.data }, { on := 3, ground := Go.Ground.chain }], guard := none }) rfl (fun K hK => ?_) AllReadyH.nil
    have kA := laterB k3 ((Below.refl _ w3).alloc (Nat.le_refl _) (.cells #[.int .i64 x2, .int .i64 x3, .int .i64 x4] 63))
    refine step_apps Try.underlying47 _ rfl _ _ rfl s0 r cap L [(x2, x3, x4)] w3.heap.size 0 1 rfl (ownsRow_below (unhide iOd) kA) rfl (kls_lit1 w3 x2 x3 x4) (by simp) (by omega) (by simp) (by have h1 := kA.size; have h2 := (unhide iB').size; have h3 : W.drew.heap.size = W.heap.size := rfl; omega) ?_
    intro g' cap' w4 n4 k4 hg4
    obtain ⟨F1, F2, F3, F4, F5, F6, F7, F8⟩ := app_fin (bb := bb) (t := 47) (by decide) (unhide iM') (unhide iO') (unhide iB') hs0e.symm hM hsz iN (below_undrew kA) n4 k4 (hg4.imp id (fun h => by omega))
    have fc4 := F1.cell
    have ff4 := F1.frozen
    generalize hLL : L ++ [(x2, x3, x4)] = LL at *
    refine hK.out _ _ ?_ (fun hH5 => ?_)
    · exact ⟨cell_gr k4 hBr hH3.1, cell_gr k4 hBr hH3.2.1, cell_gr k4 hBr hH3.2.2.1, cell_gr k4 hBr hH3.2.2.2⟩
    clear hK K
    (try simp only [Act.put, List.setIfInBounds_toArray, List.set_cons_zero, List.set_cons_succ])
    refine wpAnyH_ready (rs := [6]) (by kernel_rfl) (by simp) ?_
    refine AllReadyH.cons (o := { dst := none, op := Go.Op.store 47 (Go.Operand.tmp 8) (Go.Operand.tmp 59), type := 0, pos := _, after := #[{ on := 5, ground := Go.Ground.data }, { on := 5, ground := Go.Ground.chain }, { on := 0, ground := Go.Ground.phase }, { on := 1, ground := Go.Ground.phase }, { on := 2, ground := Go.Ground.phase }, { on := 3, ground := Go.Ground.phase }, { on := 4, ground := Go.Ground.phase }, { on := 5, ground := Go.Ground.phase }], guard := none }) rfl (fun K hK => ?_) AllReadyH.nil
    go_simp
    refine hK.out _ _ ?_ (fun hH6 => ?_)
    · exact ⟨cell_set hBM hH5.1, cell_set hBM hH5.2.1, cell_set hBM hH5.2.2.1, cell_set hBM hH5.2.2.2⟩
    clear hK K
    (try simp only [Act.put, List.setIfInBounds_toArray, List.set_cons_zero, List.set_cons_succ])
    refine wpAnyH_done (by kernel_rfl) ?_ _
    exact hQ _ _ g' cap' F2 F3 F4 F5 F6 F7 F8
  refine AllReadyH.cons (o := { dst := some 57, op := Go.Op.call { callee := Go.Callee.value (Go.Operand.func 39), args := #[Go.Operand.tmp 56], argTypes := #[60] }, type := 63, pos := _, after := #[{ on := 2, ground := Go.Ground.data }], guard := none }) rfl (fun K hK => ?_) AllReadyH.nil
  go_simp
  refine (clipOf_any x1 x2 x3 x4 _).mono ?_
  rintro e w3 ⟨rfl, k3⟩
  refine hK.out _ _ ?_ (fun hH1 => ?_)
  · exact ⟨cell_later k3 hH0.1, cell_later k3 hH0.2.1, cell_later k3 hH0.2.2.1, cell_later k3 hH0.2.2.2⟩
  clear hK K
  (try simp only [Act.put, List.setIfInBounds_toArray, List.set_cons_zero, List.set_cons_succ])
  have cM3 : w3.cell? ⟨M, 0, none⟩ = some (.slice (some ⟨r, 0, none⟩) L.length cap) := cell_later k3 cMd
  refine wpAnyH_ready (rs := [0, 4]) (by kernel_rfl) (by simp) ?_
  refine AllReadyH.cons (o := { dst := some 54, op := Go.Op.load 47 (Go.Operand.tmp 8), type := 47, pos := _, after := #[], guard := none }) rfl (fun K hK => ?_) ?_
  · go_simp
    refine hK.out _ _ ?_ (fun hH2 => ?_)
    · exact hH1
    clear hK K
    (try simp only [Act.put, List.setIfInBounds_toArray, List.set_cons_zero, List.set_cons_succ])
    refine wpAnyH_ready (rs := [4]) (by kernel_rfl) (by simp) ?_
    refine AllReadyH.cons (o := { dst := some 58, op := Go.Op.buildSlice 47 1 #[(0, Go.Operand.tmp 57)], type := 47, pos := _, after := #[{ on := 3, ground := Go.Ground.data }], guard := none }) rfl (fun K hK => ?_) AllReadyH.nil
    go_simp
    refine hK.out _ _ ?_ (fun hH3 => ?_)
    · exact ⟨cell_later ((Below.refl _ w3).alloc (Nat.le_refl _) _) hH2.1, cell_later ((Below.refl _ w3).alloc (Nat.le_refl _) _) hH2.2.1, cell_later ((Below.refl _ w3).alloc (Nat.le_refl _) _) hH2.2.2.1, cell_later ((Below.refl _ w3).alloc (Nat.le_refl _) _) hH2.2.2.2⟩
    clear hK K
    (try simp only [Act.put, List.setIfInBounds_toArray, List.set_cons_zero, List.set_cons_succ])
    refine wpAnyH_ready (rs := [5]) (by kernel_rfl) (by simp) ?_
    refine AllReadyH.cons (o := { dst := some 59, op := Go.Op.call { callee := Go.Callee.builtin Go.Builtin.append, args := #[Go.Operand.tmp 54, Go.Operand.tmp 58], argTypes := #[47, 47] }, type := 47, pos := _, after := #[{ on := 0, ground := Go.Ground.data }, { on := 4, ground := Go.Ground.data }, { on := 3, ground := Go.Ground.chain }], guard := none }) rfl (fun K hK => ?_) AllReadyH.nil
    have kA := laterB k3 ((Below.refl _ w3).alloc (Nat.le_refl _) (.cells #[.int .i64 x2, .int .i64 x3, .int .i64 x4] 63))
    refine step_apps Try.underlying47 _ rfl _ _ rfl s0 r cap L [(x2, x3, x4)] w3.heap.size 0 1 rfl (ownsRow_below (unhide iOd) kA) rfl (kls_lit1 w3 x2 x3 x4) (by simp) (by omega) (by simp) (by have h1 := kA.size; have h2 := (unhide iB').size; have h3 : W.drew.heap.size = W.heap.size := rfl; omega) ?_
    intro g' cap' w4 n4 k4 hg4
    obtain ⟨F1, F2, F3, F4, F5, F6, F7, F8⟩ := app_fin (bb := bb) (t := 47) (by decide) (unhide iM') (unhide iO') (unhide iB') hs0e.symm hM hsz iN (below_undrew kA) n4 k4 (hg4.imp id (fun h => by omega))
    have fc4 := F1.cell
    have ff4 := F1.frozen
    generalize hLL : L ++ [(x2, x3, x4)] = LL at *
    refine hK.out _ _ ?_ (fun hH5 => ?_)
    · exact ⟨cell_gr k4 hBr hH3.1, cell_gr k4 hBr hH3.2.1, cell_gr k4 hBr hH3.2.2.1, cell_gr k4 hBr hH3.2.2.2⟩
    clear hK K
    (try simp only [Act.put, List.setIfInBounds_toArray, List.set_cons_zero, List.set_cons_succ])
    refine wpAnyH_ready (rs := [6]) (by kernel_rfl) (by simp) ?_
    refine AllReadyH.cons (o := { dst := none, op := Go.Op.store 47 (Go.Operand.tmp 8) (Go.Operand.tmp 59), type := 0, pos := _, after := #[{ on := 5, ground := Go.Ground.data }, { on := 5, ground := Go.Ground.chain }, { on := 0, ground := Go.Ground.phase }, { on := 1, ground := Go.Ground.phase }, { on := 2, ground := Go.Ground.phase }, { on := 3, ground := Go.Ground.phase }, { on := 4, ground := Go.Ground.phase }, { on := 5, ground := Go.Ground.phase }], guard := none }) rfl (fun K hK => ?_) AllReadyH.nil
    go_simp
    refine hK.out _ _ ?_ (fun hH6 => ?_)
    · exact ⟨cell_set hBM hH5.1, cell_set hBM hH5.2.1, cell_set hBM hH5.2.2.1, cell_set hBM hH5.2.2.2⟩
    clear hK K
    (try simp only [Act.put, List.setIfInBounds_toArray, List.set_cons_zero, List.set_cons_succ])
    refine wpAnyH_done (by kernel_rfl) ?_ _
    exact hQ _ _ g' cap' F2 F3 F4 F5 F6 F7 F8
  refine AllReadyH.cons (o := { dst := some 58, op := Go.Op.buildSlice 47 1 #[(0, Go.Operand.tmp 57)], type := 47, pos := _, after := #[{ on := 3, ground := Go.Ground.data }], guard := none }) rfl (fun K hK => ?_) AllReadyH.nil
  go_simp
  refine hK.out _ _ ?_ (fun hH2 => ?_)
  · exact ⟨cell_later ((Below.refl _ w3).alloc (Nat.le_refl _) _) hH1.1, cell_later ((Below.refl _ w3).alloc (Nat.le_refl _) _) hH1.2.1, cell_later ((Below.refl _ w3).alloc (Nat.le_refl _) _) hH1.2.2.1, cell_later ((Below.refl _ w3).alloc (Nat.le_refl _) _) hH1.2.2.2⟩
  clear hK K
  (try simp only [Act.put, List.setIfInBounds_toArray, List.set_cons_zero, List.set_cons_succ])
  have cM4 : (w3.alloc (.cells #[.int .i64 x2, .int .i64 x3, .int .i64 x4] 63)).cell? ⟨M, 0, none⟩ = some (.slice (some ⟨r, 0, none⟩) L.length cap) := cell_later ((Below.refl _ w3).alloc (Nat.le_refl _) _) cM3
  refine wpAnyH_ready (rs := [0]) (by kernel_rfl) (by simp) ?_
  refine AllReadyH.cons (o := { dst := some 54, op := Go.Op.load 47 (Go.Operand.tmp 8), type := 47, pos := _, after := #[], guard := none }) rfl (fun K hK => ?_) AllReadyH.nil
  go_simp
  refine hK.out _ _ ?_ (fun hH3 => ?_)
  · exact hH2
  clear hK K
  (try simp only [Act.put, List.setIfInBounds_toArray, List.set_cons_zero, List.set_cons_succ])
  refine wpAnyH_ready (rs := [5]) (by kernel_rfl) (by simp) ?_
  refine AllReadyH.cons (o := { dst := some 59, op := Go.Op.call { callee := Go.Callee.builtin Go.Builtin.append, args := #[Go.Operand.tmp 54, Go.Operand.tmp 58], argTypes := #[47, 47] }, type := 47, pos := _, after := #[{ on := 0, ground := Go.Ground.data }, { on := 4, ground := Go.Ground.data }, { on := 3, ground := Go.Ground.chain }], guard := none }) rfl (fun K hK => ?_) AllReadyH.nil
  have kA := laterB k3 ((Below.refl _ w3).alloc (Nat.le_refl _) (.cells #[.int .i64 x2, .int .i64 x3, .int .i64 x4] 63))
  refine step_apps Try.underlying47 _ rfl _ _ rfl s0 r cap L [(x2, x3, x4)] w3.heap.size 0 1 rfl (ownsRow_below (unhide iOd) kA) rfl (kls_lit1 w3 x2 x3 x4) (by simp) (by omega) (by simp) (by have h1 := kA.size; have h2 := (unhide iB').size; have h3 : W.drew.heap.size = W.heap.size := rfl; omega) ?_
  intro g' cap' w4 n4 k4 hg4
  obtain ⟨F1, F2, F3, F4, F5, F6, F7, F8⟩ := app_fin (bb := bb) (t := 47) (by decide) (unhide iM') (unhide iO') (unhide iB') hs0e.symm hM hsz iN (below_undrew kA) n4 k4 (hg4.imp id (fun h => by omega))
  have fc4 := F1.cell
  have ff4 := F1.frozen
  generalize hLL : L ++ [(x2, x3, x4)] = LL at *
  refine hK.out _ _ ?_ (fun hH5 => ?_)
  · exact ⟨cell_gr k4 hBr hH3.1, cell_gr k4 hBr hH3.2.1, cell_gr k4 hBr hH3.2.2.1, cell_gr k4 hBr hH3.2.2.2⟩
  clear hK K
  (try simp only [Act.put, List.setIfInBounds_toArray, List.set_cons_zero, List.set_cons_succ])
  refine wpAnyH_ready (rs := [6]) (by kernel_rfl) (by simp) ?_
  refine AllReadyH.cons (o := { dst := none, op := Go.Op.store 47 (Go.Operand.tmp 8) (Go.Operand.tmp 59), type := 0, pos := _, after := #[{ on := 5, ground := Go.Ground.data }, { on := 5, ground := Go.Ground.chain }, { on := 0, ground := Go.Ground.phase }, { on := 1, ground := Go.Ground.phase }, { on := 2, ground := Go.Ground.phase }, { on := 3, ground := Go.Ground.phase }, { on := 4, ground := Go.Ground.phase }, { on := 5, ground := Go.Ground.phase }], guard := none }) rfl (fun K hK => ?_) AllReadyH.nil
  go_simp
  refine hK.out _ _ ?_ (fun hH6 => ?_)
  · exact ⟨cell_set hBM hH5.1, cell_set hBM hH5.2.1, cell_set hBM hH5.2.2.1, cell_set hBM hH5.2.2.2⟩
  clear hK K
  (try simp only [Act.put, List.setIfInBounds_toArray, List.set_cons_zero, List.set_cons_succ])
  refine wpAnyH_done (by kernel_rfl) ?_ _
  exact hQ _ _ g' cap' F2 F3 F4 F5 F6 F7 F8

end Go.Proofs.Ytfcjdempigoiiaa
