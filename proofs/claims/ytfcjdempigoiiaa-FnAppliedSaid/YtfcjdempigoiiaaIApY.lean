/-
  Apply of the program where the changes fit the track: its loop over the steps, what is joined, the answer.
-/
import Derived.Test.YtfcjdempigoiiaaIApK
import Derived.Test.YtfcjdempigoiiaaFrB
import Derived.Test.YtfcjdempigoiiaaIApA
namespace Go.Proofs.Ytfcjdempigoiiaa
open Go.RowKit Go.Shelf
set_option linter.unusedVariables false
set_option linter.unusedSimpArgs false
attribute [local go_sem] Oper.semAt_some

theorem flat_len {n : Nat} {l : List Kl} {cs : List Ch} (hl : l.length ≤ 300) (pre : List (Fin n)) (hn : pre.length ≤ 300) : (pre.flatMap (fun x => mkAt l cs x.1)).length ≤ 1000000 := by
  have h : ∀ p : List (Fin n), (p.flatMap (fun x => mkAt l cs x.1)).length ≤ p.length * 301 := by
    intro p
    induction p with
    | nil => simp
    | cons x p ih =>
      rw [List.flatMap_cons, List.length_append, List.length_cons]
      have : (mkAt l cs x.1).length ≤ l.length + 1 := mk1_len _ _ _
      omega
  have := h pre
  omega

set_option maxRecDepth 100000 in
set_option maxHeartbeats 25600000 in
theorem iapply_yes (a b : Option Addr) (ca cb : Nat) (l : List Kl) (cs : List Ch) (w : World) (hk : Kls w a l) (hkc : Chs w b cs) (hT : TOk l) (hC : LOk cs) (hs : oldL cs = clen l) :
    Calls Try.prog 10 #[.slice a l.length ca, .slice b cs.length cb] w fun e w' => EdR w w' (applyOf l cs) e := by
  have hk' := hide hk
  have hkc' := hide hkc
  have hT' := hide hT
  have hC' := hide hC
  have hs2 := hide hs
  have hdC := hide (decide_eq_true hC)
  have hlT : l.length ≤ 300 := hT.1
  have hlC : cs.length ≤ 300 := hC.1
  have hc0 : cs.length ≤ maxLen := by unfold maxLen; omega
  obtain ⟨y, hy⟩ : ∃ y : Int, y = clen l := ⟨_, rfl⟩
  have hs' : (oldL cs != y) = false := by rw [hy]; simpa using hs
  have hy2 := hide hy
  clear hk hkc hT hC hs
  generalize hx : oldL cs = z at *
  refine (callsIn_wide (n := 3)).1 ?_
  refine callsIn_of_wp_marks Try.func10 rfl trivial ?_ rfl
  simp only [Try.ntmps10, List.size_toArray, List.length_cons, List.length_nil, Nat.reduceAdd, Nat.reduceSub, Array.replicate_succ, Array.replicate_zero, List.push_toArray, List.append_toArray, List.nil_append, List.cons_append]
  refine wpIn_wide.2 ?_
  go_wp2_with fail
  refine (opened_ok a ca l _ (unhide hT') (unhide hk')).mono ?_
  rintro e w1 ⟨rfl, hb⟩
  rw [← hy]
  clear hy
  have HT := hide (hb.alloc hb.size (.cells #[.slice a l.length ca, .int .i64 y] 49))
  have cT1 : (w1.alloc (.cells #[.slice a l.length ca, .int .i64 y] 49)).cell? ⟨w1.heap.size, 1, none⟩ = some (.int .i64 y) := by simp [go_sem]
  have bT := World.alloc_heap_new w1 (.cells #[.slice a l.length ca, .int .i64 y] 49)
  have hTs : w.heap.size ≤ w1.heap.size := hb.size
  clear hb
  go_wp2_with fail
  generalize w1.alloc (.cells #[.slice a l.length ca, .int .i64 y] 49) = w2 at *
  generalize w1.heap.size = T at *
  refine wp_region_noPanic ?_
  refine wp_region_held_drew (S := fun w' => w'.cell? ⟨T, 1, none⟩ = some (.int .i64 y) ∧ Below w.heap.size w w' ∧ w'.heap[T]? = some (.cells #[.slice a l.length ca, .int .i64 y] 49 (0, 0))) (by kernel_rfl) ?_ (fun hH0 => ?_)
  · exact ⟨cT1, (unhide HT).drew, bT⟩
  refine wpAnyH_take (i := 0) (oi := { dst := some 15, op := Go.Op.move (Go.Operand.tmp 7), type := 4, pos := _, after := #[], guard := none }) (v := ?_) rfl (by kernel_rfl) (by kernel_rfl) (by kernel_rfl) (fun _ _ _ h => h) (Or.inl ⟨by rfl, ?_⟩) hH0 ?_
  rotate_left
  · (intro w hSw; (try dsimp only at hSw); go_simp <;> with_reducible rfl)
  (try simp only [Act.put, List.setIfInBounds_toArray, List.set_cons_zero, List.set_cons_succ])
  refine wpAnyH_take (i := 1) (oi := { dst := some 16, op := Go.Op.unOp Go.UnOp.not 4 (Go.Operand.tmp 15), type := 4, pos := _, after := #[{ on := 0, ground := Go.Ground.data }], guard := none }) (v := ?_) rfl (by kernel_rfl) (by kernel_rfl) (by kernel_rfl) (fun _ _ _ h => h) (Or.inl ⟨by rfl, ?_⟩) hH0 ?_
  rotate_left
  · (intro w hSw; (try dsimp only at hSw); go_simp <;> with_reducible rfl)
  (try simp only [Act.put, List.setIfInBounds_toArray, List.set_cons_zero, List.set_cons_succ])
  refine wpAnyH_take (i := 2) (oi := { dst := some 17, op := Go.Op.move (Go.Operand.tmp 16), type := 4, pos := _, after := #[{ on := 1, ground := Go.Ground.data }], guard := none }) (v := ?_) rfl (by kernel_rfl) (by kernel_rfl) (by kernel_rfl) (fun _ _ _ h => h) (Or.inl ⟨by rfl, ?_⟩) hH0 ?_
  rotate_left
  · (intro w hSw; (try dsimp only at hSw); go_simp <;> with_reducible rfl)
  (try simp only [Act.put, List.setIfInBounds_toArray, List.set_cons_zero, List.set_cons_succ])
  refine wpAnyH_take (i := 3) (oi := { dst := some 18, op := Go.Op.move (Go.Operand.tmp 1), type := 27, pos := _, after := #[{ on := 2, ground := Go.Ground.guard }], guard := some (2, false) }) (v := ?_) rfl (by kernel_rfl) (by kernel_rfl) (by kernel_rfl) (fun _ _ _ h => h) (Or.inl ⟨by rfl, ?_⟩) hH0 ?_
  rotate_left
  · (intro w hSw; (try dsimp only at hSw); go_simp <;> with_reducible rfl)
  (try simp only [Act.put, List.setIfInBounds_toArray, List.set_cons_zero, List.set_cons_succ])
  refine wpAnyH_ready (rs := [4]) (by kernel_rfl) (by simp) ?_
  refine AllReadyH.cons (o := { dst := some 19, op := Go.Op.call { callee := Go.Callee.value (Go.Operand.func 36), args := #[Go.Operand.tmp 18], argTypes := #[27] }, type := 4, pos := _, after := #[{ on := 3, ground := Go.Ground.data }, { on := 2, ground := Go.Ground.chain }, { on := 2, ground := Go.Ground.guard }], guard := some (2, false) }) rfl (fun K hK => ?_) AllReadyH.nil
  go_simp
  refine (ilist_any b cb cs true _ hc0 ((unhide hkc').below hH0.2.1) (unhide hdC)).mono ?_
  rintro e wq ⟨rfl, hbq⟩
  refine hK.out _ _ ?_ (fun hH1 => ?_)
  · exact ⟨cell_later hbq hH0.1, laterB hH0.2.1 hbq, (hbq.block T (Array.getElem?_eq_some_iff.1 hH0.2.2).1).trans hH0.2.2⟩
  clear hK K
  (try simp only [Act.put, List.setIfInBounds_toArray, List.set_cons_zero, List.set_cons_succ])
  refine wpAnyH_take (i := 5) (oi := { dst := some 20, op := Go.Op.unOp Go.UnOp.not 4 (Go.Operand.tmp 19), type := 4, pos := _, after := #[{ on := 4, ground := Go.Ground.data }, { on := 2, ground := Go.Ground.guard }], guard := some (2, false) }) (v := ?_) rfl (by kernel_rfl) (by kernel_rfl) (by kernel_rfl) (fun _ _ _ h => h) (Or.inl ⟨by rfl, ?_⟩) hH1 ?_
  rotate_left
  · (intro w hSw; (try dsimp only at hSw); go_simp <;> with_reducible rfl)
  (try simp only [Act.put, List.setIfInBounds_toArray, List.set_cons_zero, List.set_cons_succ])
  refine wpAnyH_take (i := 6) (oi := { dst := some 21, op := Go.Op.pick (Go.Operand.tmp 17) (Go.Operand.const (Go.Value.bool true)) (Go.Operand.tmp 20), type := 4, pos := _, after := #[{ on := 2, ground := Go.Ground.data }, { on := 5, ground := Go.Ground.data }], guard := none }) (v := ?_) rfl (by kernel_rfl) (by kernel_rfl) (by kernel_rfl) (fun _ _ _ h => h) (Or.inl ⟨by rfl, ?_⟩) hH1 ?_
  rotate_left
  · (intro w hSw; (try dsimp only at hSw); go_simp <;> with_reducible rfl)
  (try simp only [Act.put, List.setIfInBounds_toArray, List.set_cons_zero, List.set_cons_succ])
  refine wpAnyH_take (i := 7) (oi := { dst := some 22, op := Go.Op.move (Go.Operand.tmp 21), type := 4, pos := _, after := #[{ on := 6, ground := Go.Ground.data }, { on := 4, ground := Go.Ground.chain }], guard := none }) (v := ?_) rfl (by kernel_rfl) (by kernel_rfl) (by kernel_rfl) (fun _ _ _ h => h) (Or.inl ⟨by rfl, ?_⟩) hH1 ?_
  rotate_left
  · (intro w hSw; (try dsimp only at hSw); go_simp <;> with_reducible rfl)
  (try simp only [Act.put, List.setIfInBounds_toArray, List.set_cons_zero, List.set_cons_succ])
  refine wpAnyH_take (i := 8) (oi := { dst := some 23, op := Go.Op.move (Go.Operand.tmp 1), type := 27, pos := _, after := #[{ on := 7, ground := Go.Ground.guard }], guard := some (7, false) }) (v := ?_) rfl (by kernel_rfl) (by kernel_rfl) (by kernel_rfl) (fun _ _ _ h => h) (Or.inl ⟨by rfl, ?_⟩) hH1 ?_
  rotate_left
  · (intro w hSw; (try dsimp only at hSw); go_simp <;> with_reducible rfl)
  (try simp only [Act.put, List.setIfInBounds_toArray, List.set_cons_zero, List.set_cons_succ])
  refine wpAnyH_take (i := 10) (oi := { dst := some 25, op := Go.Op.fieldAddr 49 (Go.Operand.tmp 6) 1, type := 0, pos := _, after := #[{ on := 7, ground := Go.Ground.guard }], guard := some (7, false) }) (v := ?_) rfl (by kernel_rfl) (by kernel_rfl) (by kernel_rfl) (fun _ _ _ h => h) (Or.inl ⟨by rfl, ?_⟩) hH1 ?_
  rotate_left
  · (intro w hSw; (try dsimp only at hSw); go_simp <;> with_reducible rfl)
  (try simp only [Act.put, List.setIfInBounds_toArray, List.set_cons_zero, List.set_cons_succ])
  refine wpAnyH_take (i := 11) (oi := { dst := some 26, op := Go.Op.load 2 (Go.Operand.tmp 25), type := 2, pos := _, after := #[{ on := 10, ground := Go.Ground.data }, { on := 7, ground := Go.Ground.guard }], guard := some (7, false) }) (v := ?_) rfl (by kernel_rfl) (by kernel_rfl) (by kernel_rfl) (fun _ _ _ h => h) (Or.inl ⟨by rfl, ?_⟩) hH1 ?_
  rotate_left
  · (intro w hSw; (try dsimp only at hSw); go_simp <;> with_reducible rfl)
  (try simp only [Act.put, List.setIfInBounds_toArray, List.set_cons_zero, List.set_cons_succ])
  refine wpAnyH_ready (rs := [9]) (by kernel_rfl) (by simp) ?_
  refine AllReadyH.cons (o := { dst := some 24, op := Go.Op.call { callee := Go.Callee.value (Go.Operand.func 37), args := #[Go.Operand.tmp 23], argTypes := #[27] }, type := 2, pos := _, after := #[{ on := 8, ground := Go.Ground.data }, { on := 7, ground := Go.Ground.chain }, { on := 7, ground := Go.Ground.guard }], guard := some (7, false) }) rfl (fun K hK => ?_) AllReadyH.nil
  go_simp
  refine (oldlen_any b cb cs _ (unhide hC') ((unhide hkc').below hH1.2.1)).mono ?_
  rw [hx]
  rintro e wo ⟨rfl, hbo⟩
  refine hK.out _ _ ?_ (fun hH2 => ?_)
  · exact ⟨cell_later hbo hH1.1, laterB hH1.2.1 hbo, (hbo.block T (Array.getElem?_eq_some_iff.1 hH1.2.2).1).trans hH1.2.2⟩
  clear hK K
  (try simp only [Act.put, List.setIfInBounds_toArray, List.set_cons_zero, List.set_cons_succ])
  refine wpAnyH_take (i := 12) (oi := { dst := some 27, op := Go.Op.binOp Go.BinOp.neq 2 (Go.Operand.tmp 24) (Go.Operand.tmp 26) 2, type := 4, pos := _, after := #[{ on := 9, ground := Go.Ground.data }, { on := 11, ground := Go.Ground.data }, { on := 7, ground := Go.Ground.guard }], guard := some (7, false) }) (v := ?_) rfl (by kernel_rfl) (by kernel_rfl) (by kernel_rfl) (fun _ _ _ h => h) (Or.inl ⟨by rfl, ?_⟩) hH2 ?_
  rotate_left
  · (intro w hSw; (try dsimp only at hSw); go_simp <;> with_reducible rfl)
  (try simp only [Act.put, List.setIfInBounds_toArray, List.set_cons_zero, List.set_cons_succ])
  refine wpAnyH_take (i := 13) (oi := { dst := some 28, op := Go.Op.pick (Go.Operand.tmp 22) (Go.Operand.const (Go.Value.bool true)) (Go.Operand.tmp 27), type := 4, pos := _, after := #[{ on := 7, ground := Go.Ground.data }, { on := 12, ground := Go.Ground.data }], guard := none }) (v := ?_) rfl (by kernel_rfl) (by kernel_rfl) (by kernel_rfl) (fun _ _ _ h => h) (Or.inl ⟨by rfl, ?_⟩) hH2 ?_
  rotate_left
  · (intro w hSw; (try dsimp only at hSw); go_simp <;> with_reducible rfl)
  (try simp only [Act.put, List.setIfInBounds_toArray, List.set_cons_zero, List.set_cons_succ])
  refine wpAnyH_done (by kernel_rfl) ?_ _
  refine NoPanic.normal ?_
  clear hH0 hH1 hbq hbo HT cT1 bT hdC
  obtain ⟨cT1, HB, bT⟩ := hH2
  have hTw : T < wo.heap.size := (Array.getElem?_eq_some_iff.1 bT).1
  go_wp2_with fail
  refine (steps_any b cs.length cb _).mono ?_
  rintro e w5 ⟨rfl, rfl⟩
  go_wp2_with fail
  obtain ⟨M, hM⟩ : ∃ M, M = wo.heap.size + 1 := ⟨_, rfl⟩
  obtain ⟨B5, hB5⟩ : ∃ B5, B5 = wo.heap.size + 1 + 1 := ⟨_, rfl⟩
  obtain ⟨W0, hW0⟩ : ∃ W0, ((wo.alloc (.cells #[] 63)).alloc (.cells #[.slice (some ⟨wo.heap.size, 0, none⟩) 0 0] 47)).alloc (.cells #[.slice b cs.length cb] 27) = W0 := ⟨_, rfl⟩
  have hz0 : W0.heap.size = wo.heap.size + 3 := by rw [← hW0]; simp
  have Z1 : Below wo.heap.size wo W0 := by rw [← hW0]; exact (((Below.refl _ wo).alloc (Nat.le_refl _) _).alloc (by simp) _).alloc (by simp; omega) _
  have iM0 : Boxed W0 M 47 (.slice (some ⟨wo.heap.size, 0, none⟩) 0 0) := by
    rw [← hW0, hM]
    have := Boxed.new (wo.alloc (.cells #[] 63)) 47 (.slice (some ⟨wo.heap.size, 0, none⟩) 0 0)
    rw [World.size_alloc] at this
    exact this.alloc _
  have iS0 : Boxed W0 B5 27 (.slice b cs.length cb) := by
    rw [← hW0, hB5]
    have := Boxed.new ((wo.alloc (.cells #[] 63)).alloc (.cells #[.slice (some ⟨wo.heap.size, 0, none⟩) 0 0] 47)) 27 (.slice b cs.length cb)
    rw [World.size_alloc, World.size_alloc] at this
    exact this
  have iO0 : Own W0 w.heap.size wo.heap.size 0 0 [] := by
    rw [← hW0]
    exact own_blk (own_blk (own_lit0 wo HB.size) ((Below.refl _ _).alloc (Nat.le_refl _) _) (by simp)) ((Below.refl _ _).alloc (Nat.le_refl _) _) (by simp; omega)
  have iT0 : W0.heap[T]? = some (.cells #[.slice a l.length ca, .int .i64 y] 49 (0, 0)) := (Z1.block T hTw).trans bT
  have iB0 := laterB HB Z1
  rw [hW0, ← hB5, ← hM]
  have hsG := HB.size
  have hGM : wo.heap.size < M := by omega
  have hMW : M < W0.heap.size := by omega
  have hBW : B5 < W0.heap.size := by omega
  have hGW : wo.heap.size < W0.heap.size := by omega
  have hTG : T < wo.heap.size := hTw
  generalize hG : wo.heap.size = G at *
  generalize hs0e : w.heap.size = s0 at *
  clear hW0 Z1 bT cT1 HB hM hB5 hz0 hG
  refine (wpIn_wide (n := 3)).1 ?_
  refine wpIn_rangeX (w := W0) (gf := 60) (lb := #[.pointer (some ⟨B5, 0, none⟩)]) rfl (enters_of Try.func60 (by kernel_rfl) rfl)
    (steps_seq 2 s0 M B5 b cb cs (unhide hC') w W0 hs0e.symm (unhide hkc') iB0 (by omega) (by omega) (by omega) iS0.cell) (Below.refl _ _) rfl
    (fun pre r W => (∃ cap, Boxed W M 47 (.slice (some ⟨r, 0, none⟩) (pre.flatMap (fun x => mkAt l cs x.1)).length cap) ∧ Own W s0 r (pre.flatMap (fun x => mkAt l cs x.1)).length cap (pre.flatMap (fun x => mkAt l cs x.1))) ∧ W.heap[T]? = some (.cells #[.slice a l.length ca, .int .i64 y] 49 (0, 0)) ∧ Below s0 w W ∧ r ≠ W0.heap.size + 2)
    (fun _ _ _ _ => False)
    (fun s r X Y row h hg hr => by
      obtain ⟨⟨cap, h1, h2⟩, h3, h4, h5⟩ := h
      exact ⟨⟨cap, boxed_ab h1 hg hr (by omega), row_ab h2 hg hr h5⟩, blk_ab h3 rfl hg hr (by omega), below_ab h4 (by omega) hg hr (by omega) (by omega), h5⟩)
    (fun c s r X Y row h hg hr => h)
    (fun s r X h => by obtain ⟨⟨cap, _, h2⟩, _, _, h5⟩ := h; exact ⟨own_lt h2, h5, own_ge h2⟩)
    ⟨G, ⟨0, by simpa using iM0, by simpa using iO0⟩, iT0, iB0, by omega⟩
    (fun x a' W => ∃ Bx, M < Bx ∧ Bx ≠ T ∧ W.heap[Bx]? = some (stBlk cs x.1) ∧ a' = { tmps := #[.slice a l.length ca, .slice b cs.length cb, undef, undef, .slice none 0 0, .bool false, .pointer (some ⟨T, 0, none⟩), .bool true, .pointer (some ⟨M, 0, none⟩), .pointer (some ⟨Bx, 0, none⟩), .tuple #[.agg #[.slice a l.length ca, .int .i64 y], .bool true], .slice a l.length ca, .tuple #[.agg #[.slice a l.length ca, .int .i64 y], .bool true], .agg #[.slice a l.length ca, .int .i64 y], .bool true, .bool true, .bool false, .bool false, .slice b cs.length cb, .bool true, .bool false, .bool false, .bool false, .slice b cs.length cb, .int .i64 z, .pointer (some ⟨T, 1, none⟩), .int .i64 y, .bool false, .bool false, undef, .slice (some ⟨G, 0, none⟩) 0 0, .slice b cs.length cb, .func (.func 60) #[] #[.pointer (some ⟨B5, 0, none⟩)], stv cs x.1, undef, undef, undef, undef, undef, undef, undef, undef, undef, undef, undef, undef, undef, undef, undef, undef, undef, undef, undef, undef, undef, undef, undef, undef, undef, undef, undef, undef, undef, undef], defers := [] })
    (fun x a' X l1 o o' h hl ho hc => by obtain ⟨Bx, e1, e2, e3, e4⟩ := h; exact ⟨Bx, e1, e2, blk_put e3 rfl ho hc, e4⟩)
    ?assign ?body ?done ?stop
  case assign =>
    rintro l1 pre r x W K ⟨⟨cap, i1, i2⟩, i3, i4, i5⟩ hsz hK
    obtain ⟨y1, y2, y3, y4, y5, y6, hst, hbk⟩ := stv_gen cs x.1
    have hTl : T < W.heap.size := (Array.getElem?_eq_some_iff.1 i3).1
    have hMl := i1.lt
    have hK' := hide hK
    have hst' := hide hst
    have hbk' := hide hbk
    have i3' := hide i3
    have i1' := hide i1
    have i2' := hide i2
    simp only [hst]
    clear hK hst hbk i3 i1 i2
    gi_wp2
    exact unhide hK' _ _ (KeepsOthers.alloc _ _) (keepX_alloc _ _) ⟨⟨cap, (unhide i1').alloc _, ownsRow_below (unhide i2') ((Below.refl _ W).alloc (Nat.le_refl _) _)⟩, (((Below.refl W.heap.size W).alloc (Nat.le_refl _) _).block T hTl).trans (unhide i3'), i4.alloc (by have := i4.size; omega) _, i5⟩ ⟨W.heap.size, hMl, by omega, by rw [unhide hbk']; exact World.alloc_heap_new W _, by rw [unhide hst']⟩
  case body =>
    rintro l1 pre r x a' W ⟨⟨cap, iM, iO⟩, iT, iB, iN⟩ ⟨Bx, hBx, hBT, hblk, rfl⟩ hsz hlen
    obtain ⟨L, hL⟩ : ∃ L, L = pre.flatMap (fun x => mkAt l cs x.1) := ⟨_, rfl⟩
    rw [← hL] at iM iO
    have hLl : L.length ≤ 1000000 := by rw [hL]; exact flat_len hlT pre (by omega)
    have hgo : ∀ Z, mkAt l cs x.1 = Z → (pre ++ [x]).flatMap (fun x => mkAt l cs x.1) = L ++ Z := fun Z hZ => by rw [List.flatMap_append, ← hL]; simp [hZ]
    have hHc := (unhide hC').2 _ (List.mem_of_getElem? (chAt_get x.2))
    obtain ⟨hq0, hq1⟩ := old_le (unhide hC') x.2
    obtain ⟨⟨x1, x2, x3, x4⟩, hc⟩ : ∃ c, chAt cs x.1 = c := ⟨_, rfl⟩
    have hmk0 : mkAt l cs x.1 = mk1 l (oldL (cs.take x.1)) (x1, x2, x3, x4) := by unfold mkAt; rw [hc]
    simp only [stBlk, hc] at hblk
    rw [hc] at hHc hq1
    obtain ⟨n0, n1⟩ := hHc.len
    have hkind : x1 = 1 ∨ x1 = 2 ∨ x1 = 3 := by rcases hHc with h | h <;> simp only at h <;> omega
    simp only at n0 n1
    obtain ⟨t0, t1, t2, t3, t4, t5, tf⟩ := blk6 hblk
    obtain ⟨tT0, tT1⟩ := blk2 iT
    have hTr : T ≠ r := own_ne iO iT (by decide)
    have hBr : Bx ≠ r := own_ne iO hblk (by decide)
    have cM := iM.cell
    have cMd : W.drew.cell? ⟨M, 0, none⟩ = some (.slice (some ⟨r, 0, none⟩) L.length cap) := cM
    have iOd : W.drew.ownsRow s0 63 3 (.slice (some ⟨r, 0, none⟩) L.length cap) L.length (flK L) := iO
    have KBd : Kls W.drew a l := (unhide hk').below (by rw [hs0e]; exact iB.drew)
    have hzc : z = clen l := unhide hs2
    have hAok : AOk l := (unhide hT').2.1
    have hcl : clen l ≤ 10000000 := (unhide hT').2.2
    have hblk' := hide hblk
    have iT' := hide iT
    have iM' := hide iM
    have iO' := hide iO
    have iB' := hide iB
    have hgo' := hide hgo
    have hmk1 := hide hmk0
    clear hblk hHc hc tf iT iM iO iB hL hgo hmk0 tT1
    generalize oldL (cs.take x.1) = ok at *
    obtain ⟨bb, hbb⟩ : ∃ bb, bb = W0.heap.size + 2 := ⟨_, rfl⟩
    rw [← hbb] at iN hsz
    have hbb' := hide hbb
    clear hbb
    have hTM : T ≠ M := by omega
    have hBM : Bx ≠ M := by omega
    rcases hkind with rfl | rfl | rfl
    · have hq2 : ok + x4 ≤ clen l := by have h9 : oldC (1, x2, x3, x4) = x4 := by simp [oldC]
                                        omega
      have hmk := hide (unhide hgo' (part l ok (ok + x4)) (by rw [unhide hmk1]; simp [mk1]))
      have hq2' := hide hq2
      have hq0' := hide hq0
      clear hq1 hq2 hzc hcl hAok KBd cMd iOd
      gi_wp2_with fail
      refine ap_keep (w := w) (bb := bb) (fun _ _ h => h) (fun _ _ _ _ h => h) hs0e (by omega) (unhide iM') (unhide iO') (unhide iT') (unhide iB') hsz iN (unhide hblk') hTM hBM hLl (unhide hk') (unhide hT') (unhide hq0') n0 (unhide hq2') ?_
      intro a' w5 g' cap' F2 F3 F4 F5 F6 F7 F8
      have hmL : (pre ++ [x]).flatMap (fun x => mkAt l cs x.1) = L ++ part l ok (ok + x4) := unhide hmk
      have hfin := hide (show KeepsOthers W w5 ∧ KeepX M r W w5 ∧ ∃ r', (∃ cap, Boxed w5 M 47 (.slice (some ⟨r', 0, none⟩) ((pre ++ [x]).flatMap (fun x => mkAt l cs x.1)).length cap) ∧ Own w5 s0 r' ((pre ++ [x]).flatMap (fun x => mkAt l cs x.1)).length cap ((pre ++ [x]).flatMap (fun x => mkAt l cs x.1))) ∧ w5.heap[T]? = some (.cells #[.slice a l.length ca, .int .i64 y] 49 (0, 0)) ∧ Below s0 w w5 ∧ r' ≠ W0.heap.size + 2 from ⟨F2, F3, g', ⟨cap', by rw [hmL]; exact F4, by rw [hmL]; exact F5⟩, F8 T _ (unhide iT') hTM hTr, F6, by rw [← unhide hbb']; exact F7⟩)
      clear F2 F3 F4 F5 F6 F7 F8 hmL
      gi_wp2
      exact unhide hfin
    · have hmk := hide (unhide hgo' [] (by rw [unhide hmk1]; simp [mk1]))
      gi_wp2
      have hmL : (pre ++ [x]).flatMap (fun x => mkAt l cs x.1) = L := by have := unhide hmk; simpa using this
      exact ⟨KeepsOthers.refl _, KeepX.refl _ _ _, r, ⟨cap, by rw [hmL]; exact unhide iM', by rw [hmL]; exact unhide iO'⟩, unhide iT', unhide iB', by rw [← unhide hbb']; exact iN⟩
    · have hmk := hide (unhide hgo' [(x2, x3, x4)] (by rw [unhide hmk1]; simp [mk1]))
      clear hq1 hq0 hzc hcl hAok KBd cMd iOd
      gi_wp2_with fail
      refine ap_add (w := w) (bb := bb) (fun _ _ h => h) (fun _ _ _ _ h => h) hs0e (by omega) (unhide iM') (unhide iO') (unhide iT') (unhide iB') hsz iN (unhide hblk') hTM hBM hLl ?_
      intro a' w5 g' cap' F2 F3 F4 F5 F6 F7 F8
      have hmL : (pre ++ [x]).flatMap (fun x => mkAt l cs x.1) = L ++ [(x2, x3, x4)] := unhide hmk
      have hfin := hide (show KeepsOthers W w5 ∧ KeepX M r W w5 ∧ ∃ r', (∃ cap, Boxed w5 M 47 (.slice (some ⟨r', 0, none⟩) ((pre ++ [x]).flatMap (fun x => mkAt l cs x.1)).length cap) ∧ Own w5 s0 r' ((pre ++ [x]).flatMap (fun x => mkAt l cs x.1)).length cap ((pre ++ [x]).flatMap (fun x => mkAt l cs x.1))) ∧ w5.heap[T]? = some (.cells #[.slice a l.length ca, .int .i64 y] 49 (0, 0)) ∧ Below s0 w w5 ∧ r' ≠ W0.heap.size + 2 from ⟨F2, F3, g', ⟨cap', by rw [hmL]; exact F4, by rw [hmL]; exact F5⟩, F8 T _ (unhide iT') hTM hTr, F6, by rw [← unhide hbb']; exact F7⟩)
      clear F2 F3 F4 F5 F6 F7 F8 hmL
      gi_wp2
      exact unhide hfin
  case done =>
    rintro D xs r W hD rfl ⟨⟨cap, iM, iO⟩, iT, iB, iN⟩ hK
    rw [fin_made] at iM iO
    have hLb : (madeUp l cs cs.length).length ≤ 100000 := madeUp_bd hlT hlC
    have hA : AOk (madeUp l cs cs.length) := madeUp_ok (unhide hT').2.1 (unhide hC') _ (Nat.le_refl _)
    have hr := hide (show applyOf l cs = edit (madeUp l cs cs.length) from apply_yes ⟨unhide hT', unhide hC', by rw [hx, unhide hs2]⟩)
    have hj := len_join (madeUp l cs cs.length)
    generalize madeUp l cs cs.length = L at *
    have cM := iM.cell
    have fM := iM.frozen
    have hA' := hide hA
    clear hA
    have hMr : M ≠ r := own_ne iO iM (by decide)
    obtain ⟨R, hR⟩ : ∃ R, (if TOk (join L) then some (join L) else none) = R := ⟨_, rfl⟩
    have hi := itk_any (some ⟨r, 0, none⟩) cap L W hLb (unhide hA') (kls_own iO)
    have he := hide (show applyOf l cs = R by rw [unhide hr, edit_ok (unhide hA'), hR])
    rw [hR] at hi
    have hi' := hide hi
    clear hi hR
    go_wp2_with fail
    refine (unhide hi').mono ?_
    rintro e w6 ⟨g6, c6, rfl, q6, n6, k6⟩
    have hK6 := hide ((k6.block D (Array.getElem?_eq_some_iff.1 hK).1).trans hK)
    have hB6 := hide (iB.trans (k6.mono (by have := iB.size; omega)))
    have n6' := hide n6
    have hs6 : s0 ≤ g6 := by have := iB.size; omega
    clear n6 k6 hi' iM iO iT iB hK cM fM
    go_wp2
    refine ⟨by simp, .inl ⟨_, _, rfl, run_takeDeferred (unhide hK6), ?_⟩⟩
    refine ⟨.tuple #[.slice (some ⟨g6, 0, none⟩) (outL R).length c6, .bool R.isSome], by simp [results, Try.f10, go_sem], ?_⟩
    rw [unhide he]
    refine ⟨g6, c6, rfl, by rw [hs0e]; exact hs6, ?_, ?_⟩
    · rw [hs0e]; exact own_up (ownsRow_putObj (unhide n6') _ (unhide hK6) rfl) hs6
    · rw [hs0e]; exact (unhide hB6).trans (belowK_b (w := w) (by omega) _ D _ _ (by omega) (unhide hK6) rfl rfl)
  case stop =>
    rintro D c pre r W hD _ h _
    exact h.elim

theorem iapply_any (a b : Option Addr) (ca cb : Nat) (l : List Kl) (cs : List Ch) (w : World) (hl0 : l.length ≤ maxLen) (hc0 : cs.length ≤ maxLen) (hk : Kls w a l) (hkc : Chs w b cs) :
    Calls Try.prog 10 #[.slice a l.length ca, .slice b cs.length cb] w fun e w' => EdR w w' (applyOf l cs) e := by
  by_cases h : TOk l ∧ LOk cs ∧ oldL cs = clen l
  · exact iapply_yes a b ca cb l cs w hk hkc h.1 h.2.1 h.2.2
  · exact iapply_no a b ca cb l cs w hl0 hc0 hk hkc h

end Go.Proofs.Ytfcjdempigoiiaa
