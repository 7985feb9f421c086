/-
  Turned of the program: its loop over the steps, the answer.
-/
import Derived.Test.YtfcjdempigoiiaaITnD
import Derived.Test.YtfcjdempigoiiaaIApY
namespace Go.Proofs.Ytfcjdempigoiiaa
open Go.RowKit Go.Shelf
set_option linter.unusedVariables false
set_option linter.unusedSimpArgs false
attribute [local go_sem] Oper.semAt_some

theorem wpListIn_lies {F : Fence} {n : Nat} {P : Program} (w : World) {ops : Array Oper} {rest : List Oper} {o : Oper} {a : Act} {Q : Exit → Act → World → Prop}
    (hg : o.guard = none) (s x : Operand) (t : TypeId) (hop : o.op = Op.call { callee := Callee.builtin Builtin.append, args := #[s, x], argTypes := #[t, t] })
    (base : Nat) (e : TypeId) (i : TypeInfo) (z : Value) (size bytes : Nat) (h1 : P.underlying t = some (.slice e)) (h2 : P.info? e = some i) (h3 : i.zero = some z) (h4 : i.size = size) (h5 : i.bytes = bytes) (h6 : z.cells.size = size) (h7 : 0 < size)
    (v : Value) (k : Nat) (xs : List Value) (hs : a.eval s = v) (hown : w.ownsRow base e size v k xs) (ad : Addr) (m c : Nat) (news : List Value) (hx : a.eval x = .slice (some ad) m c) (hn : news.length = m * size)
    (hc : ∀ j u, news[j]? = some u → w.cell? (ad.add j) = some u) (h1c : ∀ u ∈ news, u.oneCell' = true) (hm : 0 < m) (b1 : k + m ≤ maxLen) (b2 : (k + m) * bytes ≤ 140737488355328) (b3 : base ≤ w.heap.size)
    (hK : ∀ g cap w', w'.ownsRow base e size (.slice (some ⟨g, 0, none⟩) (k + m) cap) (k + m) (xs ++ news) → w.grownBy w' v.ownBlock → (v.ownBlock = some g ∨ g = w.heap.size) → wpListIn F n P ops Q rest (a.put o.dst (.slice (some ⟨g, 0, none⟩) (k + m) cap)) w') :
    wpListIn F n P ops Q (o :: rest) a w := by
  refine wpListIn_plain hg fun K hK' => ?_
  obtain ⟨g, cap, w', hrun, r1, r2, r3, r4⟩ := run_append_lies (P := P) w t o.type base e i z size bytes h1 h2 h3 h4 h5 h6 h7 v k xs hown ad m c news hn hc h1c hm b1 b2 b3 w.heap.size rfl
  unfold Oper.wpIn
  refine ⟨?_, ?_⟩
  · simp [Oper.about, hop, resolve, Target.leads, Sem.run_pure]
  · rw [Oper.semAt_plain F _ _ (by rw [hop]; intro c hc'; cases hc')]
    simp [execOp, hop, resolve, invoke, builtin, hs, hx, hrun, Result.andThen]
    exact hK' _ _ (hK g cap w' r1 r2 r3)
theorem wpListIn_c {F : Fence} {n' : Nat} {T : TypeId} (hT : Try.prog.underlying T = some (.slice 60)) {ops : Array Oper} {rest : List Oper} {o : Oper} {a : Act} {Q : Exit → Act → World → Prop} (w : World) (hgd : o.guard = none) (s x : Operand) (ho : o.op = .call { callee := .builtin .append, args := #[s, x], argTypes := #[T, T] })
    (B g n cap : Nat) (L : List Ch) (v : Ch) (hs : a.eval s = .slice (some ⟨g, 0, none⟩) n cap) (hown : OwnC w B g n cap L) (E : Nat) (hx : a.eval x = .slice (some ⟨E, 0, none⟩) 1 1)
    (hblk : w.heap[E]? = some (.cells #[.int .i64 v.1, .int .i64 v.2.1, .int .i64 v.2.2.1, .int .i64 v.2.2.2] 60 (0, 0))) (hl : n ≤ 1000000) (hB : B ≤ w.heap.size)
    (h : ∀ g' cap' w', OwnC w' B g' (n + 1) cap' (L ++ [v]) → w.grownBy w' (some g) → (g' = g ∨ g' = w.heap.size) → wpListIn F n' Try.prog ops Q rest (a.put o.dst (.slice (some ⟨g', 0, none⟩) (n + 1) cap')) w') : wpListIn F n' Try.prog ops Q (o :: rest) a w := by
  obtain ⟨i0, hi, hz0, hz1, hz2⟩ := info_parts info48
  refine wpListIn_lies w hgd s x T ho B 60 i0 (.agg #[.int .i64 0, .int .i64 0, .int .i64 0, .int .i64 0]) 4 32 hT hi hz0 hz1 hz2 rfl (by decide) _ n (flC L) hs hown ⟨E, 0, none⟩ 1 1 [iv v.1, iv v.2.1, iv v.2.2.1, iv v.2.2.2] hx rfl (C_news hblk) (by intro u hu; simp at hu; rcases hu with rfl | rfl | rfl | rfl <;> rfl) (by decide) (by unfold maxLen; omega) (by omega) hB ?_
  intro g' cap' w' h1 h2 h3
  exact h g' cap' w' (by show World.ownsRow _ _ _ _ _ _ _; rw [flC_append]; exact h1) (by simpa [Value.ownBlock] using h2) (Or.imp (fun h3 => by simp [Value.ownBlock] at h3; exact h3.symm) id h3)

set_option maxRecDepth 100000 in
set_option maxHeartbeats 12800000 in
theorem iturned_any (a b : Option Addr) (ca cb : Nat) (l : List Kl) (cs : List Ch) (w : World) (hl0 : l.length ≤ maxLen) (hc0 : cs.length ≤ maxLen) (hk : Kls w a l) (hkc : Chs w b cs) :
    Calls Try.prog 13 #[.slice a l.length ca, .slice b cs.length cb] w fun e w' => TnR w w' (turnedOf l cs) e := by
  have hk' := hide hk
  have hkc' := hide hkc
  clear hk hkc
  have hX0 := hide ((Below.refl _ w).alloc (Nat.le_refl _) (.cells #[.slice a l.length ca] 24))
  by_cases hap : (applyOf l cs).isSome = true
  case neg =>
    have hap' : (applyOf l cs).isSome = false := by simpa using hap
    have hr := hide (show turnedOf l cs = none by unfold turnedOf; rw [hap']; rfl)
    have hap2 := hide hap'
    clear hap hap'
    go_enter Try.func13, Try.ntmps13
    go_wp2_with fail
    refine (iapply_any a b ca cb l cs _ hl0 hc0 ((unhide hk').below (unhide hX0)) ((unhide hkc').below (unhide hX0))).mono ?_
    rintro e w1 ⟨g1, c1, rfl, _, _, hb⟩
    rw [unhide hap2]
    have hB := hide (laterB (unhide hX0) hb)
    clear hb
    go_wp2
    exact bodyPost_ret (v := .tuple #[.slice (some ⟨w1.heap.size, 0, none⟩) 0 0, .bool false]) (by simp [results, Try.results13, go_sem]) rfl (tnR_none (unhide hr) (unhide hB))
  obtain ⟨hT, hC, hs⟩ := apply_some hap
  have hap2 := hide hap
  have hr := hide (show turnedOf l cs = some (tnUp l cs cs.length) by unfold turnedOf; rw [hap]; rfl)
  have hlT : l.length ≤ 300 := hT.1
  have hlC : cs.length ≤ 300 := hC.1
  have hT' := hide hT
  have hC' := hide hC
  have hs' := hide hs
  clear hT hC hap hs
  refine (callsIn_wide (n := 3)).1 ?_
  refine callsIn_of_wp_marks Try.func13 rfl trivial ?_ rfl
  simp only [Try.ntmps13, List.size_toArray, List.length_cons, List.length_nil, Nat.reduceAdd, Nat.reduceSub, Array.replicate_succ, Array.replicate_zero, List.push_toArray, List.append_toArray, List.nil_append, List.cons_append]
  refine wpIn_wide.2 ?_
  go_wp2_with fail
  refine (iapply_any a b ca cb l cs _ hl0 hc0 ((unhide hk').below (unhide hX0)) ((unhide hkc').below (unhide hX0))).mono ?_
  rintro e wo ⟨gA, cA, rfl, _, _, hb⟩
  rw [unhide hap2]
  have HB := laterB (unhide hX0) hb
  have bA : Boxed wo w.heap.size 24 (.slice a l.length ca) := (hb.block _ (by simp)).trans (Boxed.new w 24 _)
  have hAw := bA.lt
  clear hb hap2 hX0
  generalize (outL (applyOf l cs)).length = nA at *
  obtain ⟨A2, hA2⟩ : ∃ A2, A2 = w.heap.size := ⟨_, rfl⟩
  rw [← hA2] at bA hAw ⊢
  go_wp2_with fail
  refine (steps_any b cs.length cb _).mono ?_
  rintro e w5 ⟨rfl, rfl⟩
  go_wp2_with fail
  obtain ⟨M, hM⟩ : ∃ M, M = wo.heap.size + 1 := ⟨_, rfl⟩
  obtain ⟨B5, hB5⟩ : ∃ B5, B5 = wo.heap.size + 1 + 1 := ⟨_, rfl⟩
  obtain ⟨W0, hW0⟩ : ∃ W0, ((wo.alloc (.cells #[] 60)).alloc (.cells #[.slice (some ⟨wo.heap.size, 0, none⟩) 0 0] 27)).alloc (.cells #[.slice b cs.length cb] 27) = W0 := ⟨_, rfl⟩
  have hz0 : W0.heap.size = wo.heap.size + 3 := by rw [← hW0]; simp
  have Z1 : Below wo.heap.size wo W0 := by rw [← hW0]; exact (((Below.refl _ wo).alloc (Nat.le_refl _) _).alloc (by simp) _).alloc (by simp; omega) _
  have iM0 : Boxed W0 M 27 (.slice (some ⟨wo.heap.size, 0, none⟩) 0 0) := by
    rw [← hW0, hM]
    have := Boxed.new (wo.alloc (.cells #[] 60)) 27 (.slice (some ⟨wo.heap.size, 0, none⟩) 0 0)
    rw [World.size_alloc] at this
    exact this.alloc _
  have iS0 : Boxed W0 B5 27 (.slice b cs.length cb) := by
    rw [← hW0, hB5]
    have := Boxed.new ((wo.alloc (.cells #[] 60)).alloc (.cells #[.slice (some ⟨wo.heap.size, 0, none⟩) 0 0] 27)) 27 (.slice b cs.length cb)
    rw [World.size_alloc, World.size_alloc] at this
    exact this
  have iO0 : OwnC W0 w.heap.size wo.heap.size 0 0 [] := by
    rw [← hW0]
    exact own_blk (own_blk (ownc_lit0 wo HB.size) ((Below.refl _ _).alloc (Nat.le_refl _) _) (by simp)) ((Below.refl _ _).alloc (Nat.le_refl _) _) (by simp; omega)
  have iA0 : Boxed W0 A2 24 (.slice a l.length ca) := (Z1.block A2 hAw).trans bA
  have iB0 := laterB HB Z1
  rw [hW0, ← hB5, ← hM]
  have hsG := HB.size
  have hGM : wo.heap.size < M := by omega
  have hMW : M < W0.heap.size := by omega
  have hBW : B5 < W0.heap.size := by omega
  have hGW : wo.heap.size < W0.heap.size := by omega
  generalize hG : wo.heap.size = G at *
  have hAs : w.heap.size ≤ A2 := by omega
  generalize hs0e : w.heap.size = s0 at *
  clear hW0 Z1 bA HB hM hB5 hz0 hG
  replace hA2 := hA2.symm
  subst hA2
  refine (wpIn_wide (n := 3)).1 ?_
  refine wpIn_rangeX (w := W0) (gf := 60) (lb := #[.pointer (some ⟨B5, 0, none⟩)]) rfl (enters_of Try.func60 (by kernel_rfl) rfl)
    (steps_seq 2 s0 M B5 b cb cs (unhide hC') w W0 hs0e.symm (unhide hkc') iB0 (by omega) (by omega) (by omega) iS0.cell) (Below.refl _ _) rfl
    (fun pre r W => (∃ cap, Boxed W M 27 (.slice (some ⟨r, 0, none⟩) (pre.flatMap (fun x => tnAt l cs x.1)).length cap) ∧ OwnC W s0 r (pre.flatMap (fun x => tnAt l cs x.1)).length cap (pre.flatMap (fun x => tnAt l cs x.1))) ∧ Boxed W s0 24 (.slice a l.length ca) ∧ Below s0 w W ∧ r ≠ W0.heap.size + 2)
    (fun _ _ _ _ => False)
    (fun s r X Y row h hg hr => by
      obtain ⟨⟨cap, h1, h2⟩, h3, h4, h5⟩ := h
      exact ⟨⟨cap, boxed_ab h1 hg hr (by omega), row_ab h2 hg hr h5⟩, boxed_ab h3 hg hr (by omega), below_ab h4 (by omega) hg hr (by omega) (by omega), h5⟩)
    (fun c s r X Y row h hg hr => h)
    (fun s r X h => by obtain ⟨⟨cap, _, h2⟩, _, _, h5⟩ := h; exact ⟨own_lt h2, h5, own_ge h2⟩)
    ⟨G, ⟨0, by simpa using iM0, by simpa using iO0⟩, iA0, iB0, by omega⟩
    (fun x a' W => ∃ Bx, M < Bx ∧ Bx ≠ s0 ∧ W.heap[Bx]? = some (stBlk cs x.1) ∧ a' = { tmps := #[.slice a l.length ca, .slice b cs.length cb, .pointer (some ⟨s0, 0, none⟩), undef, .slice none 0 0, .bool false, .slice (some ⟨gA, 0, none⟩) nA cA, .bool true, .pointer (some ⟨M, 0, none⟩), .pointer (some ⟨Bx, 0, none⟩), .tuple #[.slice (some ⟨gA, 0, none⟩) nA cA, .bool true], .slice a l.length ca, .slice b cs.length cb, .tuple #[.slice (some ⟨gA, 0, none⟩) nA cA, .bool true], .slice (some ⟨gA, 0, none⟩) nA cA, .bool true, .bool true, .bool false, undef, .slice (some ⟨G, 0, none⟩) 0 0, .slice b cs.length cb, .func (.func 60) #[] #[.pointer (some ⟨B5, 0, none⟩)], stv cs x.1, undef, undef, undef, undef, undef, undef, undef, undef, undef, undef, undef, undef, undef, undef, undef, undef, undef, undef, undef, undef, undef, undef, undef, undef, undef, undef, undef, undef, undef, undef, undef, undef], defers := [] })
    (fun x a' X l1 o o' h hl ho hc => by obtain ⟨Bx, e1, e2, e3, e4⟩ := h; exact ⟨Bx, e1, e2, blk_put e3 rfl ho hc, e4⟩)
    ?assign ?body ?done ?stop
  case assign =>
    rintro l1 pre r x W K ⟨⟨cap, i1, i2⟩, i3, i4, i5⟩ hsz hK
    obtain ⟨y1, y2, y3, y4, y5, y6, hst, hbk⟩ := stv_gen cs x.1
    have hTl := i3.lt
    have hMl := i1.lt
    have hK' := hide hK
    have hst' := hide hst
    have hbk' := hide hbk
    have i3' := hide i3
    have i1' := hide i1
    have i2' := hide i2
    simp only [hst]
    clear hK hst hbk i3 i1 i2
    gi_wp2
    exact unhide hK' _ _ (KeepsOthers.alloc _ _) (keepX_alloc _ _) ⟨⟨cap, (unhide i1').alloc _, ownsRow_below (unhide i2') ((Below.refl _ W).alloc (Nat.le_refl _) _)⟩, (unhide i3').alloc _, i4.alloc (by have := i4.size; omega) _, i5⟩ ⟨W.heap.size, hMl, by omega, by rw [unhide hbk']; exact World.alloc_heap_new W _, by rw [unhide hst']⟩
  case body =>
    rintro l1 pre r x a' W ⟨⟨cap, iM, iO⟩, iA, iB, iN⟩ ⟨Bx, hBx, hBA, hblk, rfl⟩ hsz hlen
    obtain ⟨L, hL⟩ : ∃ L, L = pre.flatMap (fun x => tnAt l cs x.1) := ⟨_, rfl⟩
    rw [← hL] at iM iO
    have hLl : L.length ≤ 100000 := by rw [hL]; exact tflat_len hlT pre (by omega)
    have hgo : ∀ Z, tnAt l cs x.1 = Z → (pre ++ [x]).flatMap (fun x => tnAt l cs x.1) = L ++ Z := fun Z hZ => by rw [List.flatMap_append, ← hL]; simp [hZ]
    have hHc := (unhide hC').2 _ (List.mem_of_getElem? (chAt_get x.2))
    obtain ⟨hq0, hq1⟩ := old_le (unhide hC') x.2
    rw [unhide hs'] at hq1
    obtain ⟨⟨x1, x2, x3, x4⟩, hc⟩ : ∃ c, chAt cs x.1 = c := ⟨_, rfl⟩
    have hmk0 : tnAt l cs x.1 = tn1 l (oldL (cs.take x.1)) (x1, x2, x3, x4) := by unfold tnAt; rw [hc]
    simp only [stBlk, hc] at hblk
    rw [hc] at hHc hq1
    obtain ⟨n0, n1⟩ := hHc.len
    have hkind : x1 = 1 ∨ x1 = 2 ∨ x1 = 3 := by rcases hHc with h | h <;> simp only at h <;> omega
    simp only at n0 n1
    obtain ⟨t0, t1, t2, t3, t4, t5, tf⟩ := blk6 hblk
    have hAr : s0 ≠ r := own_ne iO iA (by decide)
    have hBr : Bx ≠ r := own_ne iO hblk (by decide)
    have hMr : M ≠ r := own_ne iO iM (by decide)
    have cM := iM.cell
    have fM := iM.frozen
    have hBxl : Bx < W.heap.size := (Array.getElem?_eq_some_iff.1 hblk).1
    have hMlt := iM.lt
    have hrlt := own_lt iO
    have hsW := iB.size
    have hblk' := hide hblk
    have iA' := hide iA
    have iM' := hide iM
    have iO' := hide iO
    have iB' := hide iB
    have hgo' := hide hgo
    have hmk1 := hide hmk0
    clear hblk hHc hc tf iA iM iO iB hL hgo hmk0
    generalize oldL (cs.take x.1) = ok at *
    obtain ⟨bb, hbb⟩ : ∃ bb, bb = W0.heap.size + 2 := ⟨_, rfl⟩
    rw [← hbb] at iN hsz
    have hbb' := hide hbb
    clear hbb
    have hAM : s0 ≠ M := by omega
    have hBM : Bx ≠ M := by omega
    rcases hkind with rfl | rfl | rfl
    · have hmk := hide (unhide hgo' [(1, x2, x3, x4)] (by rw [unhide hmk1]; simp [tn1]))
      clear hq1 hq0
      have kX : Below W.heap.size W (W.alloc (.cells #[.int .i64 1, .int .i64 x2, .int .i64 x3, .int .i64 x4] 60)) := (Below.refl _ W).alloc (Nat.le_refl _) _
      have iOX := hide (ownsRow_below (unhide iO') kX)
      have hXn := hide (World.alloc_heap_new W (.cells #[.int .i64 1, .int .i64 x2, .int .i64 x3, .int .i64 x4] 60))
      have kX' := hide kX
      clear kX
      gi_wp2_with (gi_at_builtin; refine wpListIn_c Try.underlying27 _ rfl _ _ rfl s0 r L.length cap L (1, x2, x3, x4) rfl (unhide iOX) W.heap.size rfl (unhide hXn) (by omega) (by simp; omega) ?_)
      intro g' cap' w4 n4 k4 hg4
      have n4' : OwnC w4 s0 g' (L ++ [(1, x2, x3, x4)]).length cap' (L ++ [(1, x2, x3, x4)]) := by simpa using n4
      obtain ⟨F1, F2, F3, F4, F5, F6, F7, F8⟩ := app_fin (bb := bb) (t := 27) (by decide) (unhide iM') (unhide iO') (unhide iB') hs0e.symm (by omega) hsz iN (unhide kX') n4' k4 (hg4.imp id (fun h => by rw [World.size_alloc]; omega))
      have fc4 := F1.cell
      have ff4 := F1.frozen
      obtain ⟨w5, hw5⟩ : ∃ w5, w5 = w4.setCell ⟨M, 0, none⟩ (.slice (some ⟨g', 0, none⟩) (L ++ [(1, x2, x3, x4)]).length cap') := ⟨_, rfl⟩
      rw [← hw5] at F2 F3 F4 F5 F6 F8
      have hmL : (pre ++ [x]).flatMap (fun x => tnAt l cs x.1) = L ++ [(1, x2, x3, x4)] := unhide hmk
      have hfin := hide (show KeepsOthers W w5 ∧ KeepX M r W w5 ∧ ∃ r', (∃ cap, Boxed w5 M 27 (.slice (some ⟨r', 0, none⟩) ((pre ++ [x]).flatMap (fun x => tnAt l cs x.1)).length cap) ∧ OwnC w5 s0 r' ((pre ++ [x]).flatMap (fun x => tnAt l cs x.1)).length cap ((pre ++ [x]).flatMap (fun x => tnAt l cs x.1))) ∧ Boxed w5 s0 24 (.slice a l.length ca) ∧ Below s0 w w5 ∧ r' ≠ W0.heap.size + 2 from ⟨F2, F3, g', ⟨cap', by rw [hmL]; exact F4, by rw [hmL]; exact F5⟩, F8 s0 _ (unhide iA') hAM hAr, F6, by rw [← unhide hbb']; exact F7⟩)
      have hw5' := hide hw5
      clear F1 F2 F3 F4 F5 F6 F7 F8 hmL n4 n4' k4 hg4 hw5
      gi_wp2
      have h9 := unhide hfin
      have e9 : (L ++ [(1, x2, x3, x4)]).length = L.length + 1 := by simp
      rw [unhide hw5', e9] at h9
      exact h9
    · have hq2 : ok + x4 ≤ clen l := by have h9 : oldC (2, x2, x3, x4) = x4 := by simp [oldC]
                                        omega
      have hmk := hide (unhide hgo' (adds (join (part l ok (ok + x4)))) (by rw [unhide hmk1]; simp [tn1]))
      have hq2' := hide hq2
      have hq0' := hide hq0
      clear hq1 hq2
      gi_wp2_with fail
      refine tn_drop (w := w) (bb := bb) (fun _ _ h => h) (fun _ _ _ _ h => h) hs0e (by omega) (unhide iM') (unhide iO') (unhide iA') (unhide iB') hsz iN (unhide hblk') hAM hBM hLl (unhide hk') (unhide hT') (unhide hq0') n0 (unhide hq2') ?_
      intro a' w5 g' cap' F2 F3 F4 F5 F6 F7 F8
      have hmL : (pre ++ [x]).flatMap (fun x => tnAt l cs x.1) = L ++ adds (join (part l ok (ok + x4))) := unhide hmk
      have hfin := hide (show KeepsOthers W w5 ∧ KeepX M r W w5 ∧ ∃ r', (∃ cap, Boxed w5 M 27 (.slice (some ⟨r', 0, none⟩) ((pre ++ [x]).flatMap (fun x => tnAt l cs x.1)).length cap) ∧ OwnC w5 s0 r' ((pre ++ [x]).flatMap (fun x => tnAt l cs x.1)).length cap ((pre ++ [x]).flatMap (fun x => tnAt l cs x.1))) ∧ Boxed w5 s0 24 (.slice a l.length ca) ∧ Below s0 w w5 ∧ r' ≠ W0.heap.size + 2 from ⟨F2, F3, g', ⟨cap', by rw [hmL]; exact F4, by rw [hmL]; exact F5⟩, F8 s0 _ (unhide iA') hAM hAr, F6, by rw [← unhide hbb']; exact F7⟩)
      clear F2 F3 F4 F5 F6 F7 F8 hmL
      gi_wp2
      exact unhide hfin
    · have hmk := hide (unhide hgo' (frs 2 x4) (by rw [unhide hmk1]; simp [tn1, frs]; omega))
      clear hq1 hq0
      gi_wp2_with fail
      refine ⟨trivial, CallsIn.mono (CallsIn.inRound l1 (callsIn_wide.2 (afr_any s0 r cap L 2 x4 W (by omega) (by omega) (unhide iO')))) ?_⟩
      rintro e w4 ⟨g', cap', rfl, n4, k4, hg4⟩
      obtain ⟨F1, F2, F3, F4, F5, F6, F7, F8⟩ := app_fin (bb := bb) (t := 27) (by decide) (unhide iM') (unhide iO') (unhide iB') hs0e.symm (by omega) hsz iN (Below.refl _ _) n4 k4 hg4
      have fc4 := F1.cell
      have ff4 := F1.frozen
      obtain ⟨w5, hw5⟩ : ∃ w5, w5 = w4.setCell ⟨M, 0, none⟩ (.slice (some ⟨g', 0, none⟩) (L ++ frs 2 x4).length cap') := ⟨_, rfl⟩
      rw [← hw5] at F2 F3 F4 F5 F6 F8
      have hmL : (pre ++ [x]).flatMap (fun x => tnAt l cs x.1) = L ++ frs 2 x4 := unhide hmk
      have hfin := hide (show KeepsOthers W w5 ∧ KeepX M r W w5 ∧ ∃ r', (∃ cap, Boxed w5 M 27 (.slice (some ⟨r', 0, none⟩) ((pre ++ [x]).flatMap (fun x => tnAt l cs x.1)).length cap) ∧ OwnC w5 s0 r' ((pre ++ [x]).flatMap (fun x => tnAt l cs x.1)).length cap ((pre ++ [x]).flatMap (fun x => tnAt l cs x.1))) ∧ Boxed w5 s0 24 (.slice a l.length ca) ∧ Below s0 w w5 ∧ r' ≠ W0.heap.size + 2 from ⟨F2, F3, g', ⟨cap', by rw [hmL]; exact F4, by rw [hmL]; exact F5⟩, F8 s0 _ (unhide iA') hAM hAr, F6, by rw [← unhide hbb']; exact F7⟩)
      generalize hNN : (L ++ frs 2 x4).length = NN at *
      have hw5' := hide hw5
      clear F1 F2 F3 F4 F5 F6 F7 F8 hmL n4 k4 hg4 hw5 hNN
      gi_wp2
      have h9 := unhide hfin
      rw [unhide hw5'] at h9
      exact h9
  case done =>
    rintro D xs r W hD rfl ⟨⟨cap, iM, iO⟩, iA, iB, iN⟩ hK
    rw [fin_tn] at iM iO
    have hgs := own_ge iO
    have cM := iM.cell
    have iO' := hide iO
    have iB' := hide iB
    have hK' := hide hK
    clear iM iO iA iB hK
    generalize hL : tnUp l cs cs.length = L at *
    go_wp2
    refine ⟨by simp, .inl ⟨_, _, rfl, run_takeDeferred (unhide hK'), ?_⟩⟩
    refine ⟨.tuple #[.slice (some ⟨r, 0, none⟩) L.length cap, .bool true], by simp [results, Try.f13, go_sem], ?_⟩
    rw [unhide hr]
    refine ⟨r, cap, rfl, by rw [hs0e]; exact hgs, ?_, ?_⟩
    · rw [hs0e]; exact ownsRow_putObj (unhide iO') _ (unhide hK') rfl
    · rw [hs0e]; exact (unhide iB').trans (belowK_b (w := w) (by omega) _ D _ _ (by omega) (unhide hK') rfl rfl)
  case stop =>
    rintro D c pre r W hD _ h _
    exact h.elim

end Go.Proofs.Ytfcjdempigoiiaa
