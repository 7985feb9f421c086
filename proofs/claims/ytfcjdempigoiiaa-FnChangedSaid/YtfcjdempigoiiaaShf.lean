/-
  Contracts of Shift, the program's and the model's.
-/
import Derived.Test.YtfcjdempigoiiaaApP
import Derived.Test.YtfcjdempigoiiaaChk
namespace Go.Proofs.Ytfcjdempigoiiaa
open Go.RowKit Go.Shelf
set_option linter.unusedVariables false
set_option linter.unusedSimpArgs false
attribute [local go_sem] Oper.semAt_some

/-- change k holds frame p of the old track -/
def hit (l : List Ch) (p : Int) (k : Nat) : Bool := decide ((chAt l k).1 ≠ 3) && decide (p < oldL (l.take k) + (chAt l k).2.2.2)
def shVal (l : List Ch) (p : Int) (k : Nat) : Int := if (chAt l k).1 = 2 then -1 else newL (l.take k) + p - oldL (l.take k)
def shiftOf (l : List Ch) (p : Int) : Int :=
  if LOk l ∧ 0 ≤ p then (match (List.range l.length).find? (hit l p) with | none => -1 | some k => shVal l p k) else -1
theorem shift_bad {l : List Ch} {p : Int} (h : ¬ (LOk l ∧ 0 ≤ p)) : shiftOf l p = -1 := if_neg h
theorem shift_none {l : List Ch} {p : Int} (h : ∀ k, k < l.length → hit l p k = false) : shiftOf l p = -1 := by
  unfold shiftOf
  split
  · have : (List.range l.length).find? (hit l p) = none := by
      rw [List.find?_eq_none]
      intro k hk
      rw [h k (List.mem_range.1 hk)]; simp
    rw [this]
  · rfl
theorem shift_some {l : List Ch} {p : Int} {k : Nat} (h0 : LOk l ∧ 0 ≤ p) (hk : k < l.length) (h1 : hit l p k = true) (h2 : ∀ j, j < k → hit l p j = false) : shiftOf l p = shVal l p k := by
  unfold shiftOf
  rw [if_pos h0]
  have : (List.range l.length).find? (hit l p) = some k := by
    rw [List.find?_range_eq_some]
    exact ⟨h1, List.mem_range.2 hk, fun j hj => by rw [h2 j hj]; rfl⟩
  rw [this]

theorem fin_mem {n k j : Nat} (hk : k ≤ n) (hj : j < k) : (⟨j, by omega⟩ : Fin n) ∈ (List.finRange n).take k := by
  rw [List.mem_take_iff_getElem]
  exact ⟨j, by simp; omega, by simp⟩

set_option maxRecDepth 100000 in
set_option maxHeartbeats 4000000 in
theorem ishift_any (a : Option Addr) (cap : Nat) (l : List Ch) (p : Int) (w : World) (hl0 : l.length ≤ maxLen) (hk : Chs w a l) :
    Calls Try.prog 15 #[.slice a l.length cap, .int .i64 p] w fun e w' => e = .returned (.int .i64 (shiftOf l p)) ∧ Below w.heap.size w w' := by
  have hk' := hide hk
  clear hk
  by_cases hl : LOk l
  · by_cases hp : 0 ≤ p
    · have hv := hide (show decide (LOk l) = true from decide_eq_true hl)
      have hl' := hide hl
      have hlm : l.length ≤ 300 := hl.1
      have hp' : decide (p < 0) = false := by simp; omega
      clear hl
      refine (callsIn_wide (n := 3)).1 ?_
      refine callsIn_of_wp_marks Try.func15 rfl trivial ?_ rfl
      simp only [Try.ntmps15, List.size_toArray, List.length_cons, List.length_nil, Nat.reduceAdd, Nat.reduceSub, Array.replicate_succ, Array.replicate_zero, List.push_toArray, List.append_toArray, List.nil_append, List.cons_append]
      gi_wp2_with fail
      have hB0 : Below w.heap.size w ((w.alloc (.cells #[.int .i64 p] 2)).alloc (.cells #[.int .i64 0] 2)) := ((Below.refl _ w).alloc (Nat.le_refl _) _).alloc (by simp) _
      refine ⟨trivial, CallsIn.mono (callsIn_wide.2 (ilist_any a cap l true _ hl0 ((unhide hk').below hB0) (unhide hv))) ?_⟩
      rintro e w1 ⟨rfl, hb⟩
      have bA : Boxed w1 w.heap.size 2 (.int .i64 p) := (hb.block _ (by simp; omega)).trans ((Boxed.new w 2 (.int .i64 p)).alloc _)
      have bR : Boxed w1 (w.heap.size + 1) 2 (.int .i64 0) := (hb.block _ (by simp)).trans (by have := Boxed.new (w.alloc (.cells #[.int .i64 p] 2)) 2 (.int .i64 0); rwa [World.size_alloc] at this)
      have hB1 := laterB hB0 hb
      have hs1 : w.heap.size + 2 ≤ w1.heap.size := by have := hb.size; simp at this; omega
      have cA := bA.cell
      clear hb hB0 hv
      gi_wp2_with fail
      refine ⟨trivial, CallsIn.mono (callsIn_wide.2 (steps_any a l.length cap _)) ?_⟩
      rintro e w2 ⟨rfl, rfl⟩
      gi_wp2_with fail
      have bA2 := bA.alloc (.cells #[.slice a l.length cap] 27)
      have bR2 := bR.alloc (.cells #[.slice a l.length cap] 27)
      have bS2 := Boxed.new w1 27 (.slice a l.length cap)
      have hB2 := hB1.alloc hB1.size (.cells #[.slice a l.length cap] 27)
      have hz2 : (w1.alloc (.cells #[.slice a l.length cap] 27)).heap.size = w1.heap.size + 1 := by simp
      generalize w1.alloc (.cells #[.slice a l.length cap] 27) = W0 at *
      have hws : w.heap.size = w.heap.size := rfl
      generalize hs1e : w1.heap.size = s1 at *
      generalize hs0e : w.heap.size = s0 at *
      clear bA bR cA hB1 hws
      have hl2 := unhide hl'
      refine wpIn_rangeX (w := W0) (gf := 60) (lb := #[.pointer (some ⟨s1, 0, none⟩)]) rfl (enters_of Try.func60 (by kernel_rfl) rfl)
        (steps_seq 2 s0 (s0 + 1) s1 a cap l hl2 w W0 hs0e.symm (unhide hk') hB2 (by omega) (by omega) (by omega) bS2.cell) (Below.refl _ _) rfl
        (fun pre r W => (∀ x ∈ pre, hit l p x.1 = false) ∧ Boxed W s0 2 (.int .i64 p) ∧ Boxed W (s0 + 1) 2 (.int .i64 0) ∧ Below s0 w W ∧ r = s0 + 1)
        (fun c pre r W => c = .ret ∧ (∃ ini x, pre = ini ++ [x] ∧ (∀ y ∈ ini, hit l p y.1 = false) ∧ hit l p x.1 = true ∧ Boxed W (s0 + 1) 2 (.int .i64 (shVal l p x.1))) ∧ Below s0 w W)
        (fun s r X Y row h hg hr => ⟨h.1, boxed_ab h.2.1 hg hr (by omega), boxed_ab h.2.2.1 hg hr (by omega), below_ab h.2.2.2.1 (by omega) hg hr (by omega) (by omega), h.2.2.2.2⟩)
        (fun c s r X Y row h hg hr => by
          obtain ⟨h1, ⟨ini, x, e1, e2, e3, e4⟩, h3⟩ := h
          exact ⟨h1, ⟨ini, x, e1, e2, e3, boxed_ab e4 hg hr (by omega)⟩, below_ab h3 (by omega) hg hr (by omega) (by omega)⟩)
        (fun s r X h => by obtain ⟨_, _, h2, _, rfl⟩ := h; exact ⟨h2.lt, by omega, by omega⟩)
        ⟨s0 + 1, by simp, bA2, bR2, hB2, rfl⟩
        (fun x a' W => ∃ Bx, s0 + 1 < Bx ∧ W.heap[Bx]? = some (stBlk l x.1) ∧ a' = { tmps := #[.slice a l.length cap, .int .i64 p, undef, .pointer (some ⟨s0, 0, none⟩), .pointer (some ⟨s0 + 1, 0, none⟩), .pointer (some ⟨Bx, 0, none⟩), .slice a l.length cap, .bool true, .bool false, .bool false, .int .i64 p, .bool false, .bool false, .slice a l.length cap, .func (.func 60) #[] #[.pointer (some ⟨s1, 0, none⟩)], stv l x.1, undef, undef, undef, undef, undef, undef, undef, undef, undef, undef, undef, undef, undef, undef, undef, undef, undef, undef, undef, undef, undef, undef, undef, undef, undef], defers := [] })
        (fun x a' X l1 o o' h hl ho hc => by obtain ⟨Bx, e1, e2, e3⟩ := h; exact ⟨Bx, e1, blk_put e2 rfl ho hc, e3⟩)
        ?assign ?body ?done ?stop
      case assign =>
        rintro l1 pre r x W K ⟨i1, i2, i3, i4, rfl⟩ hsz hK
        obtain ⟨y1, y2, y3, y4, y5, y6, hst, hbk⟩ := stv_gen l x.1
        have hK' := hide hK
        have hst' := hide hst
        have hbk' := hide hbk
        simp only [hst]
        clear hK hst hbk
        gi_wp2
        exact unhide hK' _ _ (KeepsOthers.alloc _ _) (keepX_alloc _ _) ⟨i1, i2.alloc _, i3.alloc _, i4.alloc (by have := i4.size; omega) _, by simp⟩ ⟨W.heap.size, i3.lt, by rw [unhide hbk']; exact World.alloc_heap_new W _, by rw [unhide hst']⟩
      case body =>
        rintro l1 pre r x a' W ⟨i1, i2, i3, i4, rfl⟩ ⟨Bx, hBx, hblk, rfl⟩ hsz hlen
        have hHc := hl2.2 _ (List.mem_of_getElem? (chAt_get x.2))
        obtain ⟨⟨x1, x2, x3, x4⟩, hc⟩ : ∃ c, chAt l x.1 = c := ⟨_, rfl⟩
        have hht : hit l p x.1 = (decide (x1 ≠ 3) && decide (p < oldL (l.take x.1) + x4)) := by unfold hit; rw [hc]
        have hvv : shVal l p x.1 = if x1 = 2 then -1 else newL (l.take x.1) + p - oldL (l.take x.1) := by unfold shVal; rw [hc]
        simp only [stBlk, hc] at hblk
        rw [hc] at hHc
        obtain ⟨n0, n1⟩ := hHc.len
        simp only at n0 n1
        obtain ⟨q0, q1, q2, q3⟩ := sums_take hl2 x.1
        obtain ⟨t0, t1, t2, t3, t4, t5, tf⟩ := blk6 hblk
        have cA := i2.cell
        have cR := i3.cell
        have fR := i3.frozen
        have i1' := hide i1
        have i2' := hide i2
        have i3' := hide i3
        have i4' := hide i4
        have hht' := hide hht
        have hvv' := hide hvv
        have hb0 : Bx ≠ s0 + 1 := by omega
        clear hblk hHc hc tf i1 i2 i3 i4 hht hvv
        generalize oldL (l.take x.1) = ok at *
        generalize newL (l.take x.1) = nk at *
        by_cases e3 : x1 = 3
        · subst e3
          gi_wp2
          refine ⟨KeepsOthers.refl _, KeepX.refl _ _ _, s0 + 1, fun y hy => ?_, unhide i2', unhide i3', unhide i4', rfl⟩
          rcases List.mem_append.1 hy with h | h
          · exact unhide i1' y h
          · simp at h; subst h; rw [unhide hht']; simp
        · have e3' : decide (x1 = 3) = false := by simpa using e3
          by_cases ep : p < ok + x4
          · have ep' : decide (ok + x4 ≤ p) = false := by simp; omega
            by_cases e2 : x1 = 2
            · subst e2
              gi_wp2
              refine ⟨KeepsOthers.setCell _ _ _, s0 + 1, rfl, ⟨pre, x, rfl, unhide i1', ?_, ?_⟩, (unhide i4').setCell (p := ⟨s0 + 1, 0, none⟩) (by simp) _⟩
              · rw [unhide hht']; simp; omega
              · rw [unhide hvv']; exact (unhide i3').set _
            · have e2' : decide (x1 = 2) = false := by simpa using e2
              gi_wp2
              refine ⟨KeepsOthers.setCell _ _ _, s0 + 1, rfl, ⟨pre, x, rfl, unhide i1', ?_, ?_⟩, (unhide i4').setCell (p := ⟨s0 + 1, 0, none⟩) (by simp) _⟩
              · rw [unhide hht']; simp [e3]; omega
              · rw [unhide hvv', if_neg e2]; exact (unhide i3').set _
          · have ep' : decide (ok + x4 ≤ p) = true := by simp; omega
            gi_wp2
            refine ⟨KeepsOthers.refl _, KeepX.refl _ _ _, s0 + 1, fun y hy => ?_, unhide i2', unhide i3', unhide i4', rfl⟩
            rcases List.mem_append.1 hy with h | h
            · exact unhide i1' y h
            · simp at h; subst h; rw [unhide hht']; simp [e3]; omega
      case done =>
        rintro D xs r W hD rfl ⟨i1, i2, i3, i4, rfl⟩ hK
        have cR := i3.cell
        have fR := i3.frozen
        gi_wp2
        have hK' := (KeepsOthers.setCell W ⟨s0 + 1, 0, none⟩ (.int .i64 (-1))).same D _ hK rfl
        refine ⟨by simp, .inl ⟨_, _, rfl, run_takeDeferred hK', ?_⟩⟩
        have hc5 := cell_kept (World.cell?_setCell_same' W ⟨s0 + 1, 0, none⟩ (.int .i64 (-1)) (by rw [cR]; rfl)) (grownBy_putObj' _ D (.deferred none)) (fun r e => by cases e; exact ⟨_, hK', rfl⟩)
        refine ⟨.int .i64 (-1), ?_, ?_, by rw [hs0e]; exact (i4.setCell (p := ⟨s0 + 1, 0, none⟩) (by simp) _).trans (belowK_b (w := w) (by omega) _ D _ _ (by omega) hK' rfl rfl)⟩
        · simp [results, Try.f15, go_sem, hc5]
        · rw [shift_none (fun k hk => i1 ⟨k, hk⟩ (by simp))]
      case stop =>
        rintro D c pre r W hD ⟨k, hk, rfl⟩ ⟨rfl, ⟨ini, x, e1, e2, e3, e4⟩, hB⟩ hK
        gi_wp2
        refine ⟨by simp, .inl ⟨_, _, rfl, run_takeDeferred hK, ?_⟩⟩
        have hc5 := cell_kept e4.cell (grownBy_putObj' _ D (.deferred none)) (fun r e => by cases e; exact ⟨_, hK, rfl⟩)
        refine ⟨.int .i64 (shVal l p x.1), ?_, ?_, by rw [hs0e]; exact hB.trans (belowK_b (w := w) (by omega) W D _ _ (by omega) hK rfl rfl)⟩
        · simp [results, Try.f15, go_sem, hc5]
        · obtain ⟨k', rfl⟩ : ∃ k', k = k' + 1 := by
            cases k with
            | zero => simp at e1
            | succ k' => exact ⟨k', rfl⟩
          rw [fin_take (by omega)] at e1
          obtain ⟨e5, e6⟩ := List.append_inj' e1 rfl
          obtain rfl : x = ⟨k', by omega⟩ := by simpa using e6.symm
          rw [shift_some ⟨hl2, hp⟩ (by omega) e3 (fun j hj => e2 ⟨j, by omega⟩ (by rw [← e5]; exact fin_mem (by omega) hj))]
    · have hp' : decide (p < 0) = true := by simp; omega
      have hp2 := hide hp
      clear hp
      have hv := hide (show decide (LOk l) = true from decide_eq_true hl)
      clear hl
      go_enter Try.func15, Try.ntmps15
      go_wp2_with fail
      have hB0 : Below w.heap.size w ((w.alloc (.cells #[.int .i64 p] 2)).alloc (.cells #[.int .i64 0] 2)) := ((Below.refl _ w).alloc (Nat.le_refl _) _).alloc (by simp) _
      refine (ilist_any a cap l true _ hl0 ((unhide hk').below hB0) (unhide hv)).mono ?_
      rintro e w1 ⟨rfl, hb⟩
      have bA : Boxed w1 w.heap.size 2 (.int .i64 p) := (hb.block _ (by simp; omega)).trans ((Boxed.new w 2 (.int .i64 p)).alloc _)
      have bR : Boxed w1 (w.heap.size + 1) 2 (.int .i64 0) := (hb.block _ (by simp)).trans (by have := Boxed.new (w.alloc (.cells #[.int .i64 p] 2)) 2 (.int .i64 0); rwa [World.size_alloc] at this)
      have cA := bA.cell
      have cR := bR.cell
      have fR := bR.frozen
      have hB1 := hide (laterB hB0 hb)
      have bR' := hide bR
      clear hb hB0 bA bR
      go_wp2
      refine bodyPost_ret (v := .int .i64 (-1)) ?_ rfl ⟨by rw [shift_bad (fun h => by have h1 := unhide hp2; have h2 := h.2; omega)], (unhide hB1).setCell (p := ⟨w.heap.size + 1, 0, none⟩) (by simp) _⟩
      simp [results, Try.results15, go_sem, ((unhide bR').set (.int .i64 (-1))).cell]
  · have hv := hide (show decide (LOk l) = false from decide_eq_false hl)
    have hl2 := hide hl
    clear hl
    go_enter Try.func15, Try.ntmps15
    go_wp2_with fail
    have hB0 : Below w.heap.size w ((w.alloc (.cells #[.int .i64 p] 2)).alloc (.cells #[.int .i64 0] 2)) := ((Below.refl _ w).alloc (Nat.le_refl _) _).alloc (by simp) _
    refine (ilist_any a cap l false _ hl0 ((unhide hk').below hB0) (unhide hv)).mono ?_
    rintro e w1 ⟨rfl, hb⟩
    have bR : Boxed w1 (w.heap.size + 1) 2 (.int .i64 0) := (hb.block _ (by simp)).trans (by have := Boxed.new (w.alloc (.cells #[.int .i64 p] 2)) 2 (.int .i64 0); rwa [World.size_alloc] at this)
    have cR := bR.cell
    have fR := bR.frozen
    have hB1 := hide (laterB hB0 hb)
    have bR' := hide bR
    clear hb hB0 bR
    go_wp2
    refine bodyPost_ret (v := .int .i64 (-1)) ?_ rfl ⟨by rw [shift_bad (fun h => unhide hl2 h.1)], (unhide hB1).setCell (p := ⟨w.heap.size + 1, 0, none⟩) (by simp) _⟩
    simp [results, Try.results15, go_sem, ((unhide bR').set (.int .i64 (-1))).cell]

end Go.Proofs.Ytfcjdempigoiiaa
