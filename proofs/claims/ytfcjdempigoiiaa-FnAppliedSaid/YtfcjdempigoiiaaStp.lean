/-
  The steps of a list of changes: the iterator's contract.
-/
import Derived.Test.YtfcjdempigoiiaaStp0
namespace Go.Proofs.Ytfcjdempigoiiaa
open Go.RowKit Go.Shelf
set_option linter.unusedVariables false
set_option linter.unusedSimpArgs false
attribute [local go_sem] Oper.semAt_some

/-- the cells of a list in a world that keeps blocks below n -/
theorem cell_keepL {X Y : World} {n b o : Nat} {v : Value} (h : ∀ (k : Nat) (x : Obj), k < n → X.heap[k]? = some x → x.isCells = true → Y.heap[k]? = some x) (hb : b < n) (hc : X.cell? ⟨b, o, none⟩ = some v) : Y.cell? ⟨b, o, none⟩ = some v := by
  obtain ⟨x, hx, hcx⟩ := cells_of_cell hc
  exact (World.cell?_of_block (a := ⟨b, o, none⟩) ((h b x hb hx hcx).trans hx.symm)).trans hc
theorem blk6 {X : World} {b : Nat} {t : TypeId} {v0 v1 v2 v3 v4 v5 : Value} (h : X.heap[b]? = some (.cells #[v0, v1, v2, v3, v4, v5] t (0, 0))) :
    X.cell? ⟨b, 0, none⟩ = some v0 ∧ X.cell? ⟨b, 1, none⟩ = some v1 ∧ X.cell? ⟨b, 2, none⟩ = some v2 ∧ X.cell? ⟨b, 3, none⟩ = some v3 ∧ X.cell? ⟨b, 4, none⟩ = some v4 ∧ X.cell? ⟨b, 5, none⟩ = some v5 ∧ (∀ o, X.frozen? ⟨b, o, none⟩ = false) := by
  refine ⟨?_, ?_, ?_, ?_, ?_, ?_, fun o => ?_⟩ <;> simp [World.cell?, World.frozen?, h]
theorem blk4 {X : World} {b : Nat} {t : TypeId} {v0 v1 v2 v3 : Value} (h : X.heap[b]? = some (.cells #[v0, v1, v2, v3] t (0, 0))) :
    X.cell? ⟨b, 0, none⟩ = some v0 ∧ X.cell? ⟨b, 1, none⟩ = some v1 ∧ X.cell? ⟨b, 2, none⟩ = some v2 ∧ X.cell? ⟨b, 3, none⟩ = some v3 := by
  refine ⟨?_, ?_, ?_, ?_⟩ <;> simp [World.cell?, h]

theorem blk6_set {X : World} {b : Nat} {t : TypeId} {v0 v1 v2 v3 v4 v5 u0 u1 u2 u3 : Value} (h : X.heap[b]? = some (.cells #[v0, v1, v2, v3, v4, v5] t (0, 0))) :
    ((((X.setCell ⟨b, 0, none⟩ u0).setCell ⟨b, 1, none⟩ u1).setCell ⟨b, 2, none⟩ u2).setCell ⟨b, 3, none⟩ u3).heap[b]? = some (.cells #[u0, u1, u2, u3, v4, v5] t (0, 0)) := by
  simp [World.setCell, Array.getElem?_modify, h]
theorem blk6_4 {X : World} {b : Nat} {t : TypeId} {v0 v1 v2 v3 v4 v5 u : Value} (h : X.heap[b]? = some (.cells #[v0, v1, v2, v3, v4, v5] t (0, 0))) : (X.setCell ⟨b, 4, none⟩ u).heap[b]? = some (.cells #[v0, v1, v2, v3, u, v5] t (0, 0)) := by
  simp [World.setCell, Array.getElem?_modify, h]
theorem blk6_5 {X : World} {b : Nat} {t : TypeId} {v0 v1 v2 v3 v4 v5 u : Value} (h : X.heap[b]? = some (.cells #[v0, v1, v2, v3, v4, v5] t (0, 0))) : (X.setCell ⟨b, 5, none⟩ u).heap[b]? = some (.cells #[v0, v1, v2, v3, v4, u] t (0, 0)) := by
  simp [World.setCell, Array.getElem?_modify, h]
theorem blk_other {X : World} {b c : Nat} {o : Obj} {u0 u1 u2 u3 : Value} (hne : c ≠ b) (h : X.heap[c]? = some o) :
    ((((X.setCell ⟨b, 0, none⟩ u0).setCell ⟨b, 1, none⟩ u1).setCell ⟨b, 2, none⟩ u2).setCell ⟨b, 3, none⟩ u3).heap[c]? = some o := by
  rw [Below.heap_setCell _ ⟨b, 3, none⟩ _ _ hne, Below.heap_setCell _ ⟨b, 2, none⟩ _ _ hne, Below.heap_setCell _ ⟨b, 1, none⟩ _ _ hne, Below.heap_setCell _ ⟨b, 0, none⟩ _ _ hne]; exact h

set_option maxRecDepth 100000 in
set_option maxHeartbeats 4000000 in
theorem steps_in (n l0 n₀ A Bs : Nat) (a : Option Addr) (cap : Nat) (l : List Ch) (hl : LOk l) (w0 W : World) (hn₀ : n₀ = w0.heap.size) (hk : Chs w0 a l) (hWk : Below n₀ w0 W) (hA : n₀ ≤ A) (hA2 : A < W.heap.size) (hBs : W.cell? ⟨Bs, 0, none⟩ = some (.slice a l.length cap))
    (J Jx : List (Fin l.length) → Nat → World → Prop) (hJ : AbX W.heap.size J) (hJx : AbX W.heap.size Jx) (hrow : ∀ s r X, J s r X → r < X.heap.size ∧ r ≠ W.heap.size ∧ n₀ ≤ r)
    (hY : ∀ pre r x W1, J pre r W1 → W.heap.size < W1.heap.size → pre.length < l.length → YieldAt Fence.wide (n - 1) Try.prog l0 #[stv l x.1] W1 fun e W' =>
      (e = .returned (.bool true) ∧ ∃ r', J (pre ++ [x]) r' W' ∧ KeepX A r W1 W') ∨ (e = .returned (.bool false) ∧ ∃ r', Jx (pre ++ [x]) r' W'))
    (h0 : ∃ r, J [] r W) :
    CallsIn Fence.wide n Try.prog 60 #[.func (.yield l0) #[] #[], .pointer (some ⟨Bs, 0, none⟩)] W fun e W' => (∃ v, e = .returned v) ∧ ((∃ xs r, xs = List.finRange l.length ∧ J xs r W') ∨ (∃ pre r, (∃ k, k ≤ l.length ∧ pre = (List.finRange l.length).take k) ∧ Jx pre r W')) := by
  refine callsIn_of_wp Try.func60 rfl trivial ?_ rfl
  simp only [Try.ntmps60, List.size_toArray, List.length_cons, List.length_nil, Nat.reduceAdd, Nat.reduceSub, Array.replicate_succ, Array.replicate_zero, List.push_toArray, List.append_toArray, List.nil_append, List.cons_append]
  have hlm : l.length ≤ 300 := hl.1
  have hBs1 : (W.alloc (.cells #[.int .i64 0, .int .i64 0, .int .i64 0, .int .i64 0, .int .i64 0, .int .i64 0] 71)).cell? ⟨Bs, 0, none⟩ = some (.slice a l.length cap) := cell_kept hBs (World.grownBy_alloc W _ none) (fun r e => by cases e)
  have hst : ∃ r, J [] r (W.alloc (.cells #[.int .i64 0, .int .i64 0, .int .i64 0, .int .i64 0, .int .i64 0, .int .i64 0] 71)) := by
    obtain ⟨r, hr⟩ := h0
    exact ⟨r, hJ _ _ _ _ none hr (World.grownBy_alloc W _ none) (fun k e => by cases e)⟩
  gi_wp2
  generalize hsb : W.heap.size = sb at *
  gi_loopw [9] (fun i wr => ∃ (k r : Nat) (y1 y2 y3 y4 : Int), k ≤ l.length ∧ i = .int .i64 k ∧ wr.heap[sb]? = some (.cells #[.int .i64 y1, .int .i64 y2, .int .i64 y3, .int .i64 y4, .int .i64 (oldL (l.take k)), .int .i64 (newL (l.take k))] 71 (0, 0)) ∧ Hid (J ((List.finRange l.length).take k) r wr) ∧ Hid (∀ (j : Nat) (x : Obj), j < n₀ → w0.heap[j]? = some x → x.isCells = true → wr.heap[j]? = some x))
    (fun i _ => l.length - (intOf i).toNat)
  case atStart =>
    obtain ⟨r, hr⟩ := hst
    refine ⟨0, r, 0, 0, 0, 0, Nat.zero_le _, rfl, by rw [← hsb]; exact World.alloc_heap_new W _, hide (by simpa using hr), hide (fun j x hj hx hc => ?_)⟩
    rw [((Below.refl n₀ W).alloc (by omega) _).block j hj, hWk.block j hj]; exact hx
  case round =>
    clear hst hBs1
    have hsb' := hide hsb
    clear hsb
    obtain ⟨k, r, y1, y2, y3, y4, hkl, rfl, hblk, hJs, hkeep⟩ := hrel
    by_cases hlt : k < l.length
    · obtain ⟨x1, x2, x3, x4, b, o, hx, rfl, hb, c0, c1, c2, c3⟩ := chs_at hk (Below.refl _ _) hlt
      have hb' : b < n₀ := by omega
      have d0 := cell_keepL (unhide hkeep) hb' c0
      have d1 := cell_keepL (unhide hkeep) hb' c1
      have d2 := cell_keepL (unhide hkeep) hb' c2
      have d3 := cell_keepL (unhide hkeep) hb' c3
      obtain ⟨s0, s1, s2, s3, s4, s5, sf⟩ := blk6 hblk
      have sf0 := sf 0
      have sf1 := sf 1
      have sf2 := sf 2
      have sf3 := sf 3
      have sf4 := sf 4
      have sf5 := sf 5
      clear sf
      have hlw : sb < wr.heap.size := (Array.getElem?_eq_some_iff.1 hblk).1
      have hlne : sb ≠ wr.heap.size := by omega
      obtain ⟨r0, r1, r2⟩ := hrow _ _ _ (unhide hJs)
      obtain ⟨W1, hW1⟩ : ∃ W1, ((((wr.setCell ⟨sb, 0, none⟩ (.int .i64 x1)).setCell ⟨sb, 1, none⟩ (.int .i64 x2)).setCell ⟨sb, 2, none⟩ (.int .i64 x3)).setCell ⟨sb, 3, none⟩ (.int .i64 x4)).alloc (.cells #[.int .i64 x1, .int .i64 x2, .int .i64 x3, .int .i64 x4] 60) = W1 := ⟨_, rfl⟩
      have hs4 : ((((wr.setCell ⟨sb, 0, none⟩ (.int .i64 x1)).setCell ⟨sb, 1, none⟩ (.int .i64 x2)).setCell ⟨sb, 2, none⟩ (.int .i64 x3)).setCell ⟨sb, 3, none⟩ (.int .i64 x4)).heap.size = wr.heap.size := by simp [World.setCell]
      have hg1 : wr.grownBy W1 (some sb) := by
        rw [← hW1]
        exact grown_trans (grown_set (grown_set (grown_set (grown_set (grown_refl _ _))))) (World.grownBy_alloc _ _ _)
      have hJ1 : J ((List.finRange l.length).take k) r W1 := hJ _ _ _ _ _ (unhide hJs) hg1 (fun j e => by cases e; rfl)
      have hb1 : W1.heap[sb]? = some (.cells #[.int .i64 x1, .int .i64 x2, .int .i64 x3, .int .i64 x4, .int .i64 (oldL (l.take k)), .int .i64 (newL (l.take k))] 71 (0, 0)) := by
        rw [← hW1, Below.heap_alloc _ _ _ (by rw [hs4]; exact hlw)]
        exact blk6_set hblk
      have hc1 : W1.heap[wr.heap.size]? = some (.cells #[.int .i64 x1, .int .i64 x2, .int .i64 x3, .int .i64 x4] 60 (0, 0)) := by
        rw [← hW1, ← hs4]
        exact World.alloc_heap_new _ _
      obtain ⟨fn, tmps, assign, body, hy, hR⟩ := hY _ r ⟨k, hlt⟩ W1 hJ1 (Nat.lt_of_lt_of_le hlw hg1.size) (by rw [List.length_take, List.length_finRange]; omega)
      have hy' : (Instr.yield l0 #[.agg #[.int .i64 x1, .int .i64 x2, .int .i64 x3, .int .i64 x4, .int .i64 (oldL (l.take k)), .int .i64 (newL (l.take k))]]).run Try.prog W1 = .ok (.round l0 fn tmps assign body) W1 := by rw [← stv_eq hx]; exact hy
      have hlx := (hl.2 _ (List.mem_of_getElem? hx)).len
      obtain ⟨q0, q1, q2, q3⟩ := sums_take hl k
      have ho := hide (oldL_snoc hx)
      have hn := hide (newL_snoc hx)
      have hg1' := hide hg1
      have hb1' := hide hb1
      have hc1' := hide hc1
      have hblk' := hide hblk
      have hx' := hide hx
      have hY' := hide hY
      have hJ' := hide hJ
      have hrow' := hide hrow
      clear hy hg1 hb1 hc1 hJ1 hblk hx hY hJ hrow c0 c1 c2 c3 hk hBs hl h0 hWk hJx hs4
      generalize oldL (l.take k) = ok at *
      generalize newL (l.take k) = nk at *
      subst hW1
      gi_wp2_with fail
      refine ⟨fun h => by simp [Fence.wide] at h, hR.mono ?_⟩
      rintro e W3 (⟨rfl, r', hJ3, hk3⟩ | ⟨rfl, r', hJx3⟩)
      · have B3 : W3.heap[sb]? = some (.cells #[.int .i64 x1, .int .i64 x2, .int .i64 x3, .int .i64 x4, .int .i64 ok, .int .i64 nk] 71 (0, 0)) := hk3.2 sb _ (unhide hb1') rfl (by have := unhide hsb'; omega) (Ne.symm r1)
        have C3 : W3.heap[wr.heap.size]? = some (.cells #[.int .i64 x1, .int .i64 x2, .int .i64 x3, .int .i64 x4] 60 (0, 0)) := hk3.2 _ _ (unhide hc1') rfl (by omega) (by omega)
        have hkeep3 : Hid (∀ (j : Nat) (x : Obj), j < n₀ → w0.heap[j]? = some x → x.isCells = true → W3.heap[j]? = some x) := hide (fun j x hj hx hc => hk3.2 j x (((unhide hg1').block j (by have := (unhide hkeep) j x hj hx hc; exact (Array.getElem?_eq_some_iff.1 this).1) (by intro e; injection e with e; have := unhide hsb'; omega)).trans ((unhide hkeep) j x hj hx hc)) hc (by omega) (by omega))
        obtain ⟨t0, t1, t2, t3, t4, t5, tf⟩ := blk6 B3
        have tf4 := tf 4
        have tf5 := tf 5
        obtain ⟨z0, z1, z2, z3⟩ := blk4 C3
        have hJ3' := hide hJ3
        have B3' := hide B3
        have hne : sb ≠ wr.heap.size := hlne
        clear s0 s1 s2 s3 s4 s5 sf0 sf1 sf2 sf3 sf4 sf5 d0 d1 d2 d3 hy' hR hg1' hb1' hc1' hblk' hJs hkeep hJ3 hk3 B3 C3 tf hlw hlne
        generalize wr.heap.size = cb at *
        obtain ⟨n0, n1⟩ := hlx
        by_cases e3 : x1 = 3
        · subst e3
          have f3 : ((3 : Int) != 3) = false := by simp
          have f2 : ((3 : Int) != 2) = true := by simp
          gi_wp2
          go_roundw
          case rel => exact ⟨k + 1, r', 3, x2, x3, x4, by omega, by go_num, by rw [unhide ho, unhide hn, show oldC (3, x2, x3, x4) = 0 by simp [oldC], show newC (3, x2, x3, x4) = x4 by simp [newC], Int.add_zero]; exact blk6_5 (unhide B3'), hide (by rw [fin_take hlt]; exact unhide hJ' _ _ _ _ _ (unhide hJ3') (grown_set (grown_refl _ _)) (fun j e => by cases e; rfl)), hide (fun j x hj hx hc => (Below.heap_setCell _ ⟨sb, 5, none⟩ _ j (by have := unhide hsb'; simp; omega)).trans (unhide hkeep3 j x hj hx hc))⟩
          case measure => simp [intOf]; omega
        · have f3 : (x1 != 3) = true := by simpa using e3
          by_cases e2 : x1 = 2
          · subst e2
            have f2 : ((2 : Int) != 2) = false := by simp
            gi_wp2
            go_roundw
            case rel => exact ⟨k + 1, r', 2, x2, x3, x4, by omega, by go_num, by rw [unhide ho, unhide hn, show oldC (2, x2, x3, x4) = x4 by simp [oldC], show newC (2, x2, x3, x4) = 0 by simp [newC], Int.add_zero]; exact blk6_4 (unhide B3'), hide (by rw [fin_take hlt]; exact unhide hJ' _ _ _ _ _ (unhide hJ3') (grown_set (grown_refl _ _)) (fun j e => by cases e; rfl)), hide (fun j x hj hx hc => (Below.heap_setCell _ ⟨sb, 4, none⟩ _ j (by have := unhide hsb'; simp; omega)).trans (unhide hkeep3 j x hj hx hc))⟩
            case measure => simp [intOf]; omega
          · have f2 : (x1 != 2) = true := by simpa using e2
            gi_wp2
            go_roundw
            case rel => exact ⟨k + 1, r', x1, x2, x3, x4, by omega, by go_num, by rw [unhide ho, unhide hn]; simp only [oldC, newC, if_neg e3, if_neg e2]; exact blk6_5 (blk6_4 (unhide B3')), hide (by rw [fin_take hlt]; exact unhide hJ' _ _ _ _ _ (unhide hJ3') (grown_set (grown_set (grown_refl _ _))) (fun j e => by cases e; rfl)), hide (fun j x hj hx hc => (Below.heap_setCell _ ⟨sb, 5, none⟩ _ j (by have := unhide hsb'; simp; omega)).trans ((Below.heap_setCell _ ⟨sb, 4, none⟩ _ j (by have := unhide hsb'; simp; omega)).trans (unhide hkeep3 j x hj hx hc)))⟩
            case measure => simp [intOf]; omega
      · gi_wp2
        refine bodyPost_ret (results_none rfl _ _ _) rfl ?_
        exact ⟨⟨_, rfl⟩, .inr ⟨_, r', ⟨k + 1, by omega, (fin_take hlt).symm⟩, hJx3⟩⟩
    · have hke : k = l.length := by omega
      have hJs' := hJs
      have hblk' := hide hblk
      clear hblk hJs
      gi_wp2
      go_end0
      refine ⟨⟨_, rfl⟩, .inl ⟨_, r, rfl, ?_⟩⟩
      have := unhide hJs'
      rw [hke, List.take_of_length_le (by simp)] at this
      exact this

theorem steps_seq (n n₀ A Bs : Nat) (a : Option Addr) (cap : Nat) (l : List Ch) (hl : LOk l) (w0 w : World) (hn₀ : n₀ = w0.heap.size) (hk : Chs w0 a l) (hWk : Below n₀ w0 w) (hA : n₀ ≤ A) (hA2 : A < w.heap.size) (hBl : Bs < w.heap.size) (hBs : w.cell? ⟨Bs, 0, none⟩ = some (.slice a l.length cap)) :
    SeqG n Try.prog 60 #[.pointer (some ⟨Bs, 0, none⟩)] (fun x : Fin l.length => stv l x.1) A n₀ (fun xs => xs = List.finRange l.length) (fun pre => ∃ k, k ≤ l.length ∧ pre = (List.finRange l.length).take k) l.length w :=
  fun l0 J Jx W hW hJ hJx hrow hY h0 => steps_in n l0 n₀ A Bs a cap l hl w0 W hn₀ hk (hWk.trans (hW.mono (by have := hWk.size; omega))) hA (Nat.lt_of_lt_of_le hA2 hW.size) ((hW.cell (p := ⟨Bs, 0, none⟩) hBl).trans hBs) J Jx hJ hJx hrow hY h0

set_option maxHeartbeats 1000000 in
theorem steps_any (a : Option Addr) (len cap : Nat) (w : World) :
    Calls Try.prog 38 #[.slice a len cap] w fun e w' => e = .returned (.func (.func 60) #[] #[.pointer (some ⟨w.heap.size, 0, none⟩)]) ∧ w' = w.alloc (.cells #[.slice a len cap] 27) := by
  go_enter Try.func38, Try.ntmps38
  go_wp2
  go_ret
  exact ⟨rfl, rfl⟩

end Go.Proofs.Ytfcjdempigoiiaa
