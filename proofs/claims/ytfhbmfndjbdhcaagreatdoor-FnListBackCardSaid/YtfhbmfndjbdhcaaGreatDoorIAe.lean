/-
  A clip more in the program's reader: where nothing goes on.
-/
import Derived.Test.YtfhbmfndjbdhcaaGreatDoorIAd
namespace Go.Proofs.YtfhbmfndjbdhcaaGreatDoor
open Go.RowKit
set_option linter.unusedVariables false
set_option linter.unusedSimpArgs false

theorem step_k {T : TypeId} (hT : Tryz.prog.underlying T = some (.slice 44)) {ops : Array Oper} {o : Oper} {a : Act} {K : Act → World → Prop} {Q : Exit → Act → World → Prop} {E' : Prop} (w : World) (hgd : o.guard = none) (s x : Operand) (ho : o.op = .call { callee := .builtin .append, args := #[s, x], argTypes := #[T, T] })
    (B g n cap : Nat) (L : List Kl) (v : Kl) (hs : a.eval s = .slice (some ⟨g, 0, none⟩) n cap) (hown : Own w B g n cap L) (E : Nat) (hx : a.eval x = .slice (some ⟨E, 0, none⟩) 1 1)
    (hblk : w.heap[E]? = some (.cells #[.int .i64 v.1, .int .i64 v.2.1, .int .i64 v.2.2] 44 (0, 0))) (hl : n ≤ 1000000) (hB : B ≤ w.heap.size)
    (h : ∀ g' cap' w', Own w' B g' (n + 1) cap' (L ++ [v]) → w.grownBy w' (some g) → (g' = g ∨ g' = w.heap.size) → K (a.put o.dst (.slice (some ⟨g', 0, none⟩) (n + 1) cap')) w') :
    if Region.wanted o (yielded ops a.tmps) = true then Oper.wp Tryz.prog o a w K Q else E' := by
  obtain ⟨i0, hi, hz0, hz1, hz2⟩ := info_parts info44
  refine step_append_lies w hgd s x T ho B 44 i0 (.agg #[.int .i64 0, .int .i64 0, .int .i64 0]) 3 24 hT hi hz0 hz1 hz2 rfl (by decide) _ n (flK L) hs hown ⟨E, 0, none⟩ 1 1 [iv v.1, iv v.2.1, iv v.2.2] hx rfl (K_news hblk) (by intro u hu; simp at hu; rcases hu with rfl | rfl | rfl <;> rfl) (by decide) (by unfold maxLen; omega) (by omega) hB w.heap.size rfl ?_
  intro g' cap' w' h1 h2 h3 h4
  exact h g' cap' w' (by show World.ownsRow _ _ _ _ _ _ _; rw [flK_append]; exact h1) (by simpa [Value.ownBlock] using h2) (Or.imp (fun h3 => by simp [Value.ownBlock] at h3; exact h3.symm) id h3)
theorem own_blkT {w : World} {B g n cap : Nat} {L : List Kl} (h : Own w B g n cap L) : ∃ cur fz, w.heap[g]? = some (.cells cur 44 fz) := by
  rcases h.2 with ⟨hv, _⟩ | ⟨g', cap', cur, hv, hB, hh, _⟩
  · cases hv
  · injection hv with e1
    injection e1 with e1
    injection e1 with e1
    subst e1
    exact ⟨cur, _, hh⟩
theorem rd_ne {w : World} {R B g n cap : Nat} {L : List Kl} {cs : Array Value} (hR : w.heap[R]? = some (.cells cs 98 (0, 0))) (hO : Own w B g n cap L) : R ≠ g := by
  intro e
  subst e
  obtain ⟨cur, fz, hh⟩ := own_blkT hO
  rw [hR] at hh
  injection hh with hh
  injection hh with _ e _
  cases e
theorem own_set {w : World} {B g n cap R q : Nat} {L : List Kl} {v : Value} (h : Own w B g n cap L) (hR : R ≠ g) : Own (w.setCell ⟨R, q, none⟩ v) B g n cap L := by
  obtain ⟨h1, h2⟩ := h
  refine ⟨h1, ?_⟩
  rcases h2 with h2 | ⟨g', cap', cur, hv, hB, hh, r⟩
  · exact Or.inl h2
  · refine Or.inr ⟨g', cap', cur, hv, hB, ?_, r⟩
    injection hv with e1
    injection e1 with e1
    injection e1 with e1
    subst e1
    exact set_blk hh (Ne.symm hR)
theorem kp2_all {R g : Nat} {w wx w3 w4 : World} (hX : Below w.heap.size w wx) (h2 : wx.grownBy w3 (some g)) (k4 : Below w3.heap.size w3 w4) : Kp2 R g w w4 := by
  obtain ⟨a1, a2, a3, a4, a5⟩ := h2
  refine ⟨k4.os.trans (a1.trans hX.os), k4.tape.trans (a2.trans hX.tape), k4.output.trans (a3.trans hX.output), Nat.le_trans hX.size (Nat.le_trans a4 k4.size), fun k hk _ hg => ?_⟩
  have z1 : k < wx.heap.size := Nat.lt_of_lt_of_le hk hX.size
  rw [k4.block k (Nat.lt_of_lt_of_le z1 a4), a5 k z1 (by intro e; injection e with e; exact hg e), hX.block k hk]
theorem kp2_set {R g q : Nat} {w w4 : World} {v : Value} (h : Kp2 R g w w4) : Kp2 R g w (w4.setCell ⟨R, q, none⟩ v) :=
  ⟨h.os, h.tape, h.output, Nat.le_trans h.size (by simp), fun k hk hR hg => by rw [Below.heap_setCell _ _ _ _ hR]; exact h.block k hk hR hg⟩
theorem blk6f {X : World} {b : Nat} {t : TypeId} {v0 v1 v2 v3 v4 v5 : Value} (h : X.heap[b]? = some (.cells #[v0, v1, v2, v3, v4, v5] t (0, 0))) : ∀ j, X.frozen? ⟨b, j, none⟩ = false := fun j => Lib.frozen_of_heap h _
theorem put_rd {X : World} {R : Nat} {v0 v1 v2 v3 v4 v5 u4 u5 : Value} (h : X.heap[R]? = some (.cells #[v0, v1, v2, v3, v4, v5] 98 (0, 0))) : ((X.setCell ⟨R, 4, none⟩ u4).setCell ⟨R, 5, none⟩ u5).heap[R]? = some (.cells #[v0, v1, v2, v3, u4, u5] 98 (0, 0)) := by
  simp [World.setCell, h, Array.getElem?_modify]
theorem itrack_n (a : Option Addr) (cap k : Nat) (l : List Kl) (v : Bool) (w : World) (hn : l.length = k) (hl : k ≤ 1000000) (hk : Kls w a l) (hv : decide (TOk l) = v) :
    Calls Tryz.prog 102 #[.slice a k cap] w fun e w' => e = .returned (.bool v) ∧ Below w.heap.size w w' := by subst hn; exact itrack_any a cap l v w (by unfold maxLen; omega) hk hv

/-- what a clip more is told as -/
def AdP (R B g : Nat) (n d : Int) (dr : Bool) (mp tr : Value) (en tu : Int) (L' : List Kl) (w : World) (e : Ending) (w' : World) : Prop :=
  (TOk L' ∧ e = .returned .nilIface ∧ ∃ g' cap', RdBx w' R n d dr mp (.slice (some ⟨g', 0, none⟩) L'.length cap') tu ∧ Own w' B g' L'.length cap' L' ∧ Kp2 R g w w') ∨
  (¬ TOk L' ∧ e = .returned (.iface 92 (.int .i64 10)) ∧ RdBx w' R n d dr mp tr en ∧ Kp2 R g w w')

set_option maxRecDepth 100000 in
set_option maxHeartbeats 2000000 in
theorem iadd_nil (R B g cap : Nat) (s i m fr tu : Int) (n d : Int) (dr : Bool) (mp : Value) (w : World) (hR : RdBx w R n d dr mp (.slice (some ⟨g, 0, none⟩) 0 cap) fr) (hO0 : Own w B g 0 cap [])
    (hC : COk (s, i, m)) (hf : 0 ≤ fr ∧ fr ≤ 10000000) (ht : 0 ≤ tu ∧ tu ≤ 10000000) (h2 : tu - fr = m) :
    Calls Tryz.prog 87 #[.pointer (some ⟨R, 0, none⟩), clV s i m, .int .i64 fr, .int .i64 tu] w (AdP R B g n d dr mp (.slice (some ⟨g, 0, none⟩) 0 cap) fr tu ([] ++ [(s, i, m)]) w) := by
  have hc : decide (COk (s, i, m)) = true := by simp [hC]
  have kb := hide (bx_below w s i m)
  have hw : IntKind.i64.wrap (tu - fr) = m := by rw [IntKind.wrap_i64]; omega
  have hbx := alloc_new w (.cells #[.int .i64 s, .int .i64 i, .int .i64 m] 44)
  have hbR := blk_below hR (unhide kb)
  have hQ : R < w.heap.size := (Array.getElem?_eq_some_iff.1 hR).1
  have hO1 := hide (ownsRow_below hO0 (unhide kb))
  clear hR h2
  go_enter Tryz.func87, Tryz.ntmps87
  go_wp2_with fail
  refine (iclip_any s i m true _ hc).mono ?_
  rintro e w1 ⟨rfl, k1⟩
  have k2 := hide (laterB (unhide kb) k1)
  have hR1 := blk_below hbR k1
  obtain ⟨c0, c1, c2, c3, c4, c5⟩ := blk6 hR1
  obtain ⟨b0, b1, b2⟩ := blk3 (blk_below hbx k1)
  have hO2 := hide (ownsRow_below (unhide hO1) k1)
  clear k1 kb hc hbx hbR hO1
  have e1 : (fr != fr) = false := by simp
  have e2 : (m != m) = false := by simp
  go_wp2_with fail
  go_quiet (fail)
  go_wp2_with fail
  have kz := hide (below_drewN (unhide k2) nq)
  have hRz : (w1.drewN nq).heap[R]? = some (.cells #[.int .i64 n, .int .i64 d, .bool dr, mp, .slice (some ⟨g, 0, none⟩) 0 cap, .int .i64 fr] 98 (0, 0)) := hR1
  have C4 : (w1.drewN nq).cell? ⟨R, 4, none⟩ = some (.slice (some ⟨g, 0, none⟩) 0 cap) := c4
  have bz0 : (w1.drewN nq).cell? ⟨w.heap.size, 0, none⟩ = some (.int .i64 s) := b0
  have bz1 : (w1.drewN nq).cell? ⟨w.heap.size, 1, none⟩ = some (.int .i64 i) := b1
  have bz2 : (w1.drewN nq).cell? ⟨w.heap.size, 2, none⟩ = some (.int .i64 m) := b2
  have hOz : Hid (Own (w1.drewN nq) B g 0 cap []) := hide (unhide hO2)
  clear hO2 k2 hR1 b0 b1 b2 c4
  generalize w1.drewN nq = wz at *
  clear c0 c1 c2 c3 c5
  refine wp_region_noPanic ?_
  refine wp_region_held_drew (S := fun w' => w'.cell? ⟨R, 4, none⟩ = some (.slice (some ⟨g, 0, none⟩) 0 cap) ∧ w'.cell? ⟨w.heap.size, 0, none⟩ = some (.int .i64 s) ∧ w'.cell? ⟨w.heap.size, 1, none⟩ = some (.int .i64 i) ∧ w'.cell? ⟨w.heap.size, 2, none⟩ = some (.int .i64 m)) (by kernel_rfl) ?_ (fun hH0 => ?_)
  · exact ⟨C4, bz0, bz1, bz2⟩
  refine wpAnyH_take (i := 0) (oi := { dst := some 50, op := Go.Op.move (Go.Operand.tmp 0), type := 127, pos := _, after := #[], guard := none }) (v := ?_) rfl (by kernel_rfl) (by kernel_rfl) (by kernel_rfl) (fun _ _ _ h => h) (Or.inl ⟨by rfl, ?_⟩) hH0 ?_
  rotate_left
  · (intro w hSw; (try dsimp only at hSw); go_simp <;> with_reducible rfl)
  (try simp only [Act.put, List.setIfInBounds_toArray, List.set_cons_zero, List.set_cons_succ])
  refine wpAnyH_take (i := 1) (oi := { dst := some 51, op := Go.Op.nilCheck (Go.Operand.tmp 50), type := 0, pos := _, after := #[{ on := 0, ground := Go.Ground.data }], guard := none }) (v := ?_) rfl (by kernel_rfl) (by kernel_rfl) (by kernel_rfl) (fun _ _ _ h => h) (Or.inl ⟨by rfl, ?_⟩) hH0 ?_
  rotate_left
  · (intro w hSw; (try dsimp only at hSw); go_simp <;> with_reducible rfl)
  (try simp only [Act.put, List.setIfInBounds_toArray, List.set_cons_zero, List.set_cons_succ])
  refine wpAnyH_take (i := 2) (oi := { dst := some 52, op := Go.Op.fieldAddr 98 (Go.Operand.tmp 51) 2, type := 0, pos := _, after := #[{ on := 1, ground := Go.Ground.data }], guard := none }) (v := ?_) rfl (by kernel_rfl) (by kernel_rfl) (by kernel_rfl) (fun _ _ _ h => h) (Or.inl ⟨by rfl, ?_⟩) hH0 ?_
  rotate_left
  · (intro w hSw; (try dsimp only at hSw); go_simp <;> with_reducible rfl)
  (try simp only [Act.put, List.setIfInBounds_toArray, List.set_cons_zero, List.set_cons_succ])
  refine wpAnyH_take (i := 3) (oi := { dst := some 53, op := Go.Op.load 45 (Go.Operand.tmp 52), type := 45, pos := _, after := #[{ on := 2, ground := Go.Ground.data }], guard := none }) (v := ?_) rfl (by kernel_rfl) (by kernel_rfl) (by kernel_rfl) (fun _ _ _ h => h) (Or.inl ⟨by rfl, ?_⟩) hH0 ?_
  rotate_left
  · (intro w hSw; (try dsimp only at hSw); go_simp <;> with_reducible rfl)
  (try simp only [Act.put, List.setIfInBounds_toArray, List.set_cons_zero, List.set_cons_succ])
  refine wpAnyH_take (i := 4) (oi := { dst := some 54, op := Go.Op.load 44 (Go.Operand.tmp 5), type := 44, pos := _, after := #[], guard := none }) (v := ?_) rfl (by kernel_rfl) (by kernel_rfl) (by kernel_rfl) (fun _ _ _ h => h) (Or.inl ⟨by rfl, ?_⟩) hH0 ?_
  rotate_left
  · (intro w hSw; (try dsimp only at hSw); go_simp <;> with_reducible rfl)
  (try simp only [Act.put, List.setIfInBounds_toArray, List.set_cons_zero, List.set_cons_succ])
  refine wpAnyH_ready (rs := [5]) (by kernel_rfl) (by simp) ?_
  refine AllReadyH.cons (o := { dst := some 55, op := Go.Op.buildSlice 45 1 #[(0, Go.Operand.tmp 54)], type := 45, pos := _, after := #[{ on := 4, ground := Go.Ground.data }], guard := none }) rfl (fun K hK => ?_) AllReadyH.nil
  go_simp
  refine hK.out _ _ ?_ (fun hH1 => ?_)
  · exact ⟨cell_later ((Below.refl _ _).alloc (Nat.le_refl _) _) hH0.1, cell_later ((Below.refl _ _).alloc (Nat.le_refl _) _) hH0.2.1, cell_later ((Below.refl _ _).alloc (Nat.le_refl _) _) hH0.2.2.1, cell_later ((Below.refl _ _).alloc (Nat.le_refl _) _) hH0.2.2.2⟩
  clear hK K
  (try simp only [Act.put, List.setIfInBounds_toArray, List.set_cons_zero, List.set_cons_succ])
  refine wpAnyH_ready (rs := [6]) (by kernel_rfl) (by simp) ?_
  refine AllReadyH.cons (o := { dst := some 56, op := Go.Op.call { callee := Go.Callee.builtin Go.Builtin.append, args := #[Go.Operand.tmp 53, Go.Operand.tmp 55], argTypes := #[45, 45] }, type := 45, pos := _, after := #[{ on := 3, ground := Go.Ground.data }, { on := 5, ground := Go.Ground.data }], guard := none }) rfl (fun K hK => ?_) AllReadyH.nil
  have hX : Below wz.heap.size wz (wz.drew.alloc (.cells #[.int .i64 s, .int .i64 i, .int .i64 m] 44)) := ((Below.refl wz.heap.size wz).drew).alloc (Nat.le_refl _) _
  have hOX := hide (ownsRow_below (unhide hOz) hX)
  have hRX := blk_below hRz hX
  have hne := rd_ne hRX (unhide hOX)
  have hbq : w.heap.size ≠ g := by
    intro e
    have := own_lt hO0
    omega
  refine step_k Tryz.underlying45 _ rfl _ _ rfl B g (0) cap ([]) (s, i, m) rfl (unhide hOX) wz.heap.size rfl (alloc_new wz.drew _) (by omega) (by have := own_ge hO0; have := own_lt hO0; have := (unhide kz).size; simp; omega) ?_
  intro g3 cap3 w3 h1 h2 h3
  have hg2 := h2
  obtain ⟨a1, a2, a3, a4, a5⟩ := h2
  have hcg : ∀ b q u, b ≠ g → (wz.drew.alloc (.cells #[.int .i64 s, .int .i64 i, .int .i64 m] 44)).cell? ⟨b, q, none⟩ = some u → w3.cell? ⟨b, q, none⟩ = some u := by
    intro b q u hb hu
    have hlt := World.block_lt_of_cell? _ _ hu
    have := a5 b hlt (by intro e; injection e with e; exact hb e)
    unfold World.cell? at hu ⊢
    rw [this]; exact hu
  refine hK.out _ _ ?_ (fun hH2 => ?_)
  · exact ⟨hcg _ _ _ hne hH1.1, hcg _ _ _ hbq hH1.2.1, hcg _ _ _ hbq hH1.2.2.1, hcg _ _ _ hbq hH1.2.2.2⟩
  clear hK K
  (try simp only [Act.put, List.setIfInBounds_toArray, List.set_cons_zero, List.set_cons_succ])
  refine wpAnyH_take (i := 7) (oi := { dst := some 10, op := Go.Op.assign (Go.Operand.tmp 56), type := 45, pos := _, after := #[{ on := 6, ground := Go.Ground.data }, { on := 6, ground := Go.Ground.chain }, { on := 0, ground := Go.Ground.phase }, { on := 1, ground := Go.Ground.phase }, { on := 2, ground := Go.Ground.phase }, { on := 3, ground := Go.Ground.phase }, { on := 4, ground := Go.Ground.phase }, { on := 5, ground := Go.Ground.phase }, { on := 6, ground := Go.Ground.phase }], guard := none }) (v := ?_) rfl (by kernel_rfl) (by kernel_rfl) (by kernel_rfl) (fun _ _ _ h => h) (Or.inl ⟨by rfl, ?_⟩) hH2 ?_
  rotate_left
  · (intro w hSw; (try dsimp only at hSw); go_simp <;> with_reducible rfl)
  (try simp only [Act.put, List.setIfInBounds_toArray, List.set_cons_zero, List.set_cons_succ])
  refine wpAnyH_done (by kernel_rfl) ?_ _
  refine NoPanic.normal ?_
  have hR3 : RdBx w3 R n d dr mp (.slice (some ⟨g, 0, none⟩) (0) cap) fr := by
    show w3.heap[R]? = _
    rw [a5 R (Array.getElem?_eq_some_iff.1 hRX).1 (by intro e; injection e with e; exact hne e)]
    exact hRX
  have hg3 : R ≠ g3 := rd_ne hR3 h1
  have hL3 : (([]) ++ [(s, i, m)]).length = 0 + 1 := own_len h1
  have h1' := hide h1
  have hg2' := hide hg2
  have hXw := hide (laterB (unhide kz) hX)
  have hR3' := hide hR3
  clear a1 a2 a3 a4 a5 hcg h3 hX hOX hRX hH0 hH1 hH2 hOz hRz C4 bz0 bz1 bz2 hg2 hR3 kz
  by_cases hT : TOk (([]) ++ [(s, i, m)])
  · have hTd : decide (TOk (([]) ++ [(s, i, m)])) = true := decide_eq_true hT
    go_wp2_with fail
    refine (itrack_n (some ⟨g3, 0, none⟩) cap3 (0 + 1) (([]) ++ [(s, i, m)]) true w3 hL3 (by omega) (kls_own h1) hTd).mono ?_
    rintro e w4 ⟨rfl, k4⟩
    have hR4 := blk_below (unhide hR3') k4
    have hO4 := hide (ownsRow_below (unhide h1') k4)
    have hK4 := hide (kp2_all (R := R) (unhide hXw) (unhide hg2') k4)
    obtain ⟨c0, c1, c2, c3, c4, c5⟩ := blk6 hR4
    have f4 := blk6f hR4 4
    have f5 := blk6f hR4 5
    clear k4 h1 hTd
    go_wp2
    go_ret
    refine .inl ⟨hT, rfl, g3, cap3, ?_, ?_, ?_⟩
    · first | exact put_rd hR4 | (rw [hL3]; exact put_rd hR4)
    · first | exact own_set (own_set (unhide hO4) hg3) hg3 | (rw [hL3]; exact own_set (own_set (unhide hO4) hg3) hg3)
    · exact kp2_set (kp2_set (unhide hK4))
  · have hTd : decide (TOk (([]) ++ [(s, i, m)])) = false := decide_eq_false hT
    go_wp2_with fail
    refine (itrack_n (some ⟨g3, 0, none⟩) cap3 (0 + 1) (([]) ++ [(s, i, m)]) false w3 hL3 (by omega) (kls_own h1) hTd).mono ?_
    rintro e w4 ⟨rfl, k4⟩
    have hR4 := blk_below (unhide hR3') k4
    have hK4 := hide (kp2_all (R := R) (unhide hXw) (unhide hg2') k4)
    clear k4 h1 hTd
    go_wp2
    go_ret
    exact .inr ⟨hT, rfl, hR4, unhide hK4⟩

set_option maxRecDepth 100000 in
set_option maxHeartbeats 2000000 in
theorem iadd_ng (R B g cap : Nat) (o : List Kl) (p1 p2 p3 s i m fr tu : Int) (n d : Int) (dr : Bool) (mp : Value) (w : World) (hR : RdBx w R n d dr mp (.slice (some ⟨g, 0, none⟩) (o.length + 1) cap) fr) (hO : Own w B g (o.length + 1) cap (o ++ [(p1, p2, p3)])) (hl : o.length ≤ 1000)
    (hp2 : 0 ≤ p2 ∧ p2 ≤ 10000000) (hp3 : 0 ≤ p3 ∧ p3 ≤ 10000000000000) (hC : COk (s, i, m)) (hf : 0 ≤ fr ∧ fr ≤ 10000000) (ht : 0 ≤ tu ∧ tu ≤ 10000000) (h2 : tu - fr = m) (hg : ¬ goes (p1, p2, p3) (s, i, m)) :
    Calls Tryz.prog 87 #[.pointer (some ⟨R, 0, none⟩), clV s i m, .int .i64 fr, .int .i64 tu] w (AdP R B g n d dr mp (.slice (some ⟨g, 0, none⟩) (o.length + 1) cap) fr tu (o ++ [(p1, p2, p3)] ++ [(s, i, m)]) w) := by
  have hc : decide (COk (s, i, m)) = true := by simp [hC]
  have hv := hide (show decide (goes (p1, p2, p3) (s, i, m)) = false by simp [hg])
  have kb := hide (bx_below w s i m)
  have hw : IntKind.i64.wrap (tu - fr) = m := by rw [IntKind.wrap_i64]; omega
  have hbx := alloc_new w (.cells #[.int .i64 s, .int .i64 i, .int .i64 m] 44)
  have hbR := blk_below hR (unhide kb)
  have hQ : R < w.heap.size := (Array.getElem?_eq_some_iff.1 hR).1
  obtain ⟨q, hq⟩ : ∃ q, q = o.length := ⟨_, rfl⟩
  have hO0 := hO
  rw [← hq] at hO0 hbR hl ⊢
  have hO1 := hide (ownsRow_below hO0 (unhide kb))
  have hL : IntKind.i64.wrap (((q + 1 : Nat) : Int) - 1) = (q : Int) := by rw [IntKind.wrap_i64]; omega
  have hL' : IntKind.i64.wrap ((q : Int) + 1 - 1) = (q : Int) := by rw [IntKind.wrap_i64]; omega
  have hge : decide ((q : Int) ≥ 0) = true := by simp
  have hge' : decide (0 ≤ (q : Int)) = true := by simp
  obtain ⟨L, hL0⟩ : ∃ L, L = o ++ [(p1, p2, p3)] := ⟨_, rfl⟩
  have hlg := hide (show L[q]? = some (p1, p2, p3) by rw [hL0, hq]; exact last_get o (p1, p2, p3))
  rw [← hL0] at hO0 hO1 ⊢
  clear hR hq hO hg h2 hL0
  go_enter Tryz.func87, Tryz.ntmps87
  go_wp2_with fail
  refine (iclip_any s i m true _ hc).mono ?_
  rintro e w1 ⟨rfl, k1⟩
  have k2 := hide (laterB (unhide kb) k1)
  have hR1 := blk_below hbR k1
  have hB1 := blk_below hbx k1
  obtain ⟨c0, c1, c2, c3, c4, c5⟩ := blk6 hR1
  obtain ⟨b0, b1, b2⟩ := blk3 hB1
  have hO2 := hide (ownsRow_below (unhide hO1) k1)
  obtain ⟨x0, x1, x2⟩ := own_cells (unhide hlg) (unhide hO2)
  simp only at x0 x1 x2
  clear k1 kb hc hbx hbR hO1
  have e1 : (fr != fr) = false := by simp
  have e2 : (m != m) = false := by simp
  go_wp2_with fail
  have hm1 : (0 : Int) ≤ (q : Int) := by omega
  have hm2 : (q : Int) < (q : Int) + 1 := by omega
  have hm3 : (q : Int) < ((q + 1 : Nat) : Int) := by omega
  have hgt : g < w1.heap.size := own_lt (unhide hO2)
  have hall := hide (And.intro c4 (And.intro x0 (And.intro x1 (And.intro x2 (And.intro b0 (And.intro b1 (And.intro b2 (Below.refl w1.heap.size w1))))))))
  clear c0 c1 c2 c3 c5
  go_region_held3 (fun w' => w'.cell? ⟨R, 4, none⟩ = some (.slice (some ⟨g, 0, none⟩) (q + 1) cap) ∧ w'.cell? ⟨g, q * 3, none⟩ = some (.int .i64 p1) ∧ w'.cell? ⟨g, q * 3 + 1, none⟩ = some (.int .i64 p2) ∧ w'.cell? ⟨g, q * 3 + 2, none⟩ = some (.int .i64 p3) ∧ w'.cell? ⟨w.heap.size, 0, none⟩ = some (.int .i64 s) ∧ w'.cell? ⟨w.heap.size, 1, none⟩ = some (.int .i64 i) ∧ w'.cell? ⟨w.heap.size, 2, none⟩ = some (.int .i64 m) ∧ Below w1.heap.size w1 w')
    (first | (refine keep7 ?_ hb; assumption) | (exact keep7d (unhide hall)))
    ((go_at_call 37; refine (goes_any p1 p2 p3 s i m false _ hp2 hp3 (unhide hv)).mono ?_; rintro e wz ⟨rfl, hb⟩))
  rename_i hH
  obtain ⟨C4, y1, y2, y3, bz0, bz1, bz2, yb⟩ := hH
  have kz := hide (laterB (unhide k2) yb)
  have hRz := blk_below hR1 yb
  have hOz := hide (ownsRow_below (unhide hO2) yb)
  clear y1 y2 y3 yb k2 hO2 hR1 hB1 b0 b1 b2 x0 x1 x2 c4 hall hlg hv
  go_wp2_with fail
  refine wp_region_noPanic ?_
  refine wp_region_held_drew (S := fun w' => w'.cell? ⟨R, 4, none⟩ = some (.slice (some ⟨g, 0, none⟩) (q + 1) cap) ∧ w'.cell? ⟨w.heap.size, 0, none⟩ = some (.int .i64 s) ∧ w'.cell? ⟨w.heap.size, 1, none⟩ = some (.int .i64 i) ∧ w'.cell? ⟨w.heap.size, 2, none⟩ = some (.int .i64 m)) (by kernel_rfl) ?_ (fun hH0 => ?_)
  · exact ⟨C4, bz0, bz1, bz2⟩
  refine wpAnyH_take (i := 0) (oi := { dst := some 50, op := Go.Op.move (Go.Operand.tmp 0), type := 127, pos := _, after := #[], guard := none }) (v := ?_) rfl (by kernel_rfl) (by kernel_rfl) (by kernel_rfl) (fun _ _ _ h => h) (Or.inl ⟨by rfl, ?_⟩) hH0 ?_
  rotate_left
  · (intro w hSw; (try dsimp only at hSw); go_simp <;> with_reducible rfl)
  (try simp only [Act.put, List.setIfInBounds_toArray, List.set_cons_zero, List.set_cons_succ])
  refine wpAnyH_take (i := 1) (oi := { dst := some 51, op := Go.Op.nilCheck (Go.Operand.tmp 50), type := 0, pos := _, after := #[{ on := 0, ground := Go.Ground.data }], guard := none }) (v := ?_) rfl (by kernel_rfl) (by kernel_rfl) (by kernel_rfl) (fun _ _ _ h => h) (Or.inl ⟨by rfl, ?_⟩) hH0 ?_
  rotate_left
  · (intro w hSw; (try dsimp only at hSw); go_simp <;> with_reducible rfl)
  (try simp only [Act.put, List.setIfInBounds_toArray, List.set_cons_zero, List.set_cons_succ])
  refine wpAnyH_take (i := 2) (oi := { dst := some 52, op := Go.Op.fieldAddr 98 (Go.Operand.tmp 51) 2, type := 0, pos := _, after := #[{ on := 1, ground := Go.Ground.data }], guard := none }) (v := ?_) rfl (by kernel_rfl) (by kernel_rfl) (by kernel_rfl) (fun _ _ _ h => h) (Or.inl ⟨by rfl, ?_⟩) hH0 ?_
  rotate_left
  · (intro w hSw; (try dsimp only at hSw); go_simp <;> with_reducible rfl)
  (try simp only [Act.put, List.setIfInBounds_toArray, List.set_cons_zero, List.set_cons_succ])
  refine wpAnyH_take (i := 3) (oi := { dst := some 53, op := Go.Op.load 45 (Go.Operand.tmp 52), type := 45, pos := _, after := #[{ on := 2, ground := Go.Ground.data }], guard := none }) (v := ?_) rfl (by kernel_rfl) (by kernel_rfl) (by kernel_rfl) (fun _ _ _ h => h) (Or.inl ⟨by rfl, ?_⟩) hH0 ?_
  rotate_left
  · (intro w hSw; (try dsimp only at hSw); go_simp <;> with_reducible rfl)
  (try simp only [Act.put, List.setIfInBounds_toArray, List.set_cons_zero, List.set_cons_succ])
  refine wpAnyH_take (i := 4) (oi := { dst := some 54, op := Go.Op.load 44 (Go.Operand.tmp 5), type := 44, pos := _, after := #[], guard := none }) (v := ?_) rfl (by kernel_rfl) (by kernel_rfl) (by kernel_rfl) (fun _ _ _ h => h) (Or.inl ⟨by rfl, ?_⟩) hH0 ?_
  rotate_left
  · (intro w hSw; (try dsimp only at hSw); go_simp <;> with_reducible rfl)
  (try simp only [Act.put, List.setIfInBounds_toArray, List.set_cons_zero, List.set_cons_succ])
  refine wpAnyH_ready (rs := [5]) (by kernel_rfl) (by simp) ?_
  refine AllReadyH.cons (o := { dst := some 55, op := Go.Op.buildSlice 45 1 #[(0, Go.Operand.tmp 54)], type := 45, pos := _, after := #[{ on := 4, ground := Go.Ground.data }], guard := none }) rfl (fun K hK => ?_) AllReadyH.nil
  go_simp
  refine hK.out _ _ ?_ (fun hH1 => ?_)
  · exact ⟨cell_later ((Below.refl _ _).alloc (Nat.le_refl _) _) hH0.1, cell_later ((Below.refl _ _).alloc (Nat.le_refl _) _) hH0.2.1, cell_later ((Below.refl _ _).alloc (Nat.le_refl _) _) hH0.2.2.1, cell_later ((Below.refl _ _).alloc (Nat.le_refl _) _) hH0.2.2.2⟩
  clear hK K
  (try simp only [Act.put, List.setIfInBounds_toArray, List.set_cons_zero, List.set_cons_succ])
  refine wpAnyH_ready (rs := [6]) (by kernel_rfl) (by simp) ?_
  refine AllReadyH.cons (o := { dst := some 56, op := Go.Op.call { callee := Go.Callee.builtin Go.Builtin.append, args := #[Go.Operand.tmp 53, Go.Operand.tmp 55], argTypes := #[45, 45] }, type := 45, pos := _, after := #[{ on := 3, ground := Go.Ground.data }, { on := 5, ground := Go.Ground.data }], guard := none }) rfl (fun K hK => ?_) AllReadyH.nil
  have hX : Below wz.heap.size wz (wz.drew.alloc (.cells #[.int .i64 s, .int .i64 i, .int .i64 m] 44)) := ((Below.refl wz.heap.size wz).drew).alloc (Nat.le_refl _) _
  have hOX := hide (ownsRow_below (unhide hOz) hX)
  have hRX := blk_below hRz hX
  have hne := rd_ne hRX (unhide hOX)
  have hbq : w.heap.size ≠ g := by
    intro e
    have := own_lt hO0
    omega
  refine step_k Tryz.underlying45 _ rfl _ _ rfl B g ((q + 1)) cap (L) (s, i, m) rfl (unhide hOX) wz.heap.size rfl (alloc_new wz.drew _) (by omega) (by have := own_ge hO0; have := own_lt hO0; have := (unhide kz).size; simp; omega) ?_
  intro g3 cap3 w3 h1 h2 h3
  have hg2 := h2
  obtain ⟨a1, a2, a3, a4, a5⟩ := h2
  have hcg : ∀ b q u, b ≠ g → (wz.drew.alloc (.cells #[.int .i64 s, .int .i64 i, .int .i64 m] 44)).cell? ⟨b, q, none⟩ = some u → w3.cell? ⟨b, q, none⟩ = some u := by
    intro b q u hb hu
    have hlt := World.block_lt_of_cell? _ _ hu
    have := a5 b hlt (by intro e; injection e with e; exact hb e)
    unfold World.cell? at hu ⊢
    rw [this]; exact hu
  refine hK.out _ _ ?_ (fun hH2 => ?_)
  · exact ⟨hcg _ _ _ hne hH1.1, hcg _ _ _ hbq hH1.2.1, hcg _ _ _ hbq hH1.2.2.1, hcg _ _ _ hbq hH1.2.2.2⟩
  clear hK K
  (try simp only [Act.put, List.setIfInBounds_toArray, List.set_cons_zero, List.set_cons_succ])
  refine wpAnyH_take (i := 7) (oi := { dst := some 10, op := Go.Op.assign (Go.Operand.tmp 56), type := 45, pos := _, after := #[{ on := 6, ground := Go.Ground.data }, { on := 6, ground := Go.Ground.chain }, { on := 0, ground := Go.Ground.phase }, { on := 1, ground := Go.Ground.phase }, { on := 2, ground := Go.Ground.phase }, { on := 3, ground := Go.Ground.phase }, { on := 4, ground := Go.Ground.phase }, { on := 5, ground := Go.Ground.phase }, { on := 6, ground := Go.Ground.phase }], guard := none }) (v := ?_) rfl (by kernel_rfl) (by kernel_rfl) (by kernel_rfl) (fun _ _ _ h => h) (Or.inl ⟨by rfl, ?_⟩) hH2 ?_
  rotate_left
  · (intro w hSw; (try dsimp only at hSw); go_simp <;> with_reducible rfl)
  (try simp only [Act.put, List.setIfInBounds_toArray, List.set_cons_zero, List.set_cons_succ])
  refine wpAnyH_done (by kernel_rfl) ?_ _
  refine NoPanic.normal ?_
  have hR3 : RdBx w3 R n d dr mp (.slice (some ⟨g, 0, none⟩) ((q + 1)) cap) fr := by
    show w3.heap[R]? = _
    rw [a5 R (Array.getElem?_eq_some_iff.1 hRX).1 (by intro e; injection e with e; exact hne e)]
    exact hRX
  have hg3 : R ≠ g3 := rd_ne hR3 h1
  have hL3 : ((L) ++ [(s, i, m)]).length = (q + 1) + 1 := own_len h1
  have h1' := hide h1
  have hg2' := hide hg2
  have hXw := hide (laterB (unhide kz) hX)
  have hR3' := hide hR3
  clear a1 a2 a3 a4 a5 hcg h3 hX hOX hRX hH0 hH1 hH2 hOz hRz C4 bz0 bz1 bz2 hg2 hR3 kz
  by_cases hT : TOk ((L) ++ [(s, i, m)])
  · have hTd : decide (TOk ((L) ++ [(s, i, m)])) = true := decide_eq_true hT
    go_wp2_with fail
    refine (itrack_n (some ⟨g3, 0, none⟩) cap3 ((q + 1) + 1) ((L) ++ [(s, i, m)]) true w3 hL3 (by omega) (kls_own h1) hTd).mono ?_
    rintro e w4 ⟨rfl, k4⟩
    have hR4 := blk_below (unhide hR3') k4
    have hO4 := hide (ownsRow_below (unhide h1') k4)
    have hK4 := hide (kp2_all (R := R) (unhide hXw) (unhide hg2') k4)
    obtain ⟨c0, c1, c2, c3, c4, c5⟩ := blk6 hR4
    have f4 := blk6f hR4 4
    have f5 := blk6f hR4 5
    clear k4 h1 hTd
    go_wp2
    go_ret
    refine .inl ⟨hT, rfl, g3, cap3, ?_, ?_, ?_⟩
    · first | exact put_rd hR4 | (rw [hL3]; exact put_rd hR4)
    · first | exact own_set (own_set (unhide hO4) hg3) hg3 | (rw [hL3]; exact own_set (own_set (unhide hO4) hg3) hg3)
    · exact kp2_set (kp2_set (unhide hK4))
  · have hTd : decide (TOk ((L) ++ [(s, i, m)])) = false := decide_eq_false hT
    go_wp2_with fail
    refine (itrack_n (some ⟨g3, 0, none⟩) cap3 ((q + 1) + 1) ((L) ++ [(s, i, m)]) false w3 hL3 (by omega) (kls_own h1) hTd).mono ?_
    rintro e w4 ⟨rfl, k4⟩
    have hR4 := blk_below (unhide hR3') k4
    have hK4 := hide (kp2_all (R := R) (unhide hXw) (unhide hg2') k4)
    clear k4 h1 hTd
    go_wp2
    go_ret
    exact .inr ⟨hT, rfl, hR4, unhide hK4⟩

end Go.Proofs.YtfhbmfndjbdhcaaGreatDoor
