/-
  Plain facts: frames alike at the beginning, counted by the pieces that lie in one clip of each list.
  A round of the program's count of frames alike: the region that holds a piece against what the clip shows there.
-/
import Derived.Test.YtioaehjppiodfaaGreatDoorG13
import Derived.Test.YtioaehjppiodfaaGreatDoorG12
import Derived.Laws.StructEq
namespace Go.Proofs.YtioaehjppiodfaaGreatDoor
open Go.RowKit
set_option linter.unusedVariables false
set_option linter.unusedSimpArgs false

/-- where clip x begins -/
def bgAt (l : List Kl) (x : Nat) : Int := clen (l.take x)
/-- the other list's pieces that lie at clip x -/
def pcs (l m : List Kl) (x : Nat) : List Kl := part m (bgAt l x) (bgAt l x + (kAt l x).2.2)
def ptOf (c : Kl) (f n : Int) : Kl := (c.1, if c.1 = 0 then 0 else c.2.1 + f, n)
/-- piece y at clip x is what the clip shows there -/
def Eqp (l m : List Kl) (x y : Nat) : Prop := kAt (pcs l m x) y = ptOf (kAt l x) (clen ((pcs l m x).take y)) (kAt (pcs l m x) y).2.2
def sumC (l m : List Kl) (k : Nat) : Int := ((List.range k).map (fun x => clen (pcs l m x))).sum
theorem sumC_succ (l m : List Kl) (k : Nat) : sumC l m (k + 1) = sumC l m k + clen (pcs l m k) := by
  unfold sumC; rw [List.range_succ, List.map_append, List.sum_append]; simp
theorem bgAt_succ {l : List Kl} {x : Nat} (h : x < l.length) : bgAt l (x + 1) = bgAt l x + (kAt l x).2.2 := by
  unfold bgAt; rw [clen_take (kAt_get h)]
theorem kAt_ok {l : List Kl} (h : AOk l) {x : Nat} (hx : x < l.length) : COk (kAt l x) := h _ (List.mem_of_getElem? (kAt_get hx))
theorem bgAt_nn {l : List Kl} (h : AOk l) (x : Nat) : 0 ≤ bgAt l x := clen_nonneg (h.take x)
theorem pcs_clen {l m : List Kl} (hl : AOk l) (hm : AOk m) {x : Nat} (hx : x < l.length) : clen (pcs l m x) = max 0 (min (bgAt l (x + 1)) (clen m) - bgAt l x) := by
  unfold pcs
  rw [clen_part hm, ← bgAt_succ hx]
  have := bgAt_nn hl x
  omega
theorem sumC_eq {l m : List Kl} (hl : AOk l) (hm : AOk m) {k : Nat} (hk : k ≤ l.length) : sumC l m k = min (bgAt l k) (clen m) := by
  induction k with
  | zero => have := clen_nonneg hm; simp [sumC, bgAt, clen]; omega
  | succ k ih =>
    rw [sumC_succ, ih (by omega), pcs_clen hl hm (by omega), bgAt_succ (by omega)]
    have := bgAt_nn hl k
    have := (kAt_ok hl (show k < l.length by omega)).1
    have := clen_nonneg hm
    omega
theorem piece_ex {P : List Kl} (hP : AOk P) {e : Int} (h0 : 0 ≤ e) {j : Nat} (hj : j ≤ P.length) (h1 : e < clen (P.take j)) : ∃ y, y < j ∧ clen (P.take y) ≤ e ∧ e < clen (P.take y) + (kAt P y).2.2 := by
  induction j with
  | zero => simp [clen] at h1; omega
  | succ j ih =>
    by_cases hlt : e < clen (P.take j)
    · obtain ⟨y, hy, h⟩ := ih (by omega) hlt
      exact ⟨y, by omega, h⟩
    · rw [clen_take (kAt_get (show j < P.length by omega))] at h1
      exact ⟨j, by omega, by omega, h1⟩
theorem sv_ptOf (c : Kl) (f n d : Int) : sv (ptOf c f n) d = sv c (f + d) := by
  unfold sv ptOf
  by_cases h : c.1 = 0
  · simp [h]
  · simp [h]; omega
theorem pcs_in {l m : List Kl} (hl : AOk l) (hm : AOk m) {x : Nat} (hx : x < l.length) {e : Int} (h0 : 0 ≤ e) (h1 : e < clen (pcs l m x)) : seen (pcs l m x) e = seen m (bgAt l x + e) ∧ seen l (bgAt l x + e) = sv (kAt l x) e ∧ bgAt l x + e < clen m ∧ bgAt l x + e < clen l := by
  have hc := pcs_clen hl hm hx
  have hb := bgAt_nn hl x
  have hs := bgAt_succ hx
  have hle := clen_take_le hl (x + 1)
  have hse : bgAt l (x + 1) ≤ clen l := hle
  refine ⟨?_, ?_, by omega, by omega⟩
  · have := seen_part hm (a := bgAt l x) (b := bgAt l x + (kAt l x).2.2) (i := e) h0 (by omega)
    unfold pcs
    rw [this]
    congr 1
    omega
  · exact seen_at hl (kAt_get hx) h0 (by omega)
theorem pcs_alike {l m : List Kl} (hl : AOk l) (hm : AOk m) {x j : Nat} (hx : x < l.length) (hj : j ≤ (pcs l m x).length) (h : ∀ y, y < j → Eqp l m x y) {e : Int} (h0 : 0 ≤ e) (h1 : e < clen ((pcs l m x).take j)) : seen l (bgAt l x + e) = seen m (bgAt l x + e) := by
  have hP : AOk (pcs l m x) := part_ok hm _ _
  obtain ⟨y, hy, h2, h3⟩ := piece_ex hP h0 hj h1
  have hle := clen_take_le hP j
  obtain ⟨e1, e2, _, _⟩ := pcs_in hl hm hx h0 (by omega)
  have e3 := seen_at hP (kAt_get (show y < (pcs l m x).length by omega)) (e := e - clen ((pcs l m x).take y)) (by omega) (by omega)
  have e4 : clen ((pcs l m x).take y) + (e - clen ((pcs l m x).take y)) = e := by omega
  rw [e4] at e3
  rw [← e1, e2, e3, h y hy, sv_ptOf]
  congr 1
  omega
theorem bg_pre {l m : List Kl} (hl : AOk l) (hm : AOk m) {k : Nat} (hk : k ≤ l.length) (h : ∀ x, x < k → ∀ y, y < (pcs l m x).length → Eqp l m x y) {f : Int} (h0 : 0 ≤ f) (h1 : f < min (bgAt l k) (clen m)) : seen l f = seen m f := by
  induction k with
  | zero => simp [bgAt, clen] at h1; omega
  | succ k ih =>
    by_cases hlt : f < bgAt l k
    · exact ih (by omega) (fun x hx => h x (by omega)) (by omega)
    · have hx : k < l.length := by omega
      have hc := pcs_clen hl hm hx
      have := pcs_alike hl hm hx (Nat.le_refl _) (h k (by omega)) (e := f - bgAt l k) (by omega) (by rw [List.take_length]; omega)
      have e4 : bgAt l k + (f - bgAt l k) = f := by omega
      rwa [e4] at this
theorem bg_done {l m : List Kl} (hl : AOk l) (hm : AOk m) (h : ∀ x, x < l.length → ∀ y, y < (pcs l m x).length → Eqp l m x y) : IsPfx l m (min (clen l) (clen m)) (sumC l m l.length) := by
  have hs := sumC_eq hl hm (Nat.le_refl l.length)
  have hb : bgAt l l.length = clen l := by unfold bgAt; rw [List.take_length]
  rw [hs, hb]
  have := clen_nonneg hl
  have := clen_nonneg hm
  exact ⟨by omega, by omega, fun i h0 h1 => bg_pre hl hm (Nat.le_refl _) h h0 (by rw [hb]; exact h1), fun hlt => by omega⟩
theorem bg_stop {l m : List Kl} (hl : AOk l) (hm : AOk m) {k j : Nat} (hk : k < l.length) (h : ∀ x, x < k → ∀ y, y < (pcs l m x).length → Eqp l m x y) (hj : j < (pcs l m k).length) (h2 : ∀ y, y < j → Eqp l m k y) (h3 : ¬ Eqp l m k j) :
    IsPfx l m (min (clen l) (clen m)) (sumC l m k + clen ((pcs l m k).take j)) := by
  have hP : AOk (pcs l m k) := part_ok hm _ _
  have hs := sumC_eq hl hm (show k ≤ l.length by omega)
  have hc := pcs_clen hl hm hk
  have hp := kAt_ok hP hj
  have ht := clen_take (kAt_get hj)
  have hle := clen_take_le hP (j + 1)
  have t0 := clen_nonneg (hP.take j)
  have b0 := bgAt_nn hl k
  have hp1 := hp.1
  have hpos : clen ((pcs l m k).take j) < clen (pcs l m k) := by omega
  obtain ⟨e1, e2, e3, e4⟩ := pcs_in hl hm hk t0 hpos
  have hsum : sumC l m k = bgAt l k := by omega
  rw [hsum]
  refine ⟨by omega, by omega, fun i i0 i1 => ?_, fun _ => ?_⟩
  · by_cases hlt : i < bgAt l k
    · exact bg_pre hl hm (by omega) h i0 (by omega)
    · have := pcs_alike hl hm hk (show j ≤ _ by omega) h2 (e := i - bgAt l k) (by omega) (by omega)
      have e5 : bgAt l k + (i - bgAt l k) = i := by omega
      rwa [e5] at this
  · have e5 := seen_at hP (kAt_get hj) (e := 0) (by omega) (by omega)
    rw [Int.add_zero] at e5
    rw [← e1, e2, e5]
    intro hc
    apply h3
    have hcl := kAt_ok hl hk
    have q0 : 0 ≤ (kAt l k).1 := by rcases hcl.2.2.2.2 with h | h <;> omega
    have q1 : 0 ≤ (kAt (pcs l m k) j).1 := by rcases hp.2.2.2.2 with h | h <;> omega
    have hx := Classical.not_not.1 (fun hn => sv_not (x := clen ((pcs l m k).take j)) (y := 0) q0 q1 hn hc)
    obtain ⟨s1, s2⟩ := hx
    unfold Eqp ptOf
    generalize hP9 : kAt (pcs l m k) j = P9 at *
    obtain ⟨p1, p2, p3⟩ := P9
    simp only at *
    by_cases hz : (kAt l k).1 = 0
    · have : p1 = 0 := by omega
      have : p2 = 0 := by rcases hp.2.2.2.2 with h | h <;> simp only at h <;> omega
      rw [if_pos hz]
      simp [*]
    · rw [if_neg hz, ← s1]
      have : p2 = (kAt l k).2.1 + clen ((pcs l m k).take j) := by rcases s2 with h | h <;> omega
      rw [this]

end Go.Proofs.YtioaehjppiodfaaGreatDoor

namespace Go.Proofs.YtioaehjppiodfaaGreatDoor
open Go.RowKit Go.Shelf
set_option linter.unusedVariables false
set_option linter.unusedSimpArgs false

set_option maxRecDepth 100000 in
set_option maxHeartbeats 4000000 in
theorem bg_cmp {Q : Exit → Act → World → Prop} {l1 m : Nat} {u0 u1 u2 u3 u4 u5 u6 u10 u11 u12 u13 u14 u15 u16 u17 u18 u19 u20 u21 u22 u23 u24 u25 u26 u27 u28 u29 u30 u31 u32 u33 u34 u35 u36 u37 : Value} {W : World} {Px Cx : Nat} {p1 p2 p3 c1 c2 c3 fr vv : Int} {v : Bool} (hQo : ∀ a w, ¬ Q .outgrown a w) (hQp : ∀ c a a' w, Q (.panic c) a w → Q (.panic c) a' w)
    (hP : W.heap[Px]? = some (.cells #[.int .i64 p1, .int .i64 p2, .int .i64 p3] 94 (0, 0))) (hC : W.heap[Cx]? = some (.cells #[.int .i64 c1, .int .i64 c2, .int .i64 c3] 94 (0, 0))) (hvv : (if c1 = 0 then 0 else c2 + fr) = vv) (hv : (!(p1 == c1 && (p2 == vv && p3 == p3))) = v)
    (b1 : 0 ≤ c2 ∧ c2 ≤ 10000000) (b2 : 0 ≤ fr) (b3 : 0 ≤ p3) (b4 : fr + p3 ≤ 10000000)
    (hQ : ∀ w5, Below W.heap.size W w5 → Q .normal { tmps := #[u0, u1, u2, u3, u4, u5, u6, .pointer (some ⟨Cx, 0, none⟩), .int .i64 fr, .pointer (some ⟨Px, 0, none⟩), u10, u11, u12, u13, u14, u15, u16, u17, u18, u19, u20, u21, u22, u23, .agg #[.int .i64 p1, .int .i64 p2, .int .i64 p3], .agg #[.int .i64 c1, .int .i64 c2, .int .i64 c3], .int .i64 fr, .int .i64 fr, .pointer (some ⟨Px, 2, none⟩), .int .i64 p3, .int .i64 (fr + p3), .agg #[.int .i64 c1, .int .i64 vv, .int .i64 p3], .bool v, u33, u34, u35, u36, u37], defers := [] } w5) :
    (Code.region 8 #[{ dst := some 24, op := Go.Op.load 94 (Go.Operand.tmp 9), type := 94, pos := "l05_change.go:178", after := #[], guard := none }, { dst := some 25, op := Go.Op.load 94 (Go.Operand.tmp 7), type := 94, pos := "l05_change.go:178", after := #[], guard := none }, { dst := some 26, op := Go.Op.move (Go.Operand.tmp 8), type := 2, pos := "l05_change.go:178", after := #[], guard := none }, { dst := some 27, op := Go.Op.move (Go.Operand.tmp 8), type := 2, pos := "l05_change.go:178", after := #[], guard := none }, { dst := some 28, op := Go.Op.fieldAddr 94 (Go.Operand.tmp 9) 2, type := 0, pos := "l05_change.go:178", after := #[], guard := none }, { dst := some 29, op := Go.Op.load 2 (Go.Operand.tmp 28), type := 2, pos := "l05_change.go:178", after := #[{ on := 4, ground := Go.Ground.data }], guard := none }, { dst := some 30, op := Go.Op.binOp Go.BinOp.add 2 (Go.Operand.tmp 27) (Go.Operand.tmp 29) 2, type := 2, pos := "l05_change.go:178", after := #[{ on := 3, ground := Go.Ground.data }, { on := 5, ground := Go.Ground.data }], guard := none }, { dst := some 31, op := Go.Op.call { callee := Go.Callee.value (Go.Operand.func 133), args := #[Go.Operand.tmp 25, Go.Operand.tmp 26, Go.Operand.tmp 30], argTypes := #[94, 2, 2] }, type := 94, pos := "l05_change.go:178", after := #[{ on := 1, ground := Go.Ground.data }, { on := 2, ground := Go.Ground.data }, { on := 6, ground := Go.Ground.data }], guard := none }, { dst := some 32, op := Go.Op.binOp Go.BinOp.neq 94 (Go.Operand.tmp 24) (Go.Operand.tmp 31) 94, type := 4, pos := "l05_change.go:178", after := #[{ on := 0, ground := Go.Ground.data }, { on := 7, ground := Go.Ground.data }], guard := none }] true).wpIn (Fence.wide.inRound l1) m Tryz.prog Q { tmps := #[u0, u1, u2, u3, u4, u5, u6, .pointer (some ⟨Cx, 0, none⟩), .int .i64 fr, .pointer (some ⟨Px, 0, none⟩), u10, u11, u12, u13, u14, u15, u16, u17, u18, u19, u20, u21, u22, u23, u24, u25, u26, u27, u28, u29, u30, u31, u32, u33, u34, u35, u36, u37], defers := [] } W := by
  obtain ⟨a0, a1, a2⟩ := blk3' hP
  obtain ⟨d0, d1, d2⟩ := blk3' hC
  have hwr : IntKind.i64.wrap (fr + p3) = fr + p3 := by rw [IntKind.wrap_i64]; omega
  have e9 : fr + p3 - fr = p3 := by omega
  have hvv' := hide hvv
  clear hvv hP hC
  refine wpIn_region_heldR (S := fun w' => w'.cell? ⟨Px, 0, none⟩ = some (.int .i64 p1) ∧ w'.cell? ⟨Px, 1, none⟩ = some (.int .i64 p2) ∧ w'.cell? ⟨Px, 2, none⟩ = some (.int .i64 p3) ∧ w'.cell? ⟨Cx, 0, none⟩ = some (.int .i64 c1) ∧ w'.cell? ⟨Cx, 1, none⟩ = some (.int .i64 c2) ∧ w'.cell? ⟨Cx, 2, none⟩ = some (.int .i64 c3)) (by kernel_rfl) (by kernel_rfl) hQo ?_ (fun hH0 => ?_)
  · exact ⟨a0, a1, a2, d0, d1, d2⟩
  refine wpAnyH_take (i := 0) (oi := { dst := some 24, op := Go.Op.load 94 (Go.Operand.tmp 9), type := 94, pos := _, after := #[], guard := none }) (v := ?_) rfl (by kernel_rfl) (by kernel_rfl) (by kernel_rfl) (fun _ _ _ h => hQp _ _ _ _ h) (Or.inl ⟨by rfl, ?_⟩) hH0 ?_
  rotate_left
  · (intro w hSw; (try dsimp only at hSw); go_simp <;> with_reducible rfl)
  (try simp only [Act.put, List.setIfInBounds_toArray, List.set_cons_zero, List.set_cons_succ])
  refine wpAnyH_take (i := 1) (oi := { dst := some 25, op := Go.Op.load 94 (Go.Operand.tmp 7), type := 94, pos := _, after := #[], guard := none }) (v := ?_) rfl (by kernel_rfl) (by kernel_rfl) (by kernel_rfl) (fun _ _ _ h => hQp _ _ _ _ h) (Or.inl ⟨by rfl, ?_⟩) hH0 ?_
  rotate_left
  · (intro w hSw; (try dsimp only at hSw); go_simp <;> with_reducible rfl)
  (try simp only [Act.put, List.setIfInBounds_toArray, List.set_cons_zero, List.set_cons_succ])
  refine wpAnyH_take (i := 2) (oi := { dst := some 26, op := Go.Op.move (Go.Operand.tmp 8), type := 2, pos := _, after := #[], guard := none }) (v := ?_) rfl (by kernel_rfl) (by kernel_rfl) (by kernel_rfl) (fun _ _ _ h => hQp _ _ _ _ h) (Or.inl ⟨by rfl, ?_⟩) hH0 ?_
  rotate_left
  · (intro w hSw; (try dsimp only at hSw); go_simp <;> with_reducible rfl)
  (try simp only [Act.put, List.setIfInBounds_toArray, List.set_cons_zero, List.set_cons_succ])
  refine wpAnyH_take (i := 3) (oi := { dst := some 27, op := Go.Op.move (Go.Operand.tmp 8), type := 2, pos := _, after := #[], guard := none }) (v := ?_) rfl (by kernel_rfl) (by kernel_rfl) (by kernel_rfl) (fun _ _ _ h => hQp _ _ _ _ h) (Or.inl ⟨by rfl, ?_⟩) hH0 ?_
  rotate_left
  · (intro w hSw; (try dsimp only at hSw); go_simp <;> with_reducible rfl)
  (try simp only [Act.put, List.setIfInBounds_toArray, List.set_cons_zero, List.set_cons_succ])
  refine wpAnyH_take (i := 4) (oi := { dst := some 28, op := Go.Op.fieldAddr 94 (Go.Operand.tmp 9) 2, type := 0, pos := _, after := #[], guard := none }) (v := ?_) rfl (by kernel_rfl) (by kernel_rfl) (by kernel_rfl) (fun _ _ _ h => hQp _ _ _ _ h) (Or.inl ⟨by rfl, ?_⟩) hH0 ?_
  rotate_left
  · (intro w hSw; (try dsimp only at hSw); go_simp <;> with_reducible rfl)
  (try simp only [Act.put, List.setIfInBounds_toArray, List.set_cons_zero, List.set_cons_succ])
  refine wpAnyH_take (i := 5) (oi := { dst := some 29, op := Go.Op.load 2 (Go.Operand.tmp 28), type := 2, pos := _, after := #[{ on := 4, ground := Go.Ground.data }], guard := none }) (v := ?_) rfl (by kernel_rfl) (by kernel_rfl) (by kernel_rfl) (fun _ _ _ h => hQp _ _ _ _ h) (Or.inl ⟨by rfl, ?_⟩) hH0 ?_
  rotate_left
  · (intro w hSw; (try dsimp only at hSw); go_simp <;> with_reducible rfl)
  (try simp only [Act.put, List.setIfInBounds_toArray, List.set_cons_zero, List.set_cons_succ])
  refine wpAnyH_take (i := 6) (oi := { dst := some 30, op := Go.Op.binOp Go.BinOp.add 2 (Go.Operand.tmp 27) (Go.Operand.tmp 29) 2, type := 2, pos := _, after := #[{ on := 3, ground := Go.Ground.data }, { on := 5, ground := Go.Ground.data }], guard := none }) (v := ?_) rfl (by kernel_rfl) (by kernel_rfl) (by kernel_rfl) (fun _ _ _ h => hQp _ _ _ _ h) (Or.inl ⟨by rfl, ?_⟩) hH0 ?_
  rotate_left
  · (intro w hSw; (try dsimp only at hSw); go_simp <;> with_reducible rfl)
  (try simp only [Act.put, List.setIfInBounds_toArray, List.set_cons_zero, List.set_cons_succ])
  refine wpAnyH_ready (rs := [7]) (by kernel_rfl) (by simp) ?_
  refine AllReadyH.cons (o := { dst := some 31, op := Go.Op.call { callee := Go.Callee.value (Go.Operand.func 133), args := #[Go.Operand.tmp 25, Go.Operand.tmp 26, Go.Operand.tmp 30], argTypes := #[94, 2, 2] }, type := 94, pos := _, after := #[{ on := 1, ground := Go.Ground.data }, { on := 2, ground := Go.Ground.data }, { on := 6, ground := Go.Ground.data }], guard := none }) rfl (fun K hK => ?_) AllReadyH.nil
  go_simp
  refine (partOf_any c1 c2 c3 fr (fr + p3) vv _ (unhide hvv') ⟨by omega, by omega⟩ ⟨by omega, by omega⟩ ⟨by omega, by omega⟩).mono ?_
  rintro e w3 ⟨rfl, k3⟩
  rw [e9]
  refine hK.out _ _ ?_ (fun hH1 => ?_)
  · exact ⟨cell_later k3 hH0.1, cell_later k3 hH0.2.1, cell_later k3 hH0.2.2.1, cell_later k3 hH0.2.2.2.1, cell_later k3 hH0.2.2.2.2.1, cell_later k3 hH0.2.2.2.2.2⟩
  clear hK K
  (try simp only [Act.put, List.setIfInBounds_toArray, List.set_cons_zero, List.set_cons_succ])
  refine wpAnyH_take (i := 8) (oi := { dst := some 32, op := Go.Op.binOp Go.BinOp.neq 94 (Go.Operand.tmp 24) (Go.Operand.tmp 31) 94, type := 4, pos := _, after := #[{ on := 0, ground := Go.Ground.data }, { on := 7, ground := Go.Ground.data }], guard := none }) (v := .bool v) rfl (by kernel_rfl) (by kernel_rfl) (by kernel_rfl) (fun _ _ _ h => hQp _ _ _ _ h) (Or.inl ⟨by rfl, ?_⟩) hH1 ?_
  · (intro w hSw; (try dsimp only at hSw); rw [← hv]; go_simp; by_cases h1 : p1 = c1 <;> by_cases h2 : p2 = vv <;> simp [h1, h2])
  (try simp only [Act.put, List.setIfInBounds_toArray, List.set_cons_zero, List.set_cons_succ])
  refine wpAnyH_done (by kernel_rfl) ?_ _
  exact hQ _ (below_undrew k3)

end Go.Proofs.YtioaehjppiodfaaGreatDoor
