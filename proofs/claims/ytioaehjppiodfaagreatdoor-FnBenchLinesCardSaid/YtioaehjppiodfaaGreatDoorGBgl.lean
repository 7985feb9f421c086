/-
  The program's count of frames that are alike at the beginning of two lists: its contract.
-/
import Derived.Test.YtioaehjppiodfaaGreatDoorGBgC
import Derived.Test.YtioaehjppiodfaaGreatDoorGPt2
import Derived.Scope
namespace Go.Proofs.YtioaehjppiodfaaGreatDoor
open Go.RowKit Go.Shelf
set_option linter.unusedVariables false
set_option linter.unusedSimpArgs false
attribute [local go_sem] Oper.semAt_some

def sumX (l m : List Kl) (pre : List (Fin l.length)) : Int := (pre.map (fun x => clen (pcs l m x.1))).sum
theorem sumX_snoc (l m : List Kl) (pre : List (Fin l.length)) (x : Fin l.length) : sumX l m (pre ++ [x]) = sumX l m pre + clen (pcs l m x.1) := by
  unfold sumX; rw [List.map_append, List.sum_append]; simp
theorem sumX_take {l m : List Kl} {k : Nat} (hk : k ≤ l.length) : sumX l m ((List.finRange l.length).take k) = sumC l m k := by
  induction k with
  | zero => simp [sumX, sumC]
  | succ k ih => rw [fin_take (by omega), sumX_snoc, ih (by omega), sumC_succ]
def sumY (P : List Kl) (pre : List (Fin P.length)) : Int := (pre.map (fun y => (kAt P y.1).2.2)).sum
theorem sumY_snoc (P : List Kl) (pre : List (Fin P.length)) (y : Fin P.length) : sumY P (pre ++ [y]) = sumY P pre + (kAt P y.1).2.2 := by
  unfold sumY; rw [List.map_append, List.sum_append]; simp
theorem sumY_take {P : List Kl} {k : Nat} (hk : k ≤ P.length) : sumY P ((List.finRange P.length).take k) = clen (P.take k) := by
  induction k with
  | zero => simp [sumY, clen]
  | succ k ih => rw [fin_take (by omega), sumY_snoc, ih (by omega), clen_take (kAt_get (by omega))]
theorem sumX_bd {l m : List Kl} (hl : AOk l) (hm : AOk m) (pre : List (Fin l.length)) : 0 ≤ sumX l m pre ∧ sumX l m pre ≤ pre.length * 10000000 := by
  induction pre with
  | nil => simp [sumX]
  | cons x p ih =>
    have h1 := pcs_clen hl hm x.2
    have h2 := bgAt_succ x.2
    have h3 := (kAt_ok hl x.2).2.1
    have h4 := (kAt_ok hl x.2).1
    have : sumX l m (x :: p) = clen (pcs l m x.1) + sumX l m p := by simp [sumX]
    rw [this, List.length_cons]
    omega
theorem sumY_bd {P : List Kl} (hP : AOk P) (pre : List (Fin P.length)) : 0 ≤ sumY P pre ∧ sumY P pre ≤ pre.length * 10000000 := by
  induction pre with
  | nil => simp [sumY]
  | cons x p ih =>
    have h3 := (kAt_ok hP x.2).2.1
    have h4 := (kAt_ok hP x.2).1
    have : sumY P (x :: p) = (kAt P x.1).2.2 + sumY P p := by simp [sumY]
    rw [this, List.length_cons]
    omega
theorem fin_mem' {n k j : Nat} (hk : k ≤ n) (hj : j < k) : (⟨j, by omega⟩ : Fin n) ∈ (List.finRange n).take k := by
  rw [List.mem_take_iff_getElem]
  exact ⟨j, by simp; omega, by simp⟩
theorem turn_of {B : Nat} {X : World} {row : Option Nat} (h : ∀ r, row = some r → B ≤ r ∧ ∃ o : Obj, X.heap[r]? = some o ∧ o.isCells = false) : TurnOk B B X row := fun k e => .inr (h k e)
theorem keepX_own {A B : Nat} {w X Y : World} {row : Option Nat} (h : KeepX A A w X) (hB : w.heap.size ≤ B) (hg : X.grownBy Y row) (hr : ∀ r, row = some r → B ≤ r ∧ ∃ o : Obj, X.heap[r]? = some o ∧ o.isCells = false) : KeepX A A w Y :=
  ⟨Nat.le_trans h.1 hg.size, fun k o hk hc h1 h2 => by
    have hX := h.2 k o hk hc h1 h2
    refine (hg.block k (Array.getElem?_eq_some_iff.1 hX).1 (fun e => ?_)).trans hX
    obtain ⟨h3, _⟩ := hr k e.symm
    have := (Array.getElem?_eq_some_iff.1 hk).1
    omega⟩

set_option maxRecDepth 100000 in
set_option maxHeartbeats 12800000 in
theorem begins_any (a b : Option Addr) (ca cb : Nat) (l m : List Kl) (w : World) (hT : TOk l) (hU : TOk m) (hk : Kls w a l) (hkm : Kls w b m) :
    Calls Tryz.prog 114 #[.slice a l.length ca, .slice b m.length cb] w fun e w' => ∃ n, e = .returned (.int .i64 n) ∧ IsPfx l m (min (clen l) (clen m)) n ∧ Below w.heap.size w w' := by
  have hk' := hide hk
  have hkm' := hide hkm
  have hT' := hide hT
  have hU' := hide hU
  have hlT : l.length ≤ 300 := hT.1
  have hlU : m.length ≤ 300 := hU.1
  have hA := hide hT.2.1
  have hB := hide hU.2.1
  have hcl := hT.2.2
  clear hk hkm hT hU
  refine (callsIn_wide (n := 6)).1 ?_
  refine callsIn_of_wp_marks Tryz.func114 rfl trivial ?_ rfl
  simp only [Tryz.ntmps114, List.size_toArray, List.length_cons, List.length_nil, Nat.reduceAdd, Nat.reduceSub, Array.replicate_succ, Array.replicate_zero, List.push_toArray, List.append_toArray, List.nil_append, List.cons_append]
  refine wpIn_wide.2 ?_
  go_wp2_with fail
  refine wp_scope_straight ?_
  go_wp2_with fail
  refine wp_label ?_
  go_wp2_with fail
  refine (placed_any a l.length ca _).mono ?_
  rintro e w2 ⟨rfl, rfl⟩
  go_wp2_with fail
  obtain ⟨Ob, hOb⟩ : ∃ Ob, Ob = w.heap.size := ⟨_, rfl⟩
  obtain ⟨Al, hAl⟩ : ∃ Al, Al = w.heap.size + 1 := ⟨_, rfl⟩
  obtain ⟨Bs, hBs⟩ : ∃ Bs, Bs = w.heap.size + 1 + 1 := ⟨_, rfl⟩
  obtain ⟨W0, hW0⟩ : ∃ W0, ((w.alloc (.cells #[.slice b m.length cb] 78)).alloc (.cells #[.int .i64 0] 2)).alloc (.cells #[.slice a l.length ca] 78) = W0 := ⟨_, rfl⟩
  have hz0 : W0.heap.size = w.heap.size + 3 := by rw [← hW0]; simp
  have iB0 : Below w.heap.size w W0 := by rw [← hW0]; exact (((Below.refl _ w).alloc (Nat.le_refl _) _).alloc (by simp) _).alloc (by simp; omega) _
  have iO0 : Boxed W0 Ob 78 (.slice b m.length cb) := by
    rw [← hW0, hOb]
    exact ((Boxed.new w 78 (.slice b m.length cb)).alloc _).alloc _
  have iA0 : Boxed W0 Al 2 (.int .i64 0) := by
    rw [← hW0, hAl]
    have := Boxed.new (w.alloc (.cells #[.slice b m.length cb] 78)) 2 (.int .i64 0)
    rw [World.size_alloc] at this
    exact this.alloc _
  have iS0 : Boxed W0 Bs 78 (.slice a l.length ca) := by
    rw [← hW0, hBs]
    have := Boxed.new ((w.alloc (.cells #[.slice b m.length cb] 78)).alloc (.cells #[.int .i64 0] 2)) 78 (.slice a l.length ca)
    rw [World.size_alloc, World.size_alloc] at this
    exact this
  rw [hW0, ← hBs, ← hAl, ← hOb]
  have hAW : Al < W0.heap.size := by omega
  have hOW : Ob < W0.heap.size := by omega
  have hBW : Bs < W0.heap.size := by omega
  have hOA : Ob < Al := by omega
  have hsO : w.heap.size ≤ Ob := by omega
  have hW3 : w.heap.size + 3 ≤ W0.heap.size := by omega
  have hAs : w.heap.size < Al := by omega
  have hklX : KlsX Al W0 a l := ⟨(unhide hk').below iB0, fun hl0 b' o' e => by
    cases hll : l with
    | nil => exact absurd hll hl0
    | cons c l' =>
      obtain ⟨b2, o2, e2, h2, _⟩ := unhide hk' 0 c (by rw [hll]; rfl)
      rw [e] at e2
      injection e2 with e2
      injection e2 with e2 _ _
      omega⟩
  generalize hs0e : w.heap.size = s0 at *
  clear hOb hAl hBs hz0 hW0
  refine (wpIn_wide (n := 6)).1 ?_
  refine wpIn_rangeFunc_ownH (F := Fence.wide) (w := W0) rfl (by omega) (gf := 152) (lb := #[.pointer (some ⟨Bs, 0, none⟩)]) rfl trivial (enters_of Tryz.func152 (by kernel_rfl) rfl)
    (placed_stops 5 Al Bs a ca l hlT (unhide hA) W0 hklX hAW hBW iS0.cell) (fun h k => KeepX.trans h k) keepX_b (Below.refl _ _) (fun _ => rfl)
    (fun pre W => Boxed W Al 2 (.int .i64 (sumX l m pre)) ∧ Boxed W Ob 78 (.slice b m.length cb) ∧ Below s0 w W ∧ ∀ x ∈ pre, ∀ y, y < (pcs l m x.1).length → Eqp l m x.1 y)
    (fun c pre W => c = .exit 0 ∧ (∃ ini x j, pre = ini ++ [x] ∧ (∀ x' ∈ ini, ∀ y, y < (pcs l m x'.1).length → Eqp l m x'.1 y) ∧ j < (pcs l m x.1).length ∧ (∀ y, y < j → Eqp l m x.1 y) ∧ ¬ Eqp l m x.1 j ∧ Boxed W Al 2 (.int .i64 (sumX l m ini + clen ((pcs l m x.1).take j)))) ∧ Below s0 w W)
    (fun s X Y row h hg hr => ⟨boxed_ab h.1 hg (turn_of hr) (by omega), boxed_ab h.2.1 hg (turn_of hr) (by omega), below_ab h.2.2.1 (by omega) hg (turn_of hr) (by omega) (by omega), h.2.2.2⟩)
    (fun c s X Y row h hg hr => by
      obtain ⟨h1, ⟨ini, x, j, e1, e2, e3, e4, e5, e6⟩, h3⟩ := h
      exact ⟨h1, ⟨ini, x, j, e1, e2, e3, e4, e5, boxed_ab e6 hg (turn_of hr) (by omega)⟩, below_ab h3 (by omega) hg (turn_of hr) (by omega) (by omega)⟩)
    ⟨by simpa [sumX] using iA0, iO0, iB0, by simp⟩
    (fun x a' W => ∃ Cx, Al < Cx ∧ W.heap[Cx]? = some (.cells #[.int .i64 (kAt l x.1).1, .int .i64 (kAt l x.1).2.1, .int .i64 (kAt l x.1).2.2] 94 (0, 0)) ∧ a' = { tmps := #[.slice a l.length ca, .slice b m.length cb, undef, .pointer (some ⟨Ob, 0, none⟩), .int .i64 0, .pointer (some ⟨Al, 0, none⟩), .int .i64 (clen (l.take x.1)), .pointer (some ⟨Cx, 0, none⟩), undef, undef, .slice a l.length ca, .func (.func 152) #[] #[.pointer (some ⟨Bs, 0, none⟩)], .int .i64 (clen (l.take x.1)), .agg #[.int .i64 (kAt l x.1).1, .int .i64 (kAt l x.1).2.1, .int .i64 (kAt l x.1).2.2], undef, undef, undef, undef, undef, undef, undef, undef, undef, undef, undef, undef, undef, undef, undef, undef, undef, undef, undef, undef, undef, undef, undef, undef], defers := [] })
    (fun x a' s X Y row h hg hr => by obtain ⟨Cx, e1, e2, e3⟩ := h; exact ⟨Cx, e1, blk_ab (b := Al) e2 rfl hg (fun k e => .inr (hr k e)) (by omega), e3⟩)
    ?assign ?body ?done ?stop
  case assign =>
    rintro l1 pre x W K ⟨i1, i2, i3, i4⟩ hK
    obtain ⟨⟨c1, c2, c3⟩, hc⟩ : ∃ c, kAt l x.1 = c := ⟨_, rfl⟩
    have hMl := i1.lt
    have hK' := hide hK
    have i1' := hide i1
    have i2' := hide i2
    have i4' := hide i4
    simp only [plv, hc]
    rw [hc] at hK'
    simp only at hK'
    clear hK i1 i2 i4 hc
    generalize clen (l.take x.1) = at0 at *
    gi_wp2
    exact unhide hK' _ _ ((KeepsOthers.alloc _ _).from _) (keepX_alloc _ _) ⟨(unhide i1').alloc _, (unhide i2').alloc _, i3.alloc (by have := i3.size; omega) _, unhide i4'⟩ ⟨W.heap.size, hMl, World.alloc_heap_new W _, rfl⟩
  case body =>
    rintro l1 pre x a' W hl1 ⟨r, hr⟩ ⟨iA, iO, iB, iG⟩ ⟨Cx, hCx, hblk, rfl⟩ hlt
    have hcx := kAt_ok (unhide hA) x.2
    have hsx := bgAt_succ x.2
    have hle : bgAt l (x.1 + 1) ≤ clen l := clen_take_le (unhide hA) (x.1 + 1)
    have hb0 := bgAt_nn (unhide hA) x.1
    have hpc := pcs_clen (unhide hA) (unhide hB) x.2
    obtain ⟨⟨c1, c2, c3⟩, hc⟩ : ∃ c, kAt l x.1 = c := ⟨_, rfl⟩
    obtain ⟨at0, hat⟩ : ∃ at0, at0 = clen (l.take x.1) := ⟨_, rfl⟩
    have hbat : bgAt l x.1 = at0 := hat.symm
    have hpd : pcs l m x.1 = part m at0 (at0 + c3) := by unfold pcs; rw [hbat, hc]
    rw [hc] at hcx hsx hblk
    rw [← hat, hc]
    rw [hbat] at hsx hb0 hpc
    simp only at hsx hblk
    obtain ⟨u1, u2, u3, u4, u5⟩ := hcx
    simp only at u1 u2 u3 u4 u5
    have hs := sumX_bd (unhide hA) (unhide hB) pre
    obtain ⟨base, hbase⟩ : ∃ base, base = sumX l m pre := ⟨_, rfl⟩
    rw [← hbase] at iA hs
    have cO := iO.cell
    obtain ⟨d0, d1, d2⟩ := blk3' hblk
    have hrl : l1 < W.heap.size := (Array.getElem?_eq_some_iff.1 hr).1
    have hCl : Cx < W.heap.size := (Array.getElem?_eq_some_iff.1 hblk).1
    have hsW := iB.size
    have hAWl := iA.lt
    have hOWl := iO.lt
    have iA' := hide iA
    have iO' := hide iO
    have iB' := hide iB
    have iG' := hide iG
    have hblk' := hide hblk
    have hr2 := hide hr
    have hkw := hide ((unhide hkm').below (by rw [hs0e]; exact iB))
    have hc' := hide hc
    have hat' := hide hat
    have hbase' := hide hbase
    have hcm := (unhide hU').2.2
    have hcm0 := clen_nonneg (unhide hB)
    clear iA iO iB iG hblk hr hc hat hbase hbat
    gi_wp2_with fail
    refine ⟨trivial, CallsIn.mono (CallsIn.inRound l1 (callsIn_wide.2 (ipart_any b cb m at0 (at0 + c3) W (unhide hU') ⟨by omega, by omega⟩ ⟨by omega, by omega⟩ (unhide hkw)))) ?_⟩
    rintro e w1 ⟨g1, cp, rfl, q1, n1, k1⟩
    rw [← hpd] at n1 ⊢
    have hPl : (pcs l m x.1).length ≤ 300 := by rw [hpd]; exact Nat.le_trans (part_len _ _ _) hlU
    have hPok : AOk (pcs l m x.1) := by rw [hpd]; exact part_ok (unhide hB) _ _
    have hpd' := hide hpd
    clear hpd
    obtain ⟨P, hP⟩ : ∃ P, P = pcs l m x.1 := ⟨_, rfl⟩
    rw [← hP] at n1 hPl hPok hpc ⊢
    have n1' := hide n1
    have k1' := hide k1
    have hP' := hide hP
    have hPok' := hide hPok
    clear n1 k1 hP hPok
    gi_wp2_with fail
    refine ⟨trivial, CallsIn.mono (CallsIn.inRound l1 (callsIn_wide.2 (placed_any (some ⟨g1, 0, none⟩) P.length cp _))) ?_⟩
    rintro e w2 ⟨rfl, rfl⟩
    gi_wp2_with fail
    have kA := (Below.refl w1.heap.size w1).alloc (Nat.le_refl _) (.cells #[.slice (some ⟨g1, 0, none⟩) P.length cp] 78)
    have kW : Below W.heap.size W (w1.alloc (.cells #[.slice (some ⟨g1, 0, none⟩) P.length cp] 78)) := laterB (unhide k1') kA
    have hg1 := own_lt (unhide n1')
    have hgW : W.heap.size ≤ g1 := q1
    have hz2 : (w1.alloc (.cells #[.slice (some ⟨g1, 0, none⟩) P.length cp] 78)).heap.size = w1.heap.size + 1 := by simp
    have bS2 := Boxed.new w1 78 (.slice (some ⟨g1, 0, none⟩) P.length cp)
    have kls2 : KlsX Al (w1.alloc (.cells #[.slice (some ⟨g1, 0, none⟩) P.length cp] 78)) (some ⟨g1, 0, none⟩) P := ⟨(kls_own (unhide n1')).below kA, fun _ b' o' e => by injection e with e; injection e with e _ _; omega⟩
    have hw1 := (unhide k1').size
    generalize w1.alloc (.cells #[.slice (some ⟨g1, 0, none⟩) P.length cp] 78) = W2 at *
    generalize hB2 : w1.heap.size = B2 at *
    have hW2 : W.heap.size < W2.heap.size := by omega
    have hB2l : B2 < W2.heap.size := by omega
    clear hz2 kA
    refine wpIn_rangeFunc_ownN (F := Fence.wide.inRound l1) (w := W2) (l₀ := l1) (r₀ := r) rfl ((kW.block l1 hrl).trans (unhide hr2)) (by omega) (gf := 152) (lb := #[.pointer (some ⟨B2, 0, none⟩)]) rfl trivial (enters_of Tryz.func152 (by kernel_rfl) rfl)
      ((placed_stops 3 Al B2 (some ⟨g1, 0, none⟩) cp P hPl (unhide hPok') W2 kls2 (by omega) hB2l bS2.cell).inRound l1) (fun h k => KeepX.trans h k) keepX_b (Below.refl _ _) (fun _ => rfl)
      (fun pre' W' => Boxed W' Al 2 (.int .i64 (base + sumY P pre')) ∧ Boxed W' Ob 78 (.slice b m.length cb) ∧ W'.heap[Cx]? = some (.cells #[.int .i64 c1, .int .i64 c2, .int .i64 c3] 94 (0, 0)) ∧ Below s0 w W' ∧ KeepX Al Al W W' ∧ KeepsFrom W0.heap.size W W' ∧ ∀ y ∈ pre', Eqp l m x.1 y.1)
      (fun c pre' W' => c = .exit 0 ∧ (∃ ini y, pre' = ini ++ [y] ∧ (∀ y' ∈ ini, Eqp l m x.1 y'.1) ∧ ¬ Eqp l m x.1 y.1 ∧ Boxed W' Al 2 (.int .i64 (base + sumY P ini))) ∧ Below s0 w W' ∧ KeepsFrom W0.heap.size W W')
      (fun s X Y row h hg hr9 => ⟨boxed_ab h.1 hg (turn_of hr9) (by omega), boxed_ab h.2.1 hg (turn_of hr9) (by omega), blk_ab h.2.2.1 rfl hg (turn_of hr9) (by omega), below_ab h.2.2.2.1 (by omega) hg (turn_of hr9) (by omega) (by omega), keepX_own h.2.2.2.2.1 (by omega) hg hr9, ownFrom_keepsFrom (β := Unit) (by omega) () X Y row h.2.2.2.2.2.1 hg hr9, h.2.2.2.2.2.2⟩)
      (fun c s X Y row h hg hr9 => by
        obtain ⟨h1, ⟨ini, y, e1, e2, e3, e4⟩, h3, h4⟩ := h
        exact ⟨h1, ⟨ini, y, e1, e2, e3, boxed_ab e4 hg (turn_of hr9) (by omega)⟩, below_ab h3 (by omega) hg (turn_of hr9) (by omega) (by omega), ownFrom_keepsFrom (β := Unit) (by omega) () X Y row h4 hg hr9⟩)
      ⟨by have h9 : Boxed W2 Al 2 (.int .i64 base) := (kW.block Al hAWl).trans (unhide iA'); simpa [sumY] using h9, (kW.block Ob hOWl).trans (unhide iO'), (kW.block Cx hCl).trans (unhide hblk'), (unhide iB').trans (kW.mono (by omega)), KeepX.below kW, (keepOthers_below kW).from _, by simp⟩
      (fun y a'' W' => ∃ Px, Al < Px ∧ W'.heap[Px]? = some (.cells #[.int .i64 (kAt P y.1).1, .int .i64 (kAt P y.1).2.1, .int .i64 (kAt P y.1).2.2] 94 (0, 0)) ∧ a'' = { tmps := #[.slice a l.length ca, .slice b m.length cb, undef, .pointer (some ⟨Ob, 0, none⟩), .int .i64 0, .pointer (some ⟨Al, 0, none⟩), .int .i64 at0, .pointer (some ⟨Cx, 0, none⟩), .int .i64 (clen (P.take y.1)), .pointer (some ⟨Px, 0, none⟩), .slice a l.length ca, .func (.func 152) #[] #[.pointer (some ⟨Bs, 0, none⟩)], .int .i64 at0, .agg #[.int .i64 c1, .int .i64 c2, .int .i64 c3], .slice b m.length cb, .int .i64 at0, .int .i64 at0, .pointer (some ⟨Cx, 2, none⟩), .int .i64 c3, .int .i64 (at0 + c3), .slice (some ⟨g1, 0, none⟩) P.length cp, .func (.func 152) #[] #[.pointer (some ⟨B2, 0, none⟩)], .int .i64 (clen (P.take y.1)), .agg #[.int .i64 (kAt P y.1).1, .int .i64 (kAt P y.1).2.1, .int .i64 (kAt P y.1).2.2], undef, undef, undef, undef, undef, undef, undef, undef, undef, undef, undef, undef, undef, undef], defers := [] })
      (fun y a'' s X Y row h hg hr9 => by obtain ⟨Px, e1, e2, e3⟩ := h; exact ⟨Px, e1, blk_ab (b := Al) e2 rfl hg (fun k e => .inr (hr9 k e)) (by omega), e3⟩)
      ?assign2 ?body2 ?done2 ?stop2
    case assign2 =>
      rintro l2 pre' y W' K ⟨i1, i2, i3, i4, i5, i6, i7⟩ hK
      obtain ⟨⟨p1, p2, p3⟩, hp⟩ : ∃ p, kAt P y.1 = p := ⟨_, rfl⟩
      have hMl := i1.lt
      have hCl2 : Cx < W'.heap.size := (Array.getElem?_eq_some_iff.1 i3).1
      have kx : Below W'.heap.size W' (W'.alloc (.cells #[.int .i64 p1, .int .i64 p2, .int .i64 p3] 94)) := (Below.refl _ W').alloc (Nat.le_refl _) _
      have hI9 := hide (show Boxed (W'.alloc (.cells #[.int .i64 p1, .int .i64 p2, .int .i64 p3] 94)) Al 2 (.int .i64 (base + sumY P pre')) ∧ Boxed (W'.alloc (.cells #[.int .i64 p1, .int .i64 p2, .int .i64 p3] 94)) Ob 78 (.slice b m.length cb) ∧ (W'.alloc (.cells #[.int .i64 p1, .int .i64 p2, .int .i64 p3] 94)).heap[Cx]? = some (.cells #[.int .i64 c1, .int .i64 c2, .int .i64 c3] 94 (0, 0)) ∧ Below s0 w (W'.alloc (.cells #[.int .i64 p1, .int .i64 p2, .int .i64 p3] 94)) ∧ KeepX Al Al W (W'.alloc (.cells #[.int .i64 p1, .int .i64 p2, .int .i64 p3] 94)) ∧ KeepsFrom W0.heap.size W (W'.alloc (.cells #[.int .i64 p1, .int .i64 p2, .int .i64 p3] 94)) ∧ ∀ y ∈ pre', Eqp l m x.1 y.1 from ⟨i1.alloc _, i2.alloc _, (kx.block Cx hCl2).trans i3, i4.trans (kx.mono (by have := i4.size; omega)), i5.trans (KeepX.below kx), i6.trans ((keepOthers_below kx).from _), i7⟩)
      have hK' := hide hK
      simp only [plv, hp]
      rw [hp] at hK'
      simp only at hK'
      clear hK i1 i2 i3 i4 i5 i6 i7 hp kx
      generalize clen (P.take y.1) = fr at *
      gi_wp2
      exact unhide hK' _ _ ((KeepsOthers.alloc _ _).from _) (keepX_alloc _ _) (unhide hI9) ⟨W'.heap.size, hMl, World.alloc_heap_new W' _, rfl⟩
    case body2 =>
      rintro l2 pre' y a'' W' hl2 ⟨r2, hr22⟩ ⟨jA, jO, jC, jB, jX, jF, jG⟩ ⟨Px, hPx, hpb, rfl⟩ hlt2
      have hpo := kAt_ok (unhide hPok') y.2
      have hty := clen_take (kAt_get y.2)
      have hle2 := clen_take_le (unhide hPok') (y.1 + 1)
      have hf0 := clen_nonneg ((unhide hPok').take y.1)
      have hsy := sumY_bd (unhide hPok') pre'
      have hsn := sumY_snoc P pre' y
      obtain ⟨⟨p1, p2, p3⟩, hp⟩ : ∃ p, kAt P y.1 = p := ⟨_, rfl⟩
      obtain ⟨fr, hfr⟩ : ∃ fr, fr = clen (P.take y.1) := ⟨_, rfl⟩
      have hEq : Eqp l m x.1 y.1 ↔ (p1 = c1 ∧ p2 = if c1 = 0 then 0 else c2 + fr) := by
        unfold Eqp ptOf
        rw [← unhide hP', hp, unhide hc', ← hfr]
        constructor
        · intro h; injection h with h1 h2; injection h2 with h2 _; exact ⟨h1, h2⟩
        · rintro ⟨h1, h2⟩; rw [h1, h2]
      rw [hp] at hpo hty hpb hsn
      rw [hp, ← hfr]
      rw [← hfr] at hty hf0
      obtain ⟨v1, v2, v3, v4, v5⟩ := hpo
      simp only at v1 v2 v3 v4 v5 hty hpb hsn
      have hPlt : Px < W'.heap.size := (Array.getElem?_eq_some_iff.1 hpb).1
      have hAl9 := jA.lt
      have jA' := hide jA
      have jO' := hide jO
      have jC' := hide jC
      have jB' := hide jB
      have jX' := hide jX
      have jF' := hide jF
      have jG' := hide jG
      have hpb' := hide hpb
      have hEq' := hide hEq
      have hsn' := hide hsn
      have hjs := jB.size
      clear jA jO jC jB jX jF jG hpb hEq hsn hp hfr hr22
      obtain ⟨vv, hvv⟩ : ∃ vv, (if c1 = 0 then 0 else c2 + fr) = vv := ⟨_, rfl⟩
      rw [hvv] at hEq'
      have hvv' := hide hvv
      clear hvv
      by_cases hE : p1 = c1 ∧ p2 = vv
      · have hE1 := hide ((unhide hEq').2 hE)
        obtain ⟨f1, f2⟩ := hE
        have hv := hide (show (!(p1 == c1 && (p2 == vv && p3 == p3))) = false by simp [f1, f2])
        clear f1 f2
        gi_wp2_with fail
        refine bg_cmp (v := false) (fun _ _ h => h) (fun _ _ _ _ h => h) (unhide hpb') (unhide jC') (unhide hvv') (unhide hv) ⟨by omega, by omega⟩ hf0 (by omega) (by omega) ?_
        intro w5 hb5
        have bA5 : Boxed w5 Al 2 _ := (hb5.block Al hAl9).trans (unhide jA')
        have bP5 := (hb5.block Px hPlt).trans (unhide hpb')
        have cA5 := bA5.cell
        have fA5 := bA5.frozen
        obtain ⟨_, _, z2⟩ := blk3' bP5
        have hfin := hide (show KeepsFrom W2.heap.size W' (w5.setCell ⟨Al, 0, none⟩ (.int .i64 (base + sumY P pre' + p3))) ∧ KeepX Al Al W' (w5.setCell ⟨Al, 0, none⟩ (.int .i64 (base + sumY P pre' + p3))) ∧ Boxed (w5.setCell ⟨Al, 0, none⟩ (.int .i64 (base + sumY P pre' + p3))) Al 2 (.int .i64 (base + sumY P (pre' ++ [y]))) ∧ Boxed (w5.setCell ⟨Al, 0, none⟩ (.int .i64 (base + sumY P pre' + p3))) Ob 78 (.slice b m.length cb) ∧ (w5.setCell ⟨Al, 0, none⟩ (.int .i64 (base + sumY P pre' + p3))).heap[Cx]? = some (.cells #[.int .i64 c1, .int .i64 c2, .int .i64 c3] 94 (0, 0)) ∧ Below s0 w (w5.setCell ⟨Al, 0, none⟩ (.int .i64 (base + sumY P pre' + p3))) ∧ KeepX Al Al W (w5.setCell ⟨Al, 0, none⟩ (.int .i64 (base + sumY P pre' + p3))) ∧ KeepsFrom W0.heap.size W (w5.setCell ⟨Al, 0, none⟩ (.int .i64 (base + sumY P pre' + p3))) ∧ ∀ y' ∈ pre' ++ [y], Eqp l m x.1 y'.1 from by
          have hk5 : KeepX Al Al W' (w5.setCell ⟨Al, 0, none⟩ (.int .i64 (base + sumY P pre' + p3))) := (KeepX.below hb5).trans (KeepX.set _ _ _ _ (.inl rfl))
          have hko : KeepsOthers W' (w5.setCell ⟨Al, 0, none⟩ (.int .i64 (base + sumY P pre' + p3))) := (keepOthers_below hb5).trans (KeepsOthers.setCell _ _ _)
          refine ⟨hko.from _, hk5, ?_, ?_, ?_, ?_, (unhide jX').trans hk5, (unhide jF').trans (hko.from _), ?_⟩
          · rw [unhide hsn', ← Int.add_assoc]; exact bA5.set _
          · exact ((show Boxed w5 Ob 78 _ from (hb5.block Ob (unhide jO').lt).trans (unhide jO'))).other (by omega) _
          · rw [Below.heap_setCell _ ⟨Al, 0, none⟩ _ Cx (by simp; omega)]; exact (hb5.block Cx (Array.getElem?_eq_some_iff.1 (unhide jC')).1).trans (unhide jC')
          · exact ((unhide jB').trans (hb5.mono (by omega))).setCell (p := ⟨Al, 0, none⟩) (by simp; omega) _
          · intro y' hy'
            rcases List.mem_append.1 hy' with h | h
            · exact unhide jG' y' h
            · simp at h; rw [h]; exact unhide hE1)
        clear bA5 bP5 hb5
        generalize sumY P pre' = sy at *
        gi_wp2
        exact unhide hfin
      · have hE1 := hide (fun h => hE ((unhide hEq').1 h))
        have hv := hide (show (!(p1 == c1 && (p2 == vv && p3 == p3))) = true by
          by_cases g1 : p1 = c1
          · have g2 : ¬ p2 = vv := fun h => hE ⟨g1, h⟩
            simp [g2]
          · simp [g1])
        clear hE
        gi_wp2_with fail
        refine bg_cmp (v := true) (fun _ _ h => h) (fun _ _ _ _ h => h) (unhide hpb') (unhide jC') (unhide hvv') (unhide hv) ⟨by omega, by omega⟩ hf0 (by omega) (by omega) ?_
        intro w5 hb5
        have hfin := hide (show KeepsFrom W2.heap.size W' w5 ∧ (Code.exit 0 = Code.exit 0 ∧ (∃ ini y', pre' ++ [y] = ini ++ [y'] ∧ (∀ y' ∈ ini, Eqp l m x.1 y'.1) ∧ ¬ Eqp l m x.1 y'.1 ∧ Boxed w5 Al 2 (.int .i64 (base + sumY P ini))) ∧ Below s0 w w5 ∧ KeepsFrom W0.heap.size W w5) from
          ⟨(keepOthers_below hb5).from _, rfl, ⟨pre', y, rfl, unhide jG', unhide hE1, (hb5.block Al hAl9).trans (unhide jA')⟩, (unhide jB').trans (hb5.mono (by omega)), (unhide jF').trans ((keepOthers_below hb5).from _)⟩)
        clear hb5
        gi_wp2
        have h9 := unhide hfin
        exact ⟨h9.1, rfl, h9.2.2⟩
    case done2 =>
      rintro ys W' rfl ⟨jA, jO, jC, jB, jX, jF, jG⟩
      have hS : sumY P (List.finRange P.length) = clen P := by
        have := sumY_take (P := P) (Nat.le_refl P.length)
        rwa [List.take_of_length_le (by simp), List.take_length] at this
      rw [hS] at jA
      have hfin := hide (show KeepsFrom W0.heap.size W W' ∧ KeepX Al Al W W' ∧ Boxed W' Al 2 (.int .i64 (sumX l m (pre ++ [x]))) ∧ Boxed W' Ob 78 (.slice b m.length cb) ∧ Below s0 w W' ∧ ∀ x' ∈ pre ++ [x], ∀ y, y < (pcs l m x'.1).length → Eqp l m x'.1 y from by
        refine ⟨jF, jX, ?_, jO, jB, ?_⟩
        · rw [sumX_snoc, ← unhide hbase', ← unhide hP']; exact jA
        · intro x' hx'
          rcases List.mem_append.1 hx' with h | h
          · exact unhide iG' x' h
          · simp at h
            rw [h]
            intro y hy
            exact jG ⟨y, by rw [unhide hP']; exact hy⟩ (by simp))
      clear jA jO jC jB jX jF jG hS
      gi_wp2
      exact unhide hfin
    case stop2 =>
      rintro c pre' W' ⟨k, hk, rfl⟩ ⟨rfl, ⟨ini, y, e1, e2, e3, e4⟩, jB, jF⟩
      obtain ⟨k', rfl⟩ : ∃ k', k = k' + 1 := by
        cases k with
        | zero => simp at e1
        | succ k' => exact ⟨k', rfl⟩
      rw [fin_take (by omega)] at e1
      obtain ⟨e7, e8⟩ := List.append_inj' e1 rfl
      injection e8 with e8 _
      have hy9 : y.1 = k' := by rw [← e8]
      rw [hy9] at e3
      rw [← e7, sumY_take (by omega)] at e4
      have e2' := hide (fun y' (hy' : y' < k') => e2 ⟨y', by omega⟩ (by rw [← e7]; exact fin_mem' (by omega) hy'))
      have e3' := hide e3
      have e4' := hide e4
      have jB' := hide jB
      have jF' := hide jF
      have hk9 : k' < P.length := by omega
      clear e1 e2 e3 e4 e7 e8 jB jF
      gi_wp2
      exact ⟨unhide jF', rfl, ⟨pre, x, rfl, unhide iG', k', by rw [← unhide hP']; exact hk9, unhide e2', unhide e3', by rw [← unhide hbase', ← unhide hP']; exact unhide e4'⟩, unhide jB'⟩
  case done =>
    rintro D xs W hD rfl ⟨i1, i2, i3, i4⟩ hK
    have cA := i1.cell
    have hF := hide (bg_done (unhide hA) (unhide hB) (fun x hx => i4 ⟨x, hx⟩ (by simp)))
    have hS : sumX l m (List.finRange l.length) = sumC l m l.length := by
      have := sumX_take (l := l) (m := m) (Nat.le_refl l.length)
      rwa [List.take_of_length_le (by simp)] at this
    rw [hS] at cA
    have i3' := hide i3
    have hK' := hide hK
    clear i1 i2 i3 i4 hK hS
    generalize sumC l m l.length = n at *
    go_wp2
    refine ⟨by simp, .inl ⟨_, _, rfl, run_takeDeferred (unhide hK'), ?_⟩⟩
    refine ⟨.int .i64 n, by simp [results, Tryz.f114, go_sem], n, rfl, unhide hF, ?_⟩
    rw [hs0e]; exact (unhide i3').trans (belowK_b (w := w) (by omega) _ D _ _ (by omega) (unhide hK') rfl rfl)
  case stop =>
    rintro D c pre W hD ⟨k, hk, rfl⟩ ⟨rfl, ⟨ini, x, j, e1, e2, e3, e4, e5, e6⟩, hB3⟩ hK
    obtain ⟨k', rfl⟩ : ∃ k', k = k' + 1 := by
      cases k with
      | zero => simp at e1
      | succ k' => exact ⟨k', rfl⟩
    rw [fin_take (by omega)] at e1
    obtain ⟨e7, e8⟩ := List.append_inj' e1 rfl
    injection e8 with e8 _
    have hx9 : x.1 = k' := by rw [← e8]
    rw [hx9] at e3 e4 e5 e6
    rw [← e7, sumX_take (by omega)] at e6
    have hF := hide (bg_stop (unhide hA) (unhide hB) (show k' < l.length by omega) (fun x hx => e2 ⟨x, by omega⟩ (by rw [← e7]; exact fin_mem' (by omega) hx)) e3 e4 e5)
    have cA := e6.cell
    have hB3' := hide hB3
    have hK' := hide hK
    clear e1 e2 e3 e4 e5 e6 e7 e8 hB3 hK
    generalize sumC l m k' + clen ((pcs l m k').take j) = n at *
    refine wpIn_wide.2 ?_
    go_wp2
    refine ⟨by simp, .inl ⟨_, _, rfl, run_takeDeferred (unhide hK'), ?_⟩⟩
    refine ⟨.int .i64 n, by simp [results, Tryz.f114, go_sem], n, rfl, unhide hF, ?_⟩
    rw [hs0e]; exact (unhide hB3').trans (belowK_b (w := w) (by omega) _ D _ _ (by omega) (unhide hK') rfl rfl)

end Go.Proofs.YtioaehjppiodfaaGreatDoor
