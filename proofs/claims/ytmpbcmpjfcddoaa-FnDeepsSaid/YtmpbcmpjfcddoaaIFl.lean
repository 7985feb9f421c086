/-
  Contract of the program's Flat; nothing that was there is written.
-/
import Derived.Test.YtmpbcmpjfcddoaaPow
import Derived.Test.YtmpbcmpjfcddoaaBwd
import Derived.Test.YtmpbcmpjfcddoaaInd
namespace Go.Proofs.Ytmpbcmpjfcddoaa
open Go.RowKit Go.Shelf
set_option linter.unusedVariables false
set_option linter.unusedSimpArgs false
namespace D

attribute [local go_sem] Oper.semAt_some
abbrev P4 (W : World) (b : Nat) (q0 q1 q2 q3 : Int) : Prop := W.heap[b]? = some (.cells #[.int .i64 q0, .int .i64 q1, .int .i64 q2, .int .i64 q3] 29 (0, 0))
theorem P4.bx {W : World} {b : Nat} {q0 q1 q2 q3 : Int} (h : P4 W b q0 q1 q2 q3) : Go.Proofs.Ytmpbcmpjfcddoaa.Bx W b q0 q1 q2 q3 := by
  constructor <;> simp [World.cell?, World.frozen?, show W.heap[b]? = _ from h]
theorem P4.set {W : World} {b : Nat} {q0 q1 q2 q3 : Int} (h : P4 W b q0 q1 q2 q3) (u0 u1 u2 u3 : Int) : P4 ((((W.setCell ⟨b, 0, none⟩ (.int .i64 u0)).setCell ⟨b, 1, none⟩ (.int .i64 u1)).setCell ⟨b, 2, none⟩ (.int .i64 u2)).setCell ⟨b, 3, none⟩ (.int .i64 u3)) b u0 u1 u2 u3 := by
  simp [P4, World.setCell, Array.getElem?_modify, show W.heap[b]? = _ from h]
theorem set4_ne {W : World} {b c : Nat} {u v s t : Value} (h : c ≠ b) : ((((W.setCell ⟨b, 0, none⟩ u).setCell ⟨b, 1, none⟩ v).setCell ⟨b, 2, none⟩ s).setCell ⟨b, 3, none⟩ t).heap[c]? = W.heap[c]? := by
  rw [heap_set_ne h, heap_set_ne h, heap_set_ne h, heap_set_ne h]
theorem blk_kp {B c : Nat} {X Y : World} {row : Option Nat} {o : Obj} (h : X.heap[c]? = some o) (hc : o.isCells = true) (hg : X.grownBy Y row) (hr : ∀ r, row = some r → B ≤ r ∧ ∃ o : Obj, X.heap[r]? = some o ∧ o.isCells = false) : Y.heap[c]? = some o := by
  refine (hg.block c (Array.getElem?_eq_some_iff.1 h).1 (fun e => ?_)).trans h
  obtain ⟨_, o', ho', hc'⟩ := hr c e.symm
  rw [h] at ho'; cases ho'; rw [hc] at hc'; cases hc'
def accOf (L : List Kl) (pre : List (Fin L.length)) : Go.Proofs.Ytmpbcmpjfcddoaa.Kl := pre.foldl (fun acc x => over (kAt L (L.length - 1 - x.1)).2 acc) Z4
theorem acc_snoc (L : List Kl) (pre : List (Fin L.length)) (x : Fin L.length) : accOf L (pre ++ [x]) = over (kAt L (L.length - 1 - x.1)).2 (accOf L pre) := by
  unfold accOf; rw [List.foldl_append]; rfl
theorem acc_pix {L : List Kl} (h : ∀ x ∈ L, okK x = true) : ∀ (pre : List (Fin L.length)) (s : Go.Proofs.Ytmpbcmpjfcddoaa.Kl), Pix s → Pix (pre.foldl (fun acc x => over (kAt L (L.length - 1 - x.1)).2 acc) s)
  | [], s, hs => hs
  | x :: pre, s, hs => acc_pix h pre _ (over_pix (okK_pix (h _ (List.mem_of_getElem? (kAt_get (k := L.length - 1 - x.1) (by have := x.2; omega))))) hs)
theorem acc_take (L : List Kl) : ∀ k, k ≤ L.length → accOf L ((List.finRange L.length).take k) = flatL (L.drop (L.length - k))
  | 0, _ => by simp [accOf, flatL]
  | k + 1, h => by
    rw [fin_take (by omega), acc_snoc, acc_take L k (by omega)]
    have e : L.length - k = L.length - 1 - k + 1 := by omega
    rw [show L.length - (k + 1) = L.length - 1 - k by omega, flat_step (kAt_get (k := L.length - 1 - k) (by omega)), ← e]
theorem acc_all (L : List Kl) : accOf L (List.finRange L.length) = flatL L := by
  have := acc_take L L.length (Nat.le_refl _)
  rw [List.take_of_length_le (by simp)] at this
  rw [this]; simp

set_option maxRecDepth 100000 in
set_option maxHeartbeats 12800000 in
theorem ifl_any (B gg n cap : Nat) (l : List Kl) (V0 V1 V2 V3 : Int) (w : World) (hO : Own w B gg n cap l) (hn : n ≤ 100000000) (hV : flatOf l = (V0, V1, V2, V3)) : Calls Try.prog 10 #[.slice (some ⟨gg, 0, none⟩) n cap] w fun e w' => e = .returned (ag4 V0 V1 V2 V3) ∧ Below w.heap.size w w' := by
  have hLn : l.length = n := own_len hO
  have hV' := hide hV
  have hL' := hide hLn
  have hb0 : Hid (Below w.heap.size w (w.alloc (.cells #[.int .i64 0, .int .i64 0, .int .i64 0, .int .i64 0] 29))) := hide ((Below.refl _ _).alloc (Nat.le_refl _) _)
  have hO' := hide (ownsRow_below hO (unhide hb0))
  have hR0 : Hid (P4 (w.alloc (.cells #[.int .i64 0, .int .i64 0, .int .i64 0, .int .i64 0] 29)) w.heap.size 0 0 0 0) := hide (World.alloc_heap_new w _)
  clear hO hV hLn
  generalize hx : okL l = x
  have hx' := hide hx
  clear hx
  cases x
  · refine (callsIn_wide (n := 3)).1 ?_
    refine callsIn_of_wp_marks Try.func10 rfl trivial ?_ rfl
    simp only [Try.ntmps10, List.size_toArray, List.length_cons, List.length_nil, Nat.reduceAdd, Nat.reduceSub, Array.replicate_succ, Array.replicate_zero, List.push_toArray, List.append_toArray, List.nil_append, List.cons_append]
    refine wpIn_wide.2 ?_
    go_wp2_with fail
    refine (ars_any B gg n cap l _ _ (unhide hO') hn (unhide hx')).mono ?_
    rintro e w1 ⟨rfl, hb1⟩
    have b1 := hide (laterB (unhide hb0) hb1)
    have R1 : Hid (P4 w1 w.heap.size 0 0 0 0) := hide ((hb1.block _ (by simp)).trans (unhide hR0))
    clear hb1 hb0 hR0 hO'
    obtain ⟨c0, c1, c2, c3, f0, f1, f2, f3⟩ := (unhide R1).bx
    have hR := hide ((unhide R1).set 0 0 0 0).bx
    have hv : Hid (V0 = 0 ∧ V1 = 0 ∧ V2 = 0 ∧ V3 = 0) := hide (by
      have := unhide hV'
      unfold flatOf at this
      rw [unhide hx'] at this
      simp at this
      omega)
    go_wp2
    obtain ⟨r0, r1, r2, r3, _, _, _, _⟩ := unhide hR
    obtain ⟨rfl, rfl, rfl, rfl⟩ := unhide hv
    exact ⟨ag4 0 0 0 0, by simp [results, Try.f10, go_sem, r0, r1, r2, r3], rfl, set4_below (unhide b1) (by omega)⟩
  have hl200 : l.length ≤ 200 := by have := unhide hx'; unfold okL at this; simp at this; exact this.1
  have hn200 : n ≤ 200 := by have := unhide hL'; omega
  refine (callsIn_wide (n := 3)).1 ?_
  refine callsIn_of_wp_marks Try.func10 rfl trivial ?_ rfl
  simp only [Try.ntmps10, List.size_toArray, List.length_cons, List.length_nil, Nat.reduceAdd, Nat.reduceSub, Array.replicate_succ, Array.replicate_zero, List.push_toArray, List.append_toArray, List.nil_append, List.cons_append]
  refine wpIn_wide.2 ?_
  go_wp2_with fail
  refine (ars_any B gg n cap l _ _ (unhide hO') hn (unhide hx')).mono ?_
  rintro e w1 ⟨rfl, hb1⟩
  have b1 := hide (laterB (unhide hb0) hb1)
  have R1 : Hid (P4 w1 w.heap.size 0 0 0 0) := hide ((hb1.block _ (by simp)).trans (unhide hR0))
  have O1 := hide (ownsRow_below (unhide hO') hb1)
  have s1 : w.heap.size < w1.heap.size := (unhide R1).bx.lt
  clear hb1 hb0 hR0 hO'
  have a1 : Below w1.heap.size w1 (w1.alloc (.cells #[.int .i64 0, .int .i64 0, .int .i64 0, .int .i64 0] 29)) := (Below.refl _ _).alloc (Nat.le_refl _) _
  have M1 : Hid (P4 (w1.alloc (.cells #[.int .i64 0, .int .i64 0, .int .i64 0, .int .i64 0] 29)) w1.heap.size 0 0 0 0) := hide (World.alloc_heap_new w1 _)
  have R2 : Hid (P4 (w1.alloc (.cells #[.int .i64 0, .int .i64 0, .int .i64 0, .int .i64 0] 29)) w.heap.size 0 0 0 0) := hide ((a1.block _ s1).trans (unhide R1))
  have O2 := hide (ownsRow_below (unhide O1) a1)
  have b2 := hide (laterB (unhide b1) a1)
  clear a1 R1 O1 b1
  go_wp2_with fail
  refine (ind_any (some ⟨gg, 0, none⟩) none cap 0 n 0 n l [] _ (unhide hL') rfl (by omega) (by omega) (kls_own (unhide O2)) Kls.nil (fun h => by cases h) (fun _ => rfl)).mono ?_
  rintro e w2 ⟨g, c, rfl, ho2, hb2⟩
  rw [List.append_nil] at ho2
  have gge := own_ge ho2
  rw [sz_alloc] at gge
  have M2 : Hid (P4 w2 w1.heap.size 0 0 0 0) := hide ((hb2.block _ (by simp)).trans (unhide M1))
  have R3 : Hid (P4 w2 w.heap.size 0 0 0 0) := hide ((hb2.block _ (by simp; omega)).trans (unhide R2))
  have b3 := hide (laterB (unhide b2) hb2)
  have glt := own_lt ho2
  have hK2 := hide (kls_own ho2)
  obtain ⟨L, hL⟩ : ∃ L, srt l = L := ⟨_, rfl⟩
  rw [hL] at hK2
  have hLn : L.length = n := by rw [← hL]; exact own_len ho2
  have hLk : Hid (∀ x ∈ L, okK x = true) := hide (by rw [← hL]; exact srt_ok (unhide hx'))
  have hVL : Hid (flatL L = (V0, V1, V2, V3)) := hide (by have := unhide hV'; unfold flatOf at this; rw [unhide hx', if_pos rfl, hL] at this; exact this)
  clear ho2 hb2 M1 R2 b2 hL hV' O2 hL'
  subst hLn
  go_wp2_with fail
  refine (backward_any (some ⟨g, 0, none⟩) L.length c _).mono ?_
  rintro e w3 ⟨rfl, rfl⟩
  go_wp2_with fail
  obtain ⟨Bs, hBs⟩ : ∃ Bs, Bs = w2.heap.size := ⟨_, rfl⟩
  obtain ⟨M, hM⟩ : ∃ M, M = w1.heap.size := ⟨_, rfl⟩
  obtain ⟨W0, hW0⟩ : ∃ W0, w2.alloc (.cells #[.slice (some ⟨g, 0, none⟩) L.length c] 24) = W0 := ⟨_, rfl⟩
  have hz0 : W0.heap.size = w2.heap.size + 1 := by rw [← hW0]; simp
  have iB0 : Below w.heap.size w W0 := by rw [← hW0]; exact (unhide b3).alloc (unhide b3).size _
  have hWk : Below w2.heap.size w2 W0 := by rw [← hW0]; exact (Below.refl _ _).alloc (Nat.le_refl _) _
  have iS0 : Boxed W0 Bs 24 (.slice (some ⟨g, 0, none⟩) L.length c) := by rw [← hW0, hBs]; exact Boxed.new w2 24 _
  have iM0 : P4 W0 M 0 0 0 0 := by rw [hM]; exact (hWk.block _ (by omega)).trans (unhide M2)
  have iR0 : P4 W0 w.heap.size 0 0 0 0 := (hWk.block _ (by omega)).trans (unhide R3)
  rw [hW0, ← hBs, ← hM]
  have hsM : w.heap.size < M := by omega
  have hMg : M < g := by omega
  have hgB : g < Bs := by omega
  have hBW : Bs < W0.heap.size := by omega
  generalize hs0e : w.heap.size = s0 at *
  clear hM hBs hz0 hW0 M2 R3 b3
  refine (wpIn_wide (n := 3)).1 ?_
  refine wpIn_rangeFunc_ownH (F := Fence.wide) (w := W0) rfl (by omega) (gf := 37) (lb := #[.pointer (some ⟨Bs, 0, none⟩)]) rfl trivial (enters_of Try.func37 (by kernel_rfl) rfl)
    (backward_stops 2 g Bs c L (by omega) w2 W0 (unhide hK2) glt hWk hBW iS0.cell) (fun h k => KeepP.trans h k)
    (fun W1 l1 o o' hl1 ho _ _ => ⟨by simp, fun k x hp hx => by refine (World.putObj_heap_other ?_).trans hx; rcases hp with hp | hp <;> omega⟩) (Below.refl _ _) (fun _ => rfl)
    (fun pre W => (∃ q0 q1 q2 q3 : Int, accOf L pre = (q0, q1, q2, q3) ∧ P4 W M q0 q1 q2 q3) ∧ P4 W s0 0 0 0 0 ∧ Boxed W Bs 24 (.slice (some ⟨g, 0, none⟩) L.length c) ∧ Below s0 w W)
    (fun _ _ _ => False)
    (fun s X Y row h hg hr => by
      obtain ⟨⟨q0, q1, q2, q3, h1, h2⟩, h3, h4, h5⟩ := h
      exact ⟨⟨q0, q1, q2, q3, h1, blk_kp h2 rfl hg hr⟩, blk_kp h3 rfl hg hr, blk_kp h4 rfl hg hr, h5.grown hg (by have := h5.size; omega) (fun k e => by obtain ⟨h9, _⟩ := hr k e; omega)⟩)
    (fun _ _ _ _ _ hs _ _ => hs)
    ⟨⟨0, 0, 0, 0, rfl, iM0⟩, iR0, iS0, iB0⟩
    (fun x a' W => ∃ Cx, M < Cx ∧ Bs < Cx ∧ W.heap[Cx]? = some (.cells #[.int .i64 (kAt L (L.length - 1 - x.1)).1, .int .i64 (kAt L (L.length - 1 - x.1)).2.1, .int .i64 (kAt L (L.length - 1 - x.1)).2.2.1, .int .i64 (kAt L (L.length - 1 - x.1)).2.2.2.1, .int .i64 (kAt L (L.length - 1 - x.1)).2.2.2.2] 32 (0, 0)) ∧ a' = { tmps := #[.slice (some ⟨gg, 0, none⟩) L.length cap, undef, .pointer (some ⟨s0, 0, none⟩), .pointer (some ⟨M, 0, none⟩), undef, .pointer (some ⟨Cx, 0, none⟩), .slice (some ⟨gg, 0, none⟩) L.length cap, .bool true, .bool false, undef, .agg #[.int .i64 0, .int .i64 0, .int .i64 0, .int .i64 0], .slice (some ⟨gg, 0, none⟩) L.length cap, .slice (some ⟨g, 0, none⟩) L.length c, .func (.func 37) #[] #[.pointer (some ⟨Bs, 0, none⟩)], .int .i64 ((L.length : Int) - 1 - x.1), .agg #[.int .i64 (kAt L (L.length - 1 - x.1)).1, .int .i64 (kAt L (L.length - 1 - x.1)).2.1, .int .i64 (kAt L (L.length - 1 - x.1)).2.2.1, .int .i64 (kAt L (L.length - 1 - x.1)).2.2.2.1, .int .i64 (kAt L (L.length - 1 - x.1)).2.2.2.2], undef, undef, undef, undef, undef], defers := [] })
    (fun x a' s X Y row h hg hr => by
      obtain ⟨Cx, e1, e2, e3, e4⟩ := h
      exact ⟨Cx, e1, e2, blk_kp e3 rfl hg hr, e4⟩)
    ?assign ?body ?done ?stop
  case assign =>
    rintro l1 pre x W K ⟨⟨q0, q1, q2, q3, hq, i1⟩, i2, i3, i4⟩ hK
    obtain ⟨⟨x0, x1, x2, x3, x4⟩, hc⟩ : ∃ c, (kAt L (L.length - 1 - x.1)) = c := ⟨_, rfl⟩
    obtain ⟨jj, hjj⟩ : ∃ jj, jj = (L.length : Int) - 1 - x.1 := ⟨_, rfl⟩
    have hMl := (P4.bx i1).lt
    have hBl := i3.lt
    have hsl := (P4.bx i2).lt
    have hK' := hide hK
    have i1' := hide i1
    have i2' := hide i2
    have i3' := hide i3
    have hq' := hide hq
    simp only [bwv, hc]
    rw [hc] at hK'
    rw [← hjj] at hK' ⊢
    simp only at hK'
    clear hK i1 i2 i3 hc hjj hq
    gi_wp2
    exact unhide hK' _ _ ((KeepsOthers.alloc _ _).from _) ⟨by simp, fun k o _ hk9 => (Below.heap_alloc W _ k (Array.getElem?_eq_some_iff.1 hk9).1).trans hk9⟩ ⟨⟨q0, q1, q2, q3, unhide hq', (Below.heap_alloc W _ M hMl).trans (unhide i1')⟩, (Below.heap_alloc W _ s0 hsl).trans (unhide i2'), (unhide i3').alloc _, i4.alloc (by have := i4.size; omega) _⟩ ⟨W.heap.size, hMl, hBl, World.alloc_heap_new W _, rfl⟩
  case body =>
    rintro l1 pre x a' W hl1 _ ⟨⟨q0, q1, q2, q3, hq, iM⟩, iR, iS, iB⟩ ⟨Cx, hMC, hBC, hblk, rfl⟩ hlt
    have hpx := okK_pix (unhide hLk _ (List.mem_of_getElem? (kAt_get (k := L.length - 1 - x.1) (show L.length - 1 - x.1 < L.length by have := x.2; omega))))
    have hpq : Pix (q0, q1, q2, q3) := by rw [← hq]; exact acc_pix (unhide hLk) pre Z4 z4_pix
    have hac := acc_snoc L pre x
    obtain ⟨⟨x0, x1, x2, x3, x4⟩, hc⟩ : ∃ c, (kAt L (L.length - 1 - x.1)) = c := ⟨_, rfl⟩
    obtain ⟨jj, hjj⟩ : ∃ jj, jj = (L.length : Int) - 1 - x.1 := ⟨_, rfl⟩
    rw [hc] at hpx hblk hac
    rw [hc, ← hjj]
    rw [hq] at hac
    obtain ⟨⟨U0, U1, U2, U3⟩, hU⟩ : ∃ v : Int × Int × Int × Int, over (x1, x2, x3, x4) (q0, q1, q2, q3) = v := ⟨_, rfl⟩
    have hov : Hid (overOf (x1, x2, x3, x4) (q0, q1, q2, q3) = (U0, U1, U2, U3)) := hide (by unfold overOf; rw [if_pos ⟨hpx, hpq⟩]; exact hU)
    have hac' : Hid (accOf L (pre ++ [x]) = (U0, U1, U2, U3)) := hide (hac.trans hU)
    simp only at hblk
    have d1 : W.cell? ⟨Cx, 1, none⟩ = some (.int .i64 x1) := by simp [World.cell?, hblk]
    have d2 : W.cell? ⟨Cx, 2, none⟩ = some (.int .i64 x2) := by simp [World.cell?, hblk]
    have d3 : W.cell? ⟨Cx, 3, none⟩ = some (.int .i64 x3) := by simp [World.cell?, hblk]
    have d4 : W.cell? ⟨Cx, 4, none⟩ = some (.int .i64 x4) := by simp [World.cell?, hblk]
    obtain ⟨c0, c1, c2, c3, f0, f1, f2, f3⟩ := P4.bx iM
    have hMl := (P4.bx iM).lt
    have hsl := (P4.bx iR).lt
    have hSl := iS.lt
    have hCl : Cx < W.heap.size := (Array.getElem?_eq_some_iff.1 hblk).1
    have iM' := hide iM
    have iR' := hide iR
    have iS' := hide iS
    have iB' := hide iB
    clear iM iR iS iB hblk hac hU hq hpx hpq hc hjj
    gi_wp2_with fail
    refine ⟨trivial, CallsIn.mono (CallsIn.inRound l1 (callsIn_wide.2 (iov_any x1 x2 x3 x4 q0 q1 q2 q3 U0 U1 U2 U3 _ (unhide hov)))) ?_⟩
    rintro e w4 ⟨rfl, hb4⟩
    have iM4 : P4 w4 M q0 q1 q2 q3 := (hb4.block M hMl).trans (unhide iM')
    have iR4 : P4 w4 s0 0 0 0 0 := (hb4.block s0 hsl).trans (unhide iR')
    have iS4 : Boxed w4 Bs 24 (.slice (some ⟨g, 0, none⟩) L.length c) := (hb4.block Bs hSl).trans (unhide iS')
    have iB4 : Below s0 w w4 := (unhide iB').trans (hb4.mono (by omega))
    have nRM : s0 ≠ M := by omega
    have nBM : Bs ≠ M := by omega
    have ngM : g ≠ M := by omega
    have hKO : KeepsOthers W w4 := ⟨hb4.size, fun k o hk _ => (hb4.block k (Array.getElem?_eq_some_iff.1 hk).1).trans hk⟩
    have hKO5 := ((((hKO.trans (KeepsOthers.setCell w4 ⟨M, 0, none⟩ (.int .i64 U0))).trans (KeepsOthers.setCell _ ⟨M, 1, none⟩ (.int .i64 U1))).trans (KeepsOthers.setCell _ ⟨M, 2, none⟩ (.int .i64 U2))).trans (KeepsOthers.setCell _ ⟨M, 3, none⟩ (.int .i64 U3)))
    have hfin := hide (And.intro (hKO5.from W0.heap.size) (And.intro (show KeepP (fun k => k = g ∨ k = Bs) W _ from ⟨hKO5.size, fun k o hp9 hk9 => by
        rw [set4_ne (by rcases hp9 with h | h <;> omega)]
        exact (hb4.block k (Array.getElem?_eq_some_iff.1 hk9).1).trans hk9⟩) (And.intro (show ∃ q0 q1 q2 q3 : Int, accOf L (pre ++ [x]) = (q0, q1, q2, q3) ∧ P4 _ M q0 q1 q2 q3 from ⟨U0, U1, U2, U3, unhide hac', iM4.set U0 U1 U2 U3⟩) (And.intro (show P4 _ s0 0 0 0 0 from (set4_ne (u := .int .i64 U0) (v := .int .i64 U1) (s := .int .i64 U2) (t := .int .i64 U3) nRM).trans iR4) (And.intro (show Boxed _ Bs 24 (.slice (some ⟨g, 0, none⟩) L.length c) from (set4_ne (u := .int .i64 U0) (v := .int .i64 U1) (s := .int .i64 U2) (t := .int .i64 U3) nBM).trans iS4) (show Below s0 w _ from set4B (k := M) (u := .int .i64 U0) (v := .int .i64 U1) (s := .int .i64 U2) (t := .int .i64 U3) iB4 (by omega)))))))
    clear hKO hKO5 iR4 iS4 iB4 c0 c1 c2 c3 f0 f1 f2 f3 d1 d2 d3 d4
    obtain ⟨c0, c1, c2, c3, f0, f1, f2, f3⟩ := iM4.bx
    clear iM4
    gi_wp2
    exact unhide hfin
  case done =>
    rintro D xs W hD rfl ⟨⟨q0, q1, q2, q3, hq, iM⟩, iR, _, iB⟩ hK
    rw [acc_all] at hq
    have hqv : (q0, q1, q2, q3) = (V0, V1, V2, V3) := hq.symm.trans (unhide hVL)
    cases hqv
    obtain ⟨c0, c1, c2, c3, f0, f1, f2, f3⟩ := P4.bx iM
    obtain ⟨d0, d1, d2, d3, g0, g1, g2, g3⟩ := P4.bx iR
    have hDs : D ≠ s0 := by omega
    have hR : Hid (∀ o, Go.Proofs.Ytmpbcmpjfcddoaa.Bx (World.putObj ((((W.setCell ⟨s0, 0, none⟩ (.int .i64 V0)).setCell ⟨s0, 1, none⟩ (.int .i64 V1)).setCell ⟨s0, 2, none⟩ (.int .i64 V2)).setCell ⟨s0, 3, none⟩ (.int .i64 V3)) D o) s0 V0 V1 V2 V3) := hide (fun o => P4.bx ((World.putObj_heap_other (Ne.symm hDs)).trans (P4.set iR V0 V1 V2 V3)))
    have hB5 := hide (set4B (u := .int .i64 V0) (v := .int .i64 V1) (s := .int .i64 V2) (t := .int .i64 V3) iB (Nat.le_refl s0))
    have hK5 := hide ((set4_ne (u := .int .i64 V0) (v := .int .i64 V1) (s := .int .i64 V2) (t := .int .i64 V3) hDs).trans hK)
    clear iM iR iB hK hq
    go_wp2
    refine ⟨by simp, .inl ⟨_, _, rfl, run_takeDeferred (unhide hK5), ?_⟩⟩
    refine ⟨ag4 V0 V1 V2 V3, by simp [results, Try.f10, go_sem, (unhide hR _).c0, (unhide hR _).c1, (unhide hR _).c2, (unhide hR _).c3], rfl, ?_⟩
    rw [hs0e]
    have h9 := unhide hB5
    exact ⟨h9.os, h9.tape, h9.output, by simpa using h9.size, fun k hk => (World.putObj_heap_other (by omega)).trans (h9.block k hk)⟩
  case stop =>
    rintro D c pre W hD _ h _
    exact h.elim

end D
end Go.Proofs.Ytmpbcmpjfcddoaa
