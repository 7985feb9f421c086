/-
  Contracts of the program: what is made, joined and held against the limits; a frame of a track; nothing that was there is written.
  The program's edits of a track that was opened; the answer is new memory, nothing that was there is written.
  The program's edits of a track that was opened; the answer is new memory, nothing that was there is written.
  The program's Ins of a track as a whole; the answer is new memory, nothing that was there is written.
-/
import Derived.Test.YtioaehjppiodfaaGreatDoorG10
import Derived.Test.YtioaehjppiodfaaGreatDoorG08
import Derived.Test.YtioaehjppiodfaaGreatDoorG11
import Derived.Test.YtioaehjppiodfaaGreatDoorG22
import Derived.Test.YtioaehjppiodfaaGreatDoorG21
namespace Go.Proofs.YtioaehjppiodfaaGreatDoor
open Go.RowKit
set_option linter.unusedVariables false
set_option linter.unusedSimpArgs false

set_option maxHeartbeats 1600000 in
theorem itk_any (a : Option Addr) (cap : Nat) (l : List Kl) (w : World) (hl : l.length ≤ 1000) (hA : AOk l) (hk : Kls w a l) :
    Calls Tryz.prog 111 #[.slice a l.length cap] w fun e w' => EdR w w' (if TOk (join l) then some (join l) else none) e := by
  have hJ := hide (ijoin_any a cap l w hl hA hk)
  have hjl := hide (len_join l)
  have hl' := hide hl
  clear hk hA hl
  obtain ⟨R, hR⟩ : ∃ R, (if TOk (join l) then some (join l) else none) = R := ⟨_, rfl⟩
  rw [hR]
  have hR' := hide hR
  clear hR
  go_enter Tryz.func111, Tryz.ntmps111
  go_wp2_with fail
  refine (unhide hJ).mono ?_
  rintro e w1 ⟨g, c, rfl, hg, ho, hb⟩
  have ho' := hide ho
  have hb' := hide hb
  clear ho hb hJ
  by_cases hT : TOk (join l)
  · have hr : R = some (join l) := by rw [← unhide hR']; exact if_pos hT
    subst hr
    have hd := hide (decide_eq_true hT)
    clear hT
    go_wp2_with fail
    refine (itrack_any (some ⟨g, 0, none⟩) c (join l) true _ (by have := unhide hjl; have := unhide hl'; unfold maxLen; omega) (kls_own (unhide ho')) (unhide hd)).mono ?_
    rintro e w2 ⟨rfl, k2⟩
    have k2' := hide k2
    clear k2
    go_wp2
    refine bodyPost_ret (v := .tuple #[.slice (some ⟨g, 0, none⟩) (join l).length c, .bool true]) (by simp [results, Tryz.results111, go_sem]) rfl ?_
    exact ⟨g, c, rfl, hg, ownsRow_below (unhide ho') (unhide k2'), laterB (unhide hb') (unhide k2')⟩
  · have hr : R = none := by rw [← unhide hR']; exact if_neg hT
    subst hr
    have hd := hide (decide_eq_false hT)
    clear hT
    go_wp2_with fail
    refine (itrack_any (some ⟨g, 0, none⟩) c (join l) false _ (by have := unhide hjl; have := unhide hl'; unfold maxLen; omega) (kls_own (unhide ho')) (unhide hd)).mono ?_
    rintro e w2 ⟨rfl, k2⟩
    have k2' := hide (laterB (unhide hb') k2)
    clear k2
    go_wp2
    exact bodyPost_ret (v := .tuple #[.slice (some ⟨w2.heap.size, 0, none⟩) 0 0, .bool false]) (by simp [results, Tryz.results111, go_sem]) rfl (edR_none rfl (unhide k2'))

/-- a clip that is the answer under way -/
def RsB (W : World) (B : Nat) : Prop :=
  W.cell? ⟨B, 0, none⟩ = some (.int .i64 0) ∧ W.cell? ⟨B, 1, none⟩ = some (.int .i64 0) ∧ W.cell? ⟨B, 2, none⟩ = some (.int .i64 0) ∧
  W.frozen? ⟨B, 0, none⟩ = false ∧ W.frozen? ⟨B, 1, none⟩ = false ∧ W.frozen? ⟨B, 2, none⟩ = false ∧ B < W.heap.size
theorem RsB.later {W W' : World} {B : Nat} (h : RsB W B) (hb : Below W.heap.size W W') : RsB W' B := by
  obtain ⟨h1, h2, h3, f1, f2, f3, hB⟩ := h
  obtain ⟨C, F⟩ := bcell hb
  exact ⟨(C _ _ hB).trans h1, (C _ _ hB).trans h2, (C _ _ hB).trans h3, (F _ _ hB).trans f1, (F _ _ hB).trans f2, (F _ _ hB).trans f3, Nat.lt_of_lt_of_le hB hb.size⟩
theorem rsb_start (w : World) : RsB (w.alloc (.cells #[.int .i64 0, .int .i64 0, .int .i64 0] 94)) w.heap.size := by
  refine ⟨?_, ?_, ?_, ?_, ?_, ?_, ?_⟩ <;> simp [go_sem]
theorem set3_belowR {w W : World} {B : Nat} {a b c : Value} {o1 o2 o3 : Nat} (h : Below w.heap.size w W) (hB : w.heap.size ≤ B) : Below w.heap.size w (((W.setCell ⟨B, o1, none⟩ a).setCell ⟨B, o2, none⟩ b).setCell ⟨B, o3, none⟩ c) :=
  ((h.setCell (p := ⟨B, o1, none⟩) hB _).setCell (p := ⟨B, o2, none⟩) hB _).setCell (p := ⟨B, o3, none⟩) hB _

set_option maxHeartbeats 1600000 in
theorem ifrm_any (a : Option Addr) (cap : Nat) (l : List Kl) (i : Int) (c : Kl) (w : World) (hT : TOk l) (h0 : 0 ≤ i) (h1 : i < clen l) (hk : Kls w a l) (hc : part l i (i + 1) = [c]) :
    Calls Tryz.prog 113 #[.slice a l.length cap, .int .i64 i] w fun e w' => e = .returned (kv c) ∧ Below w.heap.size w w' := by
  have hb0 := hide ((Below.refl w.heap.size w).alloc (Nat.le_refl _) (.cells #[.int .i64 0, .int .i64 0, .int .i64 0] 94))
  have hs0 := hide (rsb_start w)
  have h9 := hT.2.2
  have hP := ipart_any a cap l i (i + 1) (w.alloc (.cells #[.int .i64 0, .int .i64 0, .int .i64 0] 94)) hT (by omega) (by omega) (hk.below (unhide hb0))
  rw [hc] at hP
  have hP' := hide hP
  clear hP hk hT hc
  go_enter Tryz.func113, Tryz.ntmps113
  go_wp2_with fail
  refine (unhide hP').mono ?_
  rintro e w1 ⟨g, cp, rfl, hg, ho, hb⟩
  obtain ⟨c1, c2, c3⟩ := c
  obtain ⟨x0, x1, x2⟩ := own_cells (l := [(c1, c2, c3)]) (k := 0) rfl ho
  rw [Nat.zero_mul] at x0 x1 x2
  rw [Nat.zero_add] at x1 x2
  have H1 := hide (laterB (unhide hb0) hb)
  obtain ⟨d0, d1, d2, f0, f1, f2, hB⟩ := (unhide hs0).later hb
  simp only at x0 x1 x2
  clear ho hb hP' hs0 hb0
  go_wp2
  exact bodyPost_ret (v := kv (c1, c2, c3)) (by simp [results, Tryz.results113, go_sem, d0, d1, d2]) rfl ⟨rfl, set3_belowR (unhide H1) (Nat.le_refl _)⟩
end Go.Proofs.YtioaehjppiodfaaGreatDoor

namespace Go.Proofs.YtioaehjppiodfaaGreatDoor
open Go.RowKit
set_option linter.unusedVariables false
set_option linter.unusedSimpArgs false

theorem kls_litT {w : World} {T : TypeId} {c1 c2 c3 : Int} : Kls (w.alloc (.cells #[.int .i64 c1, .int .i64 c2, .int .i64 c3] T)) (some ⟨w.heap.size, 0, none⟩) [(c1, c2, c3)] := by
  intro j x hx
  cases j with
  | zero =>
    simp at hx
    subst hx
    exact ⟨w.heap.size, 0, rfl, by simp, by simp [go_sem], by simp [go_sem], by simp [go_sem]⟩
  | succ j => simp at hx
theorem kls_litT2 {w : World} {T : TypeId} {c1 c2 c3 d1 d2 d3 : Int} : Kls (w.alloc (.cells #[.int .i64 c1, .int .i64 c2, .int .i64 c3, .int .i64 d1, .int .i64 d2, .int .i64 d3] T)) (some ⟨w.heap.size, 0, none⟩) [(c1, c2, c3), (d1, d2, d3)] := by
  intro j x hx
  match j, hx with
  | 0, hx => injection hx with hx; subst hx; exact ⟨w.heap.size, 0, rfl, by simp, by simp [go_sem], by simp [go_sem], by simp [go_sem]⟩
  | 1, hx => injection hx with hx; subst hx; exact ⟨w.heap.size, 0, rfl, by simp, by simp [go_sem], by simp [go_sem], by simp [go_sem]⟩
  | j + 2, hx => simp at hx

end Go.Proofs.YtioaehjppiodfaaGreatDoor

namespace Go.Proofs.YtioaehjppiodfaaGreatDoor
open Go.RowKit
set_option linter.unusedVariables false
set_option linter.unusedSimpArgs false

set_option maxHeartbeats 400000 in
theorem ins_any (a0 : Option Addr) (cap : Nat) (l : List Kl) (t n c1 c2 c3 : Int) (w : World) (hT : TOk l) (hk : Kls w a0 l) :
    Calls Tryz.prog 102 #[.agg #[.slice a0 l.length cap, .int .i64 (clen l)], .agg #[.int .i64 t, .int .i64 n, .int .i64 c1, .int .i64 c2, .int .i64 c3]] w fun e w' => MdR w w' (repl l t 0 [(c1, c2, c3)]) e := by
  have hT' := hide hT
  have L0 := clen_nonneg hT.2.1
  have L1 := hT.2.2
  have hW : Below w.heap.size w ((w.alloc (.cells #[.slice a0 l.length cap, .int .i64 (clen l)] 133)).alloc (.cells #[.int .i64 t, .int .i64 n, .int .i64 c1, .int .i64 c2, .int .i64 c3] 108)) := ((Below.refl _ _).alloc (Nat.le_refl _) _).alloc (by simp) _
  have hW2 := hide (below_lit hW (o := .cells #[.int .i64 c1, .int .i64 c2, .int .i64 c3] 94))
  have K1 := hide (hk.below (unhide hW2))
  have K2 := kls_litT (w := ((w.alloc (.cells #[.slice a0 l.length cap, .int .i64 (clen l)] 133)).alloc (.cells #[.int .i64 t, .int .i64 n, .int .i64 c1, .int .i64 c2, .int .i64 c3] 108))) (T := 94) (c1 := c1) (c2 := c2) (c3 := c3)
  rw [show ((w.alloc (.cells #[.slice a0 l.length cap, .int .i64 (clen l)] 133)).alloc (.cells #[.int .i64 t, .int .i64 n, .int .i64 c1, .int .i64 c2, .int .i64 c3] 108)).heap.size = w.heap.size + 1 + 1 by simp] at K2
  replace K2 := hide K2
  clear hk hW hT
  go_enter Tryz.func102, Tryz.ntmps102
  go_wp2_with fail
  refine (repl_any a0 cap l t 0 _ _ [(c1, c2, c3)] _ (unhide hT') (by simp) (unhide K1) (unhide K2) (fun h => by cases h)).mono ?_
  rintro e w2 hE
  obtain ⟨v, rfl, E⟩ := mdR_from hE (unhide hW2)
  go_wp2
  exact bodyPost_ret (v := .tuple #[v, .bool (repl l t 0 [(c1, c2, c3)]).isSome]) (by simp [results, Tryz.results102, go_sem]) rfl ⟨v, rfl, E⟩

end Go.Proofs.YtioaehjppiodfaaGreatDoor

namespace Go.Proofs.YtioaehjppiodfaaGreatDoor
open Go.RowKit
set_option linter.unusedVariables false
set_option linter.unusedSimpArgs false

set_option maxRecDepth 10000 in
set_option maxHeartbeats 3200000 in
theorem edIns_any (a0 : Option Addr) (cap : Nat) (l : List Kl) (t n c1 c2 c3 : Int) (w : World) (hl : l.length ≤ maxLen) (hk : Kls w a0 l) :
    Calls Tryz.prog 73 #[.slice a0 l.length cap, .int .i64 0, .agg #[.int .i64 t, .int .i64 n, .int .i64 c1, .int .i64 c2, .int .i64 c3]] w fun e w' => EdR w w' (if TOk l ∧ InR n (-10000000) 10000000 then med (repl l t 0 [(c1, c2, c3)]) else none) e := by
  have hW : Below w.heap.size w ((w.alloc (.cells #[.int .i64 t, .int .i64 n, .int .i64 c1, .int .i64 c2, .int .i64 c3] 108)).alloc (.cells #[.func (.func 102) #[] #[], .func (.func 103) #[] #[], .func (.func 104) #[] #[], .func (.func 105) #[] #[], .func (.func 106) #[] #[], .func (.func 107) #[] #[], .func (.func 108) #[] #[], .func (.func 109) #[] #[]] 134)) := ((Below.refl _ _).alloc (Nat.le_refl _) _).alloc (by simp) _
  have hk' := hide (hk.below hW)
  have hW' := hide hW
  have p0 : ((w.alloc (.cells #[.int .i64 t, .int .i64 n, .int .i64 c1, .int .i64 c2, .int .i64 c3] 108)).alloc (.cells #[.func (.func 102) #[] #[], .func (.func 103) #[] #[], .func (.func 104) #[] #[], .func (.func 105) #[] #[], .func (.func 106) #[] #[], .func (.func 107) #[] #[], .func (.func 108) #[] #[], .func (.func 109) #[] #[]] 134)).cell? ⟨w.heap.size, 0, none⟩ = some (.int .i64 t) := by simp [go_sem]
  have p1 : ((w.alloc (.cells #[.int .i64 t, .int .i64 n, .int .i64 c1, .int .i64 c2, .int .i64 c3] 108)).alloc (.cells #[.func (.func 102) #[] #[], .func (.func 103) #[] #[], .func (.func 104) #[] #[], .func (.func 105) #[] #[], .func (.func 106) #[] #[], .func (.func 107) #[] #[], .func (.func 108) #[] #[], .func (.func 109) #[] #[]] 134)).cell? ⟨w.heap.size, 1, none⟩ = some (.int .i64 n) := by simp [go_sem]
  have p2 : ((w.alloc (.cells #[.int .i64 t, .int .i64 n, .int .i64 c1, .int .i64 c2, .int .i64 c3] 108)).alloc (.cells #[.func (.func 102) #[] #[], .func (.func 103) #[] #[], .func (.func 104) #[] #[], .func (.func 105) #[] #[], .func (.func 106) #[] #[], .func (.func 107) #[] #[], .func (.func 108) #[] #[], .func (.func 109) #[] #[]] 134)).cell? ⟨w.heap.size, 2, none⟩ = some (.int .i64 c1) := by simp [go_sem]
  have p3 : ((w.alloc (.cells #[.int .i64 t, .int .i64 n, .int .i64 c1, .int .i64 c2, .int .i64 c3] 108)).alloc (.cells #[.func (.func 102) #[] #[], .func (.func 103) #[] #[], .func (.func 104) #[] #[], .func (.func 105) #[] #[], .func (.func 106) #[] #[], .func (.func 107) #[] #[], .func (.func 108) #[] #[], .func (.func 109) #[] #[]] 134)).cell? ⟨w.heap.size, 3, none⟩ = some (.int .i64 c2) := by simp [go_sem]
  have p4 : ((w.alloc (.cells #[.int .i64 t, .int .i64 n, .int .i64 c1, .int .i64 c2, .int .i64 c3] 108)).alloc (.cells #[.func (.func 102) #[] #[], .func (.func 103) #[] #[], .func (.func 104) #[] #[], .func (.func 105) #[] #[], .func (.func 106) #[] #[], .func (.func 107) #[] #[], .func (.func 108) #[] #[], .func (.func 109) #[] #[]] 134)).cell? ⟨w.heap.size, 4, none⟩ = some (.int .i64 c3) := by simp [go_sem]
  have pf : ((w.alloc (.cells #[.int .i64 t, .int .i64 n, .int .i64 c1, .int .i64 c2, .int .i64 c3] 108)).alloc (.cells #[.func (.func 102) #[] #[], .func (.func 103) #[] #[], .func (.func 104) #[] #[], .func (.func 105) #[] #[], .func (.func 106) #[] #[], .func (.func 107) #[] #[], .func (.func 108) #[] #[], .func (.func 109) #[] #[]] 134)).cell? ⟨w.heap.size + 1, 0, none⟩ = some (.func (.func 102) #[] #[]) := by simp [go_sem]
  clear hk hW
  obtain ⟨R0, hR0⟩ : ∃ R0, (if TOk l ∧ InR n (-10000000) 10000000 then med (repl l t 0 [(c1, c2, c3)]) else none) = R0 := ⟨_, rfl⟩
  rw [hR0]
  by_cases hT : TOk l
  · have hT' := hide hT
    by_cases hn0 : n < -10000000
    · have hS := hide (show R0 = none from hR0.symm.trans <| if_neg (fun h => by have := h.2.1; omega))
      clear hT hR0
      go_enter Tryz.func73, Tryz.ntmps73
      go_wp2_with fail
      refine (opened_ok a0 cap l _ (unhide hT') (unhide hk')).mono ?_
      rintro e w1 ⟨rfl, hb⟩
      have g0 := cell_later hb p0
      have g1 := cell_later hb p1
      have g2 := cell_later hb p2
      have g3 := cell_later hb p3
      have g4 := cell_later hb p4
      have gf := cell_later hb pf
      have HW := hide (laterB (unhide hW') hb)
      have K1 := hide ((unhide hk').below hb)
      have hz := World.block_lt_of_cell? _ _ gf
      simp only at hz
      have hz0 : w.heap.size < w1.heap.size := by omega
      clear hb p0 p1 p2 p3 p4 pf
      clear K1
      go_wp2
      exact bodyPost_ret (v := .tuple #[.slice (some ⟨w1.heap.size + 1, 0, none⟩) 0 0, .bool false]) (by simp [results, Tryz.results73, go_sem]) rfl (by have := edR_none (unhide hS) (below_lit (unhide HW) (o := .cells #[.slice a0 l.length cap, .int .i64 (clen l)] 133)); simpa using this)

    have hn0' : decide (n < -10000000) = false := by simpa using hn0
    by_cases hn1 : 10000000 < n
    · have hS := hide (show R0 = none from hR0.symm.trans <| if_neg (fun h => by have := h.2.2; omega))
      clear hT hR0
      go_enter Tryz.func73, Tryz.ntmps73
      go_wp2_with fail
      refine (opened_ok a0 cap l _ (unhide hT') (unhide hk')).mono ?_
      rintro e w1 ⟨rfl, hb⟩
      have g0 := cell_later hb p0
      have g1 := cell_later hb p1
      have g2 := cell_later hb p2
      have g3 := cell_later hb p3
      have g4 := cell_later hb p4
      have gf := cell_later hb pf
      have HW := hide (laterB (unhide hW') hb)
      have K1 := hide ((unhide hk').below hb)
      have hz := World.block_lt_of_cell? _ _ gf
      simp only at hz
      have hz0 : w.heap.size < w1.heap.size := by omega
      clear hb p0 p1 p2 p3 p4 pf
      clear K1
      go_wp2
      exact bodyPost_ret (v := .tuple #[.slice (some ⟨w1.heap.size + 1, 0, none⟩) 0 0, .bool false]) (by simp [results, Tryz.results73, go_sem]) rfl (by have := edR_none (unhide hS) (below_lit (unhide HW) (o := .cells #[.slice a0 l.length cap, .int .i64 (clen l)] 133)); simpa using this)

    have hn1' : decide (10000000 < n) = false := by simpa using hn1
    have hN : -10000000 ≤ n ∧ n ≤ 10000000 := by omega
    rw [if_pos (show TOk l ∧ InR n (-10000000) 10000000 from ⟨hT, hN⟩)] at hR0
    subst hR0
    have hN' := hide hN
    clear hN
    clear hT
    obtain ⟨r, hr⟩ : ∃ r, r = repl l t 0 [(c1, c2, c3)] := ⟨_, rfl⟩
    have hxx := hide (show ∀ x, r = some x → AOk x ∧ x.length ≤ 1000 from fun x hx => by rw [hr] at hx; exact repl_aok (unhide hT') (by simp) hx)
    rw [← hr]
    have hr' := hide hr
    clear hr
    go_enter Tryz.func73, Tryz.ntmps73
    go_wp2_with fail
    refine (opened_ok a0 cap l _ (unhide hT') (unhide hk')).mono ?_
    rintro e w1 ⟨rfl, hb⟩
    have g0 := cell_later hb p0
    have g1 := cell_later hb p1
    have g2 := cell_later hb p2
    have g3 := cell_later hb p3
    have g4 := cell_later hb p4
    have gf := cell_later hb pf
    have HW := hide (laterB (unhide hW') hb)
    have K1 := hide ((unhide hk').below hb)
    have hz := World.block_lt_of_cell? _ _ gf
    simp only at hz
    have hz0 : w.heap.size < w1.heap.size := by omega
    clear hb p0 p1 p2 p3 p4 pf
    have hA := (Below.refl w1.heap.size w1).alloc (Nat.le_refl _) (.cells #[.slice a0 l.length cap, .int .i64 (clen l)] 133)
    obtain ⟨X, hX⟩ : ∃ X, X = w1.alloc (.cells #[.slice a0 l.length cap, .int .i64 (clen l)] 133) := ⟨_, rfl⟩
    rw [← hX] at hA
    have hall : Hid (X.cell? ⟨w.heap.size, 0, none⟩ = some (.int .i64 t) ∧ X.cell? ⟨w.heap.size, 1, none⟩ = some (.int .i64 n) ∧ X.cell? ⟨w.heap.size, 2, none⟩ = some (.int .i64 c1) ∧ X.cell? ⟨w.heap.size, 3, none⟩ = some (.int .i64 c2) ∧ X.cell? ⟨w.heap.size, 4, none⟩ = some (.int .i64 c3) ∧ X.cell? ⟨w.heap.size + 1, 0, none⟩ = some (.func (.func 102) #[] #[]) ∧ X.cell? ⟨w1.heap.size, 0, none⟩ = some (.slice a0 l.length cap) ∧ X.cell? ⟨w1.heap.size, 1, none⟩ = some (.int .i64 (clen l)) ∧ Below w.heap.size w X) := hide ⟨cell_later hA g0, cell_later hA g1, cell_later hA g2, cell_later hA g3, cell_later hA g4, cell_later hA gf, by rw [hX]; simp [go_sem], by rw [hX]; simp [go_sem], laterB (unhide HW) hA⟩
    have KX := hide ((unhide K1).below hA)
    have q1 := cell_later hA g1
    have hX' := hide hX
    clear hA K1 g0 g2 g3 g4 gf hX hz
    go_wp2_with fail
    rw [← unhide hX']
    go_region_held3 (fun w' => w'.cell? ⟨w.heap.size, 0, none⟩ = some (.int .i64 t) ∧ w'.cell? ⟨w.heap.size, 1, none⟩ = some (.int .i64 n) ∧ w'.cell? ⟨w.heap.size, 2, none⟩ = some (.int .i64 c1) ∧ w'.cell? ⟨w.heap.size, 3, none⟩ = some (.int .i64 c2) ∧ w'.cell? ⟨w.heap.size, 4, none⟩ = some (.int .i64 c3) ∧ w'.cell? ⟨w.heap.size + 1, 0, none⟩ = some (.func (.func 102) #[] #[]) ∧ w'.cell? ⟨w1.heap.size, 0, none⟩ = some (.slice a0 l.length cap) ∧ w'.cell? ⟨w1.heap.size, 1, none⟩ = some (.int .i64 (clen l)) ∧ Below w.heap.size w w')
      (first | (refine keep8 ?_ hbE; assumption) | (exact keep8d (unhide hall)))
      (first | (go_at_call 102; refine (ins_any a0 cap l t n c1 c2 c3 X.drew (unhide hT') (show Kls X.drew a0 l from unhide KX)).mono ?_; rw [← unhide hr']; rintro e w2 ⟨v, rfl, nv, hbE⟩))
    rename_i hH
    have HY := hide hH.2.2.2.2.2.2.2.2
    have hsz : w.heap.size ≤ X.heap.size := (unhide hall).2.2.2.2.2.2.2.2.size
    have nV := hide (own_mono nv hsz)
    clear nv hbE hH hall KX hsz q1
    cases r with
    | none =>
      have hS := hide med_none
      go_wp2
      exact bodyPost_ret (v := .tuple #[.slice (some ⟨w2.heap.size, 0, none⟩) 0 0, .bool false]) (by simp [results, Tryz.results73, go_sem]) rfl (edR_none (unhide hS) (unhide HY))
    | some x =>
      obtain ⟨hxA, hxl⟩ := unhide hxx x rfl
      obtain ⟨a3, c3', rfl, kx, _⟩ := ownV_kls (unhide nV)
      have hxA' := hide hxA
      have kx' := hide kx
      clear hxA kx nV hxx
      have eo : outL (some x) = x := rfl
      rw [eo] at kx' ⊢
      clear eo
      have hi' := hide (itk_any a3 c3' x w2 hxl (unhide hxA') (unhide kx'))
      clear kx'
      obtain ⟨R1, hR1⟩ : ∃ R1, med (some x) = R1 := ⟨_, rfl⟩
      have hR2 : (if TOk (join x) then some (join x) else none) = R1 := by rw [← hR1]; rfl
      rw [hR2] at hi'
      have hR1' := hide hR1
      clear hR1 hR2
      go_wp2_with fail
      refine (unhide hi').mono ?_
      rintro e w3 ⟨g, c, rfl, q3, n3, k3⟩
      have hF := hide (edR_from ⟨g, c, rfl, q3, n3, k3⟩ (unhide HY) : EdR w w3 R1 (.returned (.tuple #[.slice (some ⟨g, 0, none⟩) (outL R1).length c, .bool R1.isSome])))
      clear n3 k3 hi'
      go_wp2
      exact bodyPost_ret (v := .tuple #[.slice (some ⟨g, 0, none⟩) (outL R1).length c, .bool R1.isSome]) (by simp [results, Tryz.results73, go_sem]) rfl (by rw [unhide hR1']; exact unhide hF)
  · have hS := hide (show R0 = none from hR0.symm.trans <| if_neg (fun h => hT h.1))
    clear hR0
    go_enter Tryz.func73, Tryz.ntmps73
    go_wp2_with fail
    refine (opened_no a0 cap l _ hl hT (unhide hk')).mono ?_
    rintro e w1 ⟨rfl, hb⟩
    have g0 := cell_later hb p0
    have g1 := cell_later hb p1
    have g2 := cell_later hb p2
    have g3 := cell_later hb p3
    have g4 := cell_later hb p4
    have gf := cell_later hb pf
    have HW := hide (laterB (unhide hW') hb)
    have K1 := hide ((unhide hk').below hb)
    have hz := World.block_lt_of_cell? _ _ gf
    simp only at hz
    have hz0 : w.heap.size < w1.heap.size := by omega
    clear hb p0 p1 p2 p3 p4 pf
    clear hT
    clear K1
    go_wp2
    exact bodyPost_ret (v := .tuple #[.slice (some ⟨w1.heap.size + 1, 0, none⟩) 0 0, .bool false]) (by simp [results, Tryz.results73, go_sem]) rfl (by have := edR_none (unhide hS) (below_lit (unhide HW) (o := .cells #[.slice none 0 0, .int .i64 0] 133)); simpa using this)

end Go.Proofs.YtioaehjppiodfaaGreatDoor
