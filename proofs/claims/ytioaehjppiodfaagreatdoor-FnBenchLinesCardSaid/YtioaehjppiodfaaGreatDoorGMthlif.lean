/-
  The program's Ext of a track as a whole; the answer is new memory, nothing that was there is written.
  The program's edit by its name answers as its model does; the answer is new memory, nothing that was there is written.
  The program's edits of a track that was opened; the answer is new memory, nothing that was there is written.
-/
import Derived.Test.YtioaehjppiodfaaGreatDoorGMthA
import Derived.Test.YtioaehjppiodfaaGreatDoorGITa
import Derived.Test.YtioaehjppiodfaaGreatDoorGMthext
namespace Go.Proofs.YtioaehjppiodfaaGreatDoor
open Go.RowKit
set_option linter.unusedVariables false
set_option linter.unusedSimpArgs false

set_option maxRecDepth 10000 in
set_option maxHeartbeats 3200000 in
theorem edExt_any (a0 : Option Addr) (cap : Nat) (l : List Kl) (t n c1 c2 c3 : Int) (w : World) (hl : l.length ≤ maxLen) (hk : Kls w a0 l) :
    Calls Tryz.prog 73 #[.slice a0 l.length cap, .int .i64 1, .agg #[.int .i64 t, .int .i64 n, .int .i64 c1, .int .i64 c2, .int .i64 c3]] w fun e w' => EdR w w' (if TOk l ∧ InR n (-10000000) 10000000 then med (if n < 1 then none else repl l t n []) else none) e := by
  have hW : Below w.heap.size w ((w.alloc (.cells #[.int .i64 t, .int .i64 n, .int .i64 c1, .int .i64 c2, .int .i64 c3] 108)).alloc (.cells #[.func (.func 102) #[] #[], .func (.func 103) #[] #[], .func (.func 104) #[] #[], .func (.func 105) #[] #[], .func (.func 106) #[] #[], .func (.func 107) #[] #[], .func (.func 108) #[] #[], .func (.func 109) #[] #[]] 134)) := ((Below.refl _ _).alloc (Nat.le_refl _) _).alloc (by simp) _
  have hk' := hide (hk.below hW)
  have hW' := hide hW
  have p0 : ((w.alloc (.cells #[.int .i64 t, .int .i64 n, .int .i64 c1, .int .i64 c2, .int .i64 c3] 108)).alloc (.cells #[.func (.func 102) #[] #[], .func (.func 103) #[] #[], .func (.func 104) #[] #[], .func (.func 105) #[] #[], .func (.func 106) #[] #[], .func (.func 107) #[] #[], .func (.func 108) #[] #[], .func (.func 109) #[] #[]] 134)).cell? ⟨w.heap.size, 0, none⟩ = some (.int .i64 t) := by simp [go_sem]
  have p1 : ((w.alloc (.cells #[.int .i64 t, .int .i64 n, .int .i64 c1, .int .i64 c2, .int .i64 c3] 108)).alloc (.cells #[.func (.func 102) #[] #[], .func (.func 103) #[] #[], .func (.func 104) #[] #[], .func (.func 105) #[] #[], .func (.func 106) #[] #[], .func (.func 107) #[] #[], .func (.func 108) #[] #[], .func (.func 109) #[] #[]] 134)).cell? ⟨w.heap.size, 1, none⟩ = some (.int .i64 n) := by simp [go_sem]
  have p2 : ((w.alloc (.cells #[.int .i64 t, .int .i64 n, .int .i64 c1, .int .i64 c2, .int .i64 c3] 108)).alloc (.cells #[.func (.func 102) #[] #[], .func (.func 103) #[] #[], .func (.func 104) #[] #[], .func (.func 105) #[] #[], .func (.func 106) #[] #[], .func (.func 107) #[] #[], .func (.func 108) #[] #[], .func (.func 109) #[] #[]] 134)).cell? ⟨w.heap.size, 2, none⟩ = some (.int .i64 c1) := by simp [go_sem]
  have p3 : ((w.alloc (.cells #[.int .i64 t, .int .i64 n, .int .i64 c1, .int .i64 c2, .int .i64 c3] 108)).alloc (.cells #[.func (.func 102) #[] #[], .func (.func 103) #[] #[], .func (.func 104) #[] #[], .func (.func 105) #[] #[], .func (.func 106) #[] #[], .func (.func 107) #[] #[], .func (.func 108) #[] #[], .func (.func 109) #[] #[]] 134)).cell? ⟨w.heap.size, 3, none⟩ = some (.int .i64 c2) := by simp [go_sem]
  have p4 : ((w.alloc (.cells #[.int .i64 t, .int .i64 n, .int .i64 c1, .int .i64 c2, .int .i64 c3] 108)).alloc (.cells #[.func (.func 102) #[] #[], .func (.func 103) #[] #[], .func (.func 104) #[] #[], .func (.func 105) #[] #[], .func (.func 106) #[] #[], .func (.func 107) #[] #[], .func (.func 108) #[] #[], .func (.func 109) #[] #[]] 134)).cell? ⟨w.heap.size, 4, none⟩ = some (.int .i64 c3) := by simp [go_sem]
  have pf : ((w.alloc (.cells #[.int .i64 t, .int .i64 n, .int .i64 c1, .int .i64 c2, .int .i64 c3] 108)).alloc (.cells #[.func (.func 102) #[] #[], .func (.func 103) #[] #[], .func (.func 104) #[] #[], .func (.func 105) #[] #[], .func (.func 106) #[] #[], .func (.func 107) #[] #[], .func (.func 108) #[] #[], .func (.func 109) #[] #[]] 134)).cell? ⟨w.heap.size + 1, 1, none⟩ = some (.func (.func 103) #[] #[]) := by simp [go_sem]
  clear hk hW
  obtain ⟨R0, hR0⟩ : ∃ R0, (if TOk l ∧ InR n (-10000000) 10000000 then med (if n < 1 then none else repl l t n []) else none) = R0 := ⟨_, rfl⟩
  rw [hR0]
  by_cases hT : TOk l
  · have hT' := hide hT
    by_cases hn0 : n < -10000000
    · have hS := hide (show R0 = none from hR0.symm.trans <| if_neg (fun h => by have := h.2.1; omega))
      clear hT hR0
      go_enter Tryz.func73, Tryz.ntmps73
      go_wp2_with fail
      refine (opened_ok a0 cap l _ (unhide hT') (unhide hk')).mono ?_
      rintro e w1 ⟨rfl, hb⟩
      have g0 := cell_later hb p0
      have g1 := cell_later hb p1
      have g2 := cell_later hb p2
      have g3 := cell_later hb p3
      have g4 := cell_later hb p4
      have gf := cell_later hb pf
      have HW := hide (laterB (unhide hW') hb)
      have K1 := hide ((unhide hk').below hb)
      have hz := World.block_lt_of_cell? _ _ gf
      simp only at hz
      have hz0 : w.heap.size < w1.heap.size := by omega
      clear hb p0 p1 p2 p3 p4 pf
      clear K1
      go_wp2
      exact bodyPost_ret (v := .tuple #[.slice (some ⟨w1.heap.size + 1, 0, none⟩) 0 0, .bool false]) (by simp [results, Tryz.results73, go_sem]) rfl (by have := edR_none (unhide hS) (below_lit (unhide HW) (o := .cells #[.slice a0 l.length cap, .int .i64 (clen l)] 133)); simpa using this)

    have hn0' : decide (n < -10000000) = false := by simpa using hn0
    by_cases hn1 : 10000000 < n
    · have hS := hide (show R0 = none from hR0.symm.trans <| if_neg (fun h => by have := h.2.2; omega))
      clear hT hR0
      go_enter Tryz.func73, Tryz.ntmps73
      go_wp2_with fail
      refine (opened_ok a0 cap l _ (unhide hT') (unhide hk')).mono ?_
      rintro e w1 ⟨rfl, hb⟩
      have g0 := cell_later hb p0
      have g1 := cell_later hb p1
      have g2 := cell_later hb p2
      have g3 := cell_later hb p3
      have g4 := cell_later hb p4
      have gf := cell_later hb pf
      have HW := hide (laterB (unhide hW') hb)
      have K1 := hide ((unhide hk').below hb)
      have hz := World.block_lt_of_cell? _ _ gf
      simp only at hz
      have hz0 : w.heap.size < w1.heap.size := by omega
      clear hb p0 p1 p2 p3 p4 pf
      clear K1
      go_wp2
      exact bodyPost_ret (v := .tuple #[.slice (some ⟨w1.heap.size + 1, 0, none⟩) 0 0, .bool false]) (by simp [results, Tryz.results73, go_sem]) rfl (by have := edR_none (unhide hS) (below_lit (unhide HW) (o := .cells #[.slice a0 l.length cap, .int .i64 (clen l)] 133)); simpa using this)

    have hn1' : decide (10000000 < n) = false := by simpa using hn1
    have hN : -10000000 ≤ n ∧ n ≤ 10000000 := by omega
    rw [if_pos (show TOk l ∧ InR n (-10000000) 10000000 from ⟨hT, hN⟩)] at hR0
    subst hR0
    have hN' := hide hN
    clear hN
    clear hT
    obtain ⟨r, hr⟩ : ∃ r, r = if n < 1 then none else repl l t n [] := ⟨_, rfl⟩
    have hxx := hide (show ∀ x, r = some x → AOk x ∧ x.length ≤ 1000 from fun x hx => by rw [hr] at hx; exact ext_aok (unhide hT') hx)
    rw [← hr]
    have hr' := hide hr
    clear hr
    go_enter Tryz.func73, Tryz.ntmps73
    go_wp2_with fail
    refine (opened_ok a0 cap l _ (unhide hT') (unhide hk')).mono ?_
    rintro e w1 ⟨rfl, hb⟩
    have g0 := cell_later hb p0
    have g1 := cell_later hb p1
    have g2 := cell_later hb p2
    have g3 := cell_later hb p3
    have g4 := cell_later hb p4
    have gf := cell_later hb pf
    have HW := hide (laterB (unhide hW') hb)
    have K1 := hide ((unhide hk').below hb)
    have hz := World.block_lt_of_cell? _ _ gf
    simp only at hz
    have hz0 : w.heap.size < w1.heap.size := by omega
    clear hb p0 p1 p2 p3 p4 pf
    have hA := (Below.refl w1.heap.size w1).alloc (Nat.le_refl _) (.cells #[.slice a0 l.length cap, .int .i64 (clen l)] 133)
    obtain ⟨X, hX⟩ : ∃ X, X = w1.alloc (.cells #[.slice a0 l.length cap, .int .i64 (clen l)] 133) := ⟨_, rfl⟩
    rw [← hX] at hA
    have hall : Hid (X.cell? ⟨w.heap.size, 0, none⟩ = some (.int .i64 t) ∧ X.cell? ⟨w.heap.size, 1, none⟩ = some (.int .i64 n) ∧ X.cell? ⟨w.heap.size, 2, none⟩ = some (.int .i64 c1) ∧ X.cell? ⟨w.heap.size, 3, none⟩ = some (.int .i64 c2) ∧ X.cell? ⟨w.heap.size, 4, none⟩ = some (.int .i64 c3) ∧ X.cell? ⟨w.heap.size + 1, 1, none⟩ = some (.func (.func 103) #[] #[]) ∧ X.cell? ⟨w1.heap.size, 0, none⟩ = some (.slice a0 l.length cap) ∧ X.cell? ⟨w1.heap.size, 1, none⟩ = some (.int .i64 (clen l)) ∧ Below w.heap.size w X) := hide ⟨cell_later hA g0, cell_later hA g1, cell_later hA g2, cell_later hA g3, cell_later hA g4, cell_later hA gf, by rw [hX]; simp [go_sem], by rw [hX]; simp [go_sem], laterB (unhide HW) hA⟩
    have KX := hide ((unhide K1).below hA)
    have q1 := cell_later hA g1
    have hX' := hide hX
    clear hA K1 g0 g2 g3 g4 gf hX hz
    go_wp2_with fail
    rw [← unhide hX']
    go_region_held3 (fun w' => w'.cell? ⟨w.heap.size, 0, none⟩ = some (.int .i64 t) ∧ w'.cell? ⟨w.heap.size, 1, none⟩ = some (.int .i64 n) ∧ w'.cell? ⟨w.heap.size, 2, none⟩ = some (.int .i64 c1) ∧ w'.cell? ⟨w.heap.size, 3, none⟩ = some (.int .i64 c2) ∧ w'.cell? ⟨w.heap.size, 4, none⟩ = some (.int .i64 c3) ∧ w'.cell? ⟨w.heap.size + 1, 1, none⟩ = some (.func (.func 103) #[] #[]) ∧ w'.cell? ⟨w1.heap.size, 0, none⟩ = some (.slice a0 l.length cap) ∧ w'.cell? ⟨w1.heap.size, 1, none⟩ = some (.int .i64 (clen l)) ∧ Below w.heap.size w w')
      (first | (refine keep8 ?_ hbE; assumption) | (exact keep8d (unhide hall)))
      (first | (go_at_call 103; refine (ext_any a0 cap l t n c1 c2 c3 X.drew (unhide hT') (show Kls X.drew a0 l from unhide KX)).mono ?_; rw [← unhide hr']; rintro e w2 ⟨v, rfl, nv, hbE⟩))
    rename_i hH
    have HY := hide hH.2.2.2.2.2.2.2.2
    have hsz : w.heap.size ≤ X.heap.size := (unhide hall).2.2.2.2.2.2.2.2.size
    have nV := hide (own_mono nv hsz)
    clear nv hbE hH hall KX hsz q1
    cases r with
    | none =>
      have hS := hide med_none
      go_wp2
      exact bodyPost_ret (v := .tuple #[.slice (some ⟨w2.heap.size, 0, none⟩) 0 0, .bool false]) (by simp [results, Tryz.results73, go_sem]) rfl (edR_none (unhide hS) (unhide HY))
    | some x =>
      obtain ⟨hxA, hxl⟩ := unhide hxx x rfl
      obtain ⟨a3, c3', rfl, kx, _⟩ := ownV_kls (unhide nV)
      have hxA' := hide hxA
      have kx' := hide kx
      clear hxA kx nV hxx
      have eo : outL (some x) = x := rfl
      rw [eo] at kx' ⊢
      clear eo
      have hi' := hide (itk_any a3 c3' x w2 hxl (unhide hxA') (unhide kx'))
      clear kx'
      obtain ⟨R1, hR1⟩ : ∃ R1, med (some x) = R1 := ⟨_, rfl⟩
      have hR2 : (if TOk (join x) then some (join x) else none) = R1 := by rw [← hR1]; rfl
      rw [hR2] at hi'
      have hR1' := hide hR1
      clear hR1 hR2
      go_wp2_with fail
      refine (unhide hi').mono ?_
      rintro e w3 ⟨g, c, rfl, q3, n3, k3⟩
      have hF := hide (edR_from ⟨g, c, rfl, q3, n3, k3⟩ (unhide HY) : EdR w w3 R1 (.returned (.tuple #[.slice (some ⟨g, 0, none⟩) (outL R1).length c, .bool R1.isSome])))
      clear n3 k3 hi'
      go_wp2
      exact bodyPost_ret (v := .tuple #[.slice (some ⟨g, 0, none⟩) (outL R1).length c, .bool R1.isSome]) (by simp [results, Tryz.results73, go_sem]) rfl (by rw [unhide hR1']; exact unhide hF)
  · have hS := hide (show R0 = none from hR0.symm.trans <| if_neg (fun h => hT h.1))
    clear hR0
    go_enter Tryz.func73, Tryz.ntmps73
    go_wp2_with fail
    refine (opened_no a0 cap l _ hl hT (unhide hk')).mono ?_
    rintro e w1 ⟨rfl, hb⟩
    have g0 := cell_later hb p0
    have g1 := cell_later hb p1
    have g2 := cell_later hb p2
    have g3 := cell_later hb p3
    have g4 := cell_later hb p4
    have gf := cell_later hb pf
    have HW := hide (laterB (unhide hW') hb)
    have K1 := hide ((unhide hk').below hb)
    have hz := World.block_lt_of_cell? _ _ gf
    simp only at hz
    have hz0 : w.heap.size < w1.heap.size := by omega
    clear hb p0 p1 p2 p3 p4 pf
    clear hT
    clear K1
    go_wp2
    exact bodyPost_ret (v := .tuple #[.slice (some ⟨w1.heap.size + 1, 0, none⟩) 0 0, .bool false]) (by simp [results, Tryz.results73, go_sem]) rfl (by have := edR_none (unhide hS) (below_lit (unhide HW) (o := .cells #[.slice none 0 0, .int .i64 0] 133)); simpa using this)

end Go.Proofs.YtioaehjppiodfaaGreatDoor

namespace Go.Proofs.YtioaehjppiodfaaGreatDoor
open Go.RowKit
set_option linter.unusedVariables false
set_option linter.unusedSimpArgs false

set_option maxHeartbeats 800000 in
theorem iExt_any (a0 : Option Addr) (cap : Nat) (l : List Kl) (t n : Int) (w : World) (hl : l.length ≤ maxLen) (hk : Kls w a0 l) :
    Calls Tryz.prog 35 #[.slice a0 l.length cap, .int .i64 t, .int .i64 n] w fun e w' => EdR w w' (extractS l t n) e := by
  have hk' := hide hk
  have hF := hide (fExt l t n)
  obtain ⟨R, hR⟩ : ∃ R, R = extractS l t n := ⟨_, rfl⟩
  rw [← hR]
  have hR' := hide hR
  clear hk hR
  go_enter Tryz.func35, Tryz.ntmps35
  go_wp2_with fail
  refine (edExt_any a0 cap l t n 0 0 0 _ hl (unhide hk')).mono ?_
  rintro e w1 hE
  rw [unhide hF, ← unhide hR'] at hE
  obtain ⟨g, c, rfl, E⟩ := hE
  go_wp2
  exact bodyPost_ret (v := .tuple #[.slice (some ⟨g, 0, none⟩) (outL R).length c, .bool R.isSome]) (by simp [results, Tryz.results35, go_sem]) rfl ⟨g, c, rfl, E⟩

end Go.Proofs.YtioaehjppiodfaaGreatDoor

namespace Go.Proofs.YtioaehjppiodfaaGreatDoor
open Go.RowKit
set_option linter.unusedVariables false
set_option linter.unusedSimpArgs false

set_option maxHeartbeats 400000 in
theorem lif_any (a0 : Option Addr) (cap : Nat) (l : List Kl) (t n c1 c2 c3 : Int) (w : World) (hT : TOk l) (hk : Kls w a0 l) :
    Calls Tryz.prog 104 #[.agg #[.slice a0 l.length cap, .int .i64 (clen l)], .agg #[.int .i64 t, .int .i64 n, .int .i64 c1, .int .i64 c2, .int .i64 c3]] w fun e w' => MdR w w' (repl l t n [(0, 0, n)]) e := by
  have hT' := hide hT
  have L0 := clen_nonneg hT.2.1
  have L1 := hT.2.2
  have hW : Below w.heap.size w ((w.alloc (.cells #[.slice a0 l.length cap, .int .i64 (clen l)] 133)).alloc (.cells #[.int .i64 t, .int .i64 n, .int .i64 c1, .int .i64 c2, .int .i64 c3] 108)) := ((Below.refl _ _).alloc (Nat.le_refl _) _).alloc (by simp) _
  have hW2 := hide (below_lit hW (o := .cells #[.int .i64 0, .int .i64 0, .int .i64 n] 94))
  have K1 := hide (hk.below (unhide hW2))
  have K2 := kls_litT (w := ((w.alloc (.cells #[.slice a0 l.length cap, .int .i64 (clen l)] 133)).alloc (.cells #[.int .i64 t, .int .i64 n, .int .i64 c1, .int .i64 c2, .int .i64 c3] 108))) (T := 94) (c1 := 0) (c2 := 0) (c3 := n)
  rw [show ((w.alloc (.cells #[.slice a0 l.length cap, .int .i64 (clen l)] 133)).alloc (.cells #[.int .i64 t, .int .i64 n, .int .i64 c1, .int .i64 c2, .int .i64 c3] 108)).heap.size = w.heap.size + 1 + 1 by simp] at K2
  replace K2 := hide K2
  clear hk hW hT
  go_enter Tryz.func104, Tryz.ntmps104
  go_wp2_with fail
  refine (repl_any a0 cap l t n _ _ [(0, 0, n)] _ (unhide hT') (by simp) (unhide K1) (unhide K2) (fun h => by cases h)).mono ?_
  rintro e w2 hE
  obtain ⟨v, rfl, E⟩ := mdR_from hE (unhide hW2)
  go_wp2
  exact bodyPost_ret (v := .tuple #[v, .bool (repl l t n [(0, 0, n)]).isSome]) (by simp [results, Tryz.results104, go_sem]) rfl ⟨v, rfl, E⟩

end Go.Proofs.YtioaehjppiodfaaGreatDoor
