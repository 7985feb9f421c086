/-
  The program's Sld of a track as a whole; the answer is new memory, nothing that was there is written.
  The program's edit by its name answers as its model does; the answer is new memory, nothing that was there is written.
  Lists of numbers in memory: owned rows and lists that are read, and contracts of the law's functions that copy them, hold them against each other, write marks into them and look for these again.
  Lists of bytes in memory: owned rows and lists that are read, and contracts of the law's functions that copy them, hold them against each other, write marks into them and look for these again.
-/
import Derived.Test.YtioaehjppiodfaaGreatDoorGMthA
import Derived.Test.YtioaehjppiodfaaGreatDoorGITa
import Derived.Test.YtioaehjppiodfaaGreatDoorGMthsld
import Derived.Test.YtioaehjppiodfaaGreatDoorGCopy
import Derived.Test.YtioaehjppiodfaaGreatDoorGOpn
import Derived.WalkKit
import Derived.WalkSpells
import Derived.WalkLawsBesides
import Derived.Deep.QuietTactic
import Derived.BigQuiet
import Derived.Deep.RegionHeld3
import Derived.Outline
import Derived.Deep.AppendLies
import Derived.Lib.MinMax
namespace Go.Proofs.YtioaehjppiodfaaGreatDoor
open Go.RowKit
set_option linter.unusedVariables false
set_option linter.unusedSimpArgs false

set_option maxRecDepth 10000 in
set_option maxHeartbeats 3200000 in
theorem edSld_any (a0 : Option Addr) (cap : Nat) (l : List Kl) (hA0' : Hid (AdOk a0 cap l)) (t n c1 c2 c3 : Int) (w : World) (hl : l.length ≤ maxLen) (hk : Kls w a0 l) :
    Calls Tryz.prog 73 #[.slice a0 l.length cap, .int .i64 6, .agg #[.int .i64 t, .int .i64 n, .int .i64 c1, .int .i64 c2, .int .i64 c3]] w fun e w' => EdR w w' (if TOk l ∧ InR n (-10000000) 10000000 then med (trimL l [(IntKind.i64.wrap (t - 1), 0, n), (IntKind.i64.wrap (t + 1), n, 0)]) else none) e := by
  have hW : Below w.heap.size w ((w.alloc (.cells #[.int .i64 t, .int .i64 n, .int .i64 c1, .int .i64 c2, .int .i64 c3] 108)).alloc (.cells #[.func (.func 102) #[] #[], .func (.func 103) #[] #[], .func (.func 104) #[] #[], .func (.func 105) #[] #[], .func (.func 106) #[] #[], .func (.func 107) #[] #[], .func (.func 108) #[] #[], .func (.func 109) #[] #[]] 134)) := ((Below.refl _ _).alloc (Nat.le_refl _) _).alloc (by simp) _
  have hk' := hide (hk.below hW)
  have hW' := hide hW
  have p0 : ((w.alloc (.cells #[.int .i64 t, .int .i64 n, .int .i64 c1, .int .i64 c2, .int .i64 c3] 108)).alloc (.cells #[.func (.func 102) #[] #[], .func (.func 103) #[] #[], .func (.func 104) #[] #[], .func (.func 105) #[] #[], .func (.func 106) #[] #[], .func (.func 107) #[] #[], .func (.func 108) #[] #[], .func (.func 109) #[] #[]] 134)).cell? ⟨w.heap.size, 0, none⟩ = some (.int .i64 t) := by simp [go_sem]
  have p1 : ((w.alloc (.cells #[.int .i64 t, .int .i64 n, .int .i64 c1, .int .i64 c2, .int .i64 c3] 108)).alloc (.cells #[.func (.func 102) #[] #[], .func (.func 103) #[] #[], .func (.func 104) #[] #[], .func (.func 105) #[] #[], .func (.func 106) #[] #[], .func (.func 107) #[] #[], .func (.func 108) #[] #[], .func (.func 109) #[] #[]] 134)).cell? ⟨w.heap.size, 1, none⟩ = some (.int .i64 n) := by simp [go_sem]
  have p2 : ((w.alloc (.cells #[.int .i64 t, .int .i64 n, .int .i64 c1, .int .i64 c2, .int .i64 c3] 108)).alloc (.cells #[.func (.func 102) #[] #[], .func (.func 103) #[] #[], .func (.func 104) #[] #[], .func (.func 105) #[] #[], .func (.func 106) #[] #[], .func (.func 107) #[] #[], .func (.func 108) #[] #[], .func (.func 109) #[] #[]] 134)).cell? ⟨w.heap.size, 2, none⟩ = some (.int .i64 c1) := by simp [go_sem]
  have p3 : ((w.alloc (.cells #[.int .i64 t, .int .i64 n, .int .i64 c1, .int .i64 c2, .int .i64 c3] 108)).alloc (.cells #[.func (.func 102) #[] #[], .func (.func 103) #[] #[], .func (.func 104) #[] #[], .func (.func 105) #[] #[], .func (.func 106) #[] #[], .func (.func 107) #[] #[], .func (.func 108) #[] #[], .func (.func 109) #[] #[]] 134)).cell? ⟨w.heap.size, 3, none⟩ = some (.int .i64 c2) := by simp [go_sem]
  have p4 : ((w.alloc (.cells #[.int .i64 t, .int .i64 n, .int .i64 c1, .int .i64 c2, .int .i64 c3] 108)).alloc (.cells #[.func (.func 102) #[] #[], .func (.func 103) #[] #[], .func (.func 104) #[] #[], .func (.func 105) #[] #[], .func (.func 106) #[] #[], .func (.func 107) #[] #[], .func (.func 108) #[] #[], .func (.func 109) #[] #[]] 134)).cell? ⟨w.heap.size, 4, none⟩ = some (.int .i64 c3) := by simp [go_sem]
  have pf : ((w.alloc (.cells #[.int .i64 t, .int .i64 n, .int .i64 c1, .int .i64 c2, .int .i64 c3] 108)).alloc (.cells #[.func (.func 102) #[] #[], .func (.func 103) #[] #[], .func (.func 104) #[] #[], .func (.func 105) #[] #[], .func (.func 106) #[] #[], .func (.func 107) #[] #[], .func (.func 108) #[] #[], .func (.func 109) #[] #[]] 134)).cell? ⟨w.heap.size + 1, 6, none⟩ = some (.func (.func 108) #[] #[]) := by simp [go_sem]
  clear hk hW
  obtain ⟨R0, hR0⟩ : ∃ R0, (if TOk l ∧ InR n (-10000000) 10000000 then med (trimL l [(IntKind.i64.wrap (t - 1), 0, n), (IntKind.i64.wrap (t + 1), n, 0)]) else none) = R0 := ⟨_, rfl⟩
  rw [hR0]
  by_cases hT : TOk l
  · have hT' := hide hT
    by_cases hn0 : n < -10000000
    · have hS := hide (show R0 = none from hR0.symm.trans <| if_neg (fun h => by have := h.2.1; omega))
      clear hT hR0
      go_enter Tryz.func73, Tryz.ntmps73
      go_wp2_with fail
      refine (opened_ok a0 cap l _ (unhide hT') (unhide hk')).mono ?_
      rintro e w1 ⟨rfl, hb⟩
      have g0 := cell_later hb p0
      have g1 := cell_later hb p1
      have g2 := cell_later hb p2
      have g3 := cell_later hb p3
      have g4 := cell_later hb p4
      have gf := cell_later hb pf
      have HW := hide (laterB (unhide hW') hb)
      have K1 := hide ((unhide hk').below hb)
      have hz := World.block_lt_of_cell? _ _ gf
      simp only at hz
      have hz0 : w.heap.size < w1.heap.size := by omega
      clear hb p0 p1 p2 p3 p4 pf
      clear K1
      go_wp2
      exact bodyPost_ret (v := .tuple #[.slice (some ⟨w1.heap.size + 1, 0, none⟩) 0 0, .bool false]) (by simp [results, Tryz.results73, go_sem]) rfl (by have := edR_none (unhide hS) (below_lit (unhide HW) (o := .cells #[.slice a0 l.length cap, .int .i64 (clen l)] 133)); simpa using this)

    have hn0' : decide (n < -10000000) = false := by simpa using hn0
    by_cases hn1 : 10000000 < n
    · have hS := hide (show R0 = none from hR0.symm.trans <| if_neg (fun h => by have := h.2.2; omega))
      clear hT hR0
      go_enter Tryz.func73, Tryz.ntmps73
      go_wp2_with fail
      refine (opened_ok a0 cap l _ (unhide hT') (unhide hk')).mono ?_
      rintro e w1 ⟨rfl, hb⟩
      have g0 := cell_later hb p0
      have g1 := cell_later hb p1
      have g2 := cell_later hb p2
      have g3 := cell_later hb p3
      have g4 := cell_later hb p4
      have gf := cell_later hb pf
      have HW := hide (laterB (unhide hW') hb)
      have K1 := hide ((unhide hk').below hb)
      have hz := World.block_lt_of_cell? _ _ gf
      simp only at hz
      have hz0 : w.heap.size < w1.heap.size := by omega
      clear hb p0 p1 p2 p3 p4 pf
      clear K1
      go_wp2
      exact bodyPost_ret (v := .tuple #[.slice (some ⟨w1.heap.size + 1, 0, none⟩) 0 0, .bool false]) (by simp [results, Tryz.results73, go_sem]) rfl (by have := edR_none (unhide hS) (below_lit (unhide HW) (o := .cells #[.slice a0 l.length cap, .int .i64 (clen l)] 133)); simpa using this)

    have hn1' : decide (10000000 < n) = false := by simpa using hn1
    have hN : -10000000 ≤ n ∧ n ≤ 10000000 := by omega
    rw [if_pos (show TOk l ∧ InR n (-10000000) 10000000 from ⟨hT, hN⟩)] at hR0
    subst hR0
    have hN' := hide hN
    clear hN
    clear hT
    obtain ⟨r, hr⟩ : ∃ r, r = trimL l [(IntKind.i64.wrap (t - 1), 0, n), (IntKind.i64.wrap (t + 1), n, 0)] := ⟨_, rfl⟩
    have hxx := hide (show ∀ x, r = some x → AOk x ∧ x.length ≤ 1000 from fun x hx => by rw [hr] at hx; exact trim_aok (unhide hT') hx)
    rw [← hr]
    have hr' := hide hr
    clear hr
    go_enter Tryz.func73, Tryz.ntmps73
    go_wp2_with fail
    refine (opened_ok a0 cap l _ (unhide hT') (unhide hk')).mono ?_
    rintro e w1 ⟨rfl, hb⟩
    have g0 := cell_later hb p0
    have g1 := cell_later hb p1
    have g2 := cell_later hb p2
    have g3 := cell_later hb p3
    have g4 := cell_later hb p4
    have gf := cell_later hb pf
    have HW := hide (laterB (unhide hW') hb)
    have K1 := hide ((unhide hk').below hb)
    have hz := World.block_lt_of_cell? _ _ gf
    simp only at hz
    have hz0 : w.heap.size < w1.heap.size := by omega
    clear hb p0 p1 p2 p3 p4 pf
    have hA := (Below.refl w1.heap.size w1).alloc (Nat.le_refl _) (.cells #[.slice a0 l.length cap, .int .i64 (clen l)] 133)
    obtain ⟨X, hX⟩ : ∃ X, X = w1.alloc (.cells #[.slice a0 l.length cap, .int .i64 (clen l)] 133) := ⟨_, rfl⟩
    rw [← hX] at hA
    have hall : Hid (X.cell? ⟨w.heap.size, 0, none⟩ = some (.int .i64 t) ∧ X.cell? ⟨w.heap.size, 1, none⟩ = some (.int .i64 n) ∧ X.cell? ⟨w.heap.size, 2, none⟩ = some (.int .i64 c1) ∧ X.cell? ⟨w.heap.size, 3, none⟩ = some (.int .i64 c2) ∧ X.cell? ⟨w.heap.size, 4, none⟩ = some (.int .i64 c3) ∧ X.cell? ⟨w.heap.size + 1, 6, none⟩ = some (.func (.func 108) #[] #[]) ∧ X.cell? ⟨w1.heap.size, 0, none⟩ = some (.slice a0 l.length cap) ∧ X.cell? ⟨w1.heap.size, 1, none⟩ = some (.int .i64 (clen l)) ∧ Below w.heap.size w X) := hide ⟨cell_later hA g0, cell_later hA g1, cell_later hA g2, cell_later hA g3, cell_later hA g4, cell_later hA gf, by rw [hX]; simp [go_sem], by rw [hX]; simp [go_sem], laterB (unhide HW) hA⟩
    have KX := hide ((unhide K1).below hA)
    have q1 := cell_later hA g1
    have hX' := hide hX
    clear hA K1 g0 g2 g3 g4 gf hX hz
    go_wp2_with fail
    rw [← unhide hX']
    go_region_held3 (fun w' => w'.cell? ⟨w.heap.size, 0, none⟩ = some (.int .i64 t) ∧ w'.cell? ⟨w.heap.size, 1, none⟩ = some (.int .i64 n) ∧ w'.cell? ⟨w.heap.size, 2, none⟩ = some (.int .i64 c1) ∧ w'.cell? ⟨w.heap.size, 3, none⟩ = some (.int .i64 c2) ∧ w'.cell? ⟨w.heap.size, 4, none⟩ = some (.int .i64 c3) ∧ w'.cell? ⟨w.heap.size + 1, 6, none⟩ = some (.func (.func 108) #[] #[]) ∧ w'.cell? ⟨w1.heap.size, 0, none⟩ = some (.slice a0 l.length cap) ∧ w'.cell? ⟨w1.heap.size, 1, none⟩ = some (.int .i64 (clen l)) ∧ Below w.heap.size w w')
      (first | (refine keep8 ?_ hbE; assumption) | (exact keep8d (unhide hall)))
      (first | (go_at_call 108; refine (sld_any a0 cap l (unhide hA0') t n c1 c2 c3 X.drew (unhide hT') (show Kls X.drew a0 l from unhide KX) (unhide hN')).mono ?_; rw [← unhide hr']; rintro e w2 ⟨v, rfl, nv, hbE⟩))
    rename_i hH
    have HY := hide hH.2.2.2.2.2.2.2.2
    have hsz : w.heap.size ≤ X.heap.size := (unhide hall).2.2.2.2.2.2.2.2.size
    have nV := hide (own_mono nv hsz)
    clear nv hbE hH hall KX hsz q1
    cases r with
    | none =>
      have hS := hide med_none
      go_wp2
      exact bodyPost_ret (v := .tuple #[.slice (some ⟨w2.heap.size, 0, none⟩) 0 0, .bool false]) (by simp [results, Tryz.results73, go_sem]) rfl (edR_none (unhide hS) (unhide HY))
    | some x =>
      obtain ⟨hxA, hxl⟩ := unhide hxx x rfl
      obtain ⟨a3, c3', rfl, kx, _⟩ := ownV_kls (unhide nV)
      have hxA' := hide hxA
      have kx' := hide kx
      clear hxA kx nV hxx
      have eo : outL (some x) = x := rfl
      rw [eo] at kx' ⊢
      clear eo
      have hi' := hide (itk_any a3 c3' x w2 hxl (unhide hxA') (unhide kx'))
      clear kx'
      obtain ⟨R1, hR1⟩ : ∃ R1, med (some x) = R1 := ⟨_, rfl⟩
      have hR2 : (if TOk (join x) then some (join x) else none) = R1 := by rw [← hR1]; rfl
      rw [hR2] at hi'
      have hR1' := hide hR1
      clear hR1 hR2
      go_wp2_with fail
      refine (unhide hi').mono ?_
      rintro e w3 ⟨g, c, rfl, q3, n3, k3⟩
      have hF := hide (edR_from ⟨g, c, rfl, q3, n3, k3⟩ (unhide HY) : EdR w w3 R1 (.returned (.tuple #[.slice (some ⟨g, 0, none⟩) (outL R1).length c, .bool R1.isSome])))
      clear n3 k3 hi'
      go_wp2
      exact bodyPost_ret (v := .tuple #[.slice (some ⟨g, 0, none⟩) (outL R1).length c, .bool R1.isSome]) (by simp [results, Tryz.results73, go_sem]) rfl (by rw [unhide hR1']; exact unhide hF)
  · have hS := hide (show R0 = none from hR0.symm.trans <| if_neg (fun h => hT h.1))
    clear hR0
    go_enter Tryz.func73, Tryz.ntmps73
    go_wp2_with fail
    refine (opened_no a0 cap l _ hl hT (unhide hk')).mono ?_
    rintro e w1 ⟨rfl, hb⟩
    have g0 := cell_later hb p0
    have g1 := cell_later hb p1
    have g2 := cell_later hb p2
    have g3 := cell_later hb p3
    have g4 := cell_later hb p4
    have gf := cell_later hb pf
    have HW := hide (laterB (unhide hW') hb)
    have K1 := hide ((unhide hk').below hb)
    have hz := World.block_lt_of_cell? _ _ gf
    simp only at hz
    have hz0 : w.heap.size < w1.heap.size := by omega
    clear hb p0 p1 p2 p3 p4 pf
    clear hT
    clear K1
    go_wp2
    exact bodyPost_ret (v := .tuple #[.slice (some ⟨w1.heap.size + 1, 0, none⟩) 0 0, .bool false]) (by simp [results, Tryz.results73, go_sem]) rfl (by have := edR_none (unhide hS) (below_lit (unhide HW) (o := .cells #[.slice none 0 0, .int .i64 0] 133)); simpa using this)

end Go.Proofs.YtioaehjppiodfaaGreatDoor

namespace Go.Proofs.YtioaehjppiodfaaGreatDoor
open Go.RowKit
set_option linter.unusedVariables false
set_option linter.unusedSimpArgs false

/-- a slide, as the program does it: of the clip ahead and the clip behind alone it is asked that they are no gap -/
def slidS (l : List Kl) (i n : Int) : Option (List Kl) := if TOk l ∧ InR n (-10000000) 10000000 then med (trimL l [(IntKind.i64.wrap (i - 1), 0, n), (IntKind.i64.wrap (i + 1), n, 0)]) else none
theorem fSld (l : List Kl) (t n : Int) : (if TOk l ∧ InR n (-10000000) 10000000 then med (trimL l [(IntKind.i64.wrap (t - 1), 0, n), (IntKind.i64.wrap (t + 1), n, 0)]) else none) = slidS l t n := rfl

set_option maxHeartbeats 800000 in
theorem iSld_any (a0 : Option Addr) (cap : Nat) (l : List Kl) (hA0' : Hid (AdOk a0 cap l)) (t n : Int) (w : World) (hl : l.length ≤ maxLen) (hk : Kls w a0 l) :
    Calls Tryz.prog 39 #[.slice a0 l.length cap, .int .i64 t, .int .i64 n] w fun e w' => EdR w w' (slidS l t n) e := by
  have hk' := hide hk
  have hF := hide (fSld l t n)
  obtain ⟨R, hR⟩ : ∃ R, R = slidS l t n := ⟨_, rfl⟩
  rw [← hR]
  have hR' := hide hR
  clear hk hR
  go_enter Tryz.func39, Tryz.ntmps39
  go_wp2_with fail
  refine (edSld_any a0 cap l hA0' t n 0 0 0 _ hl (unhide hk')).mono ?_
  rintro e w1 hE
  rw [unhide hF, ← unhide hR'] at hE
  obtain ⟨g, c, rfl, E⟩ := hE
  go_wp2
  exact bodyPost_ret (v := .tuple #[.slice (some ⟨g, 0, none⟩) (outL R).length c, .bool R.isSome]) (by simp [results, Tryz.results39, go_sem]) rfl ⟨g, c, rfl, E⟩

end Go.Proofs.YtioaehjppiodfaaGreatDoor

namespace Go.Proofs.YtioaehjppiodfaaGreatDoor
open Go.RowKit
set_option linter.unusedVariables false
set_option linter.unusedSimpArgs false

theorem infoI : (Tryz.prog.info? 2).map (fun i => (i.zero, i.size, i.bytes)) = some (some (.int .i64 0), 1, 8) := by kernel_rfl
/-- the numbers l behind the address a -/
def Ins (w : World) (a : Option Addr) (l : List Int) : Prop :=
  ∀ j x, l[j]? = some x → ∃ b o, a = some ⟨b, o, none⟩ ∧ b < w.heap.size ∧ w.cell? ⟨b, o + j, none⟩ = some (.int .i64 x)
theorem Ins.nil {w : World} {a : Option Addr} : Ins w a [] := by intro j z hz; simp at hz
theorem Ins.below {w w' : World} {a : Option Addr} {l : List Int} (h : Ins w a l) (s : Below w.heap.size w w') : Ins w' a l := by
  intro j x hx
  obtain ⟨b, o, e, h1, c0⟩ := h j x hx
  exact ⟨b, o, e, Nat.lt_of_lt_of_le h1 s.size, ((bcell s).1 b _ h1).trans c0⟩
theorem ins_at {w wr : World} {a : Option Addr} {l : List Int} {k : Nat} (h : Ins w a l) (hw : Below w.heap.size w wr) (hk : k < l.length) : ∃ b o x, a = some ⟨b, o, none⟩ ∧ l[k]? = some x ∧ b < w.heap.size ∧ wr.cell? ⟨b, o + k, none⟩ = some (.int .i64 x) := by
  obtain ⟨b, o, e, h1, c0⟩ := h k l[k] (List.getElem?_eq_getElem hk)
  exact ⟨b, o, _, e, List.getElem?_eq_getElem hk, h1, ((bcell hw).1 b _ h1).trans c0⟩
/-- an owned list of numbers -/
abbrev OwnI (w : World) (B g n cap : Nat) (l : List Int) : Prop := w.ownsRow B 2 1 (.slice (some ⟨g, 0, none⟩) n cap) n (l.map iv)
theorem ownI_len {w : World} {B g n cap : Nat} {l : List Int} (h : OwnI w B g n cap l) : l.length = n := by
  have hl : (l.map iv).length = n * 1 := h.1
  simpa using hl
theorem ownI_at {w : World} {B g n cap k : Nat} {l : List Int} {x : Int} (hk : l[k]? = some x) (h : OwnI w B g n cap l) : w.cell? ⟨g, k, none⟩ = some (.int .i64 x) := by
  have hl := ownI_len h
  have hj : k < l.length := (List.getElem?_eq_some_iff.1 hk).1
  have := h.cellAt k (by omega)
  rw [this, List.getElem?_map, hk]; rfl
theorem ownI_put {w : World} {B g n cap : Nat} {l : List Int} (k : Nat) (x : Int) (h : OwnI w B g n cap l) : OwnI (w.setCell ⟨g, k, none⟩ (.int .i64 x)) B g n cap (l.set k x) := by
  have h1 := (h.stored k (iv x)).1
  show World.ownsRow _ _ _ _ _ _ _
  rw [List.map_set]; exact h1
theorem ins_own {w : World} {B g n cap : Nat} {l : List Int} (h : OwnI w B g n cap l) : Ins w (some ⟨g, 0, none⟩) l := by
  intro j z hj
  exact ⟨g, 0, rfl, own_lt h, by rw [Nat.zero_add]; exact ownI_at hj h⟩
theorem ownI_lit0 (w : World) {B : Nat} (hB : B ≤ w.heap.size) : OwnI (w.alloc (.cells #[] 2)) B w.heap.size 0 0 [] := by
  have h := World.ownsRow_lit (base := B) (e := 2) (size := 1) w #[] 0 hB (by unfold maxLen; omega) rfl
  exact h
theorem ownI_lit3 (w : World) {B : Nat} (a b c : Int) (hB : B ≤ w.heap.size) : OwnI (w.alloc (.cells #[.int .i64 a, .int .i64 b, .int .i64 c] 2)) B w.heap.size 3 3 [a, b, c] := by
  have h := World.ownsRow_lit (base := B) (e := 2) (size := 1) w #[.int .i64 a, .int .i64 b, .int .i64 c] 3 hB (by unfold maxLen; omega) rfl
  exact h

/-- the copy's list as it stands -/
def midI (l : List Int) (n k : Nat) : List Int := l.take k ++ List.replicate (n - k) 0
theorem midI_len {l : List Int} {n k : Nat} (hl : l.length = n) (hk : k ≤ n) : (midI l n k).length = n := by simp [midI]; omega
theorem midI_set {l : List Int} {n k : Nat} {x : Int} (hl : l.length = n) (h : l[k]? = some x) : (midI l n k).set k x = midI l n (k + 1) := by
  have hk : k < l.length := (List.getElem?_eq_some_iff.1 h).1
  unfold midI
  rw [List.take_add_one, h, List.set_append_right _ _ (by simp; omega)]
  have e : n - k = (n - (k + 1)) + 1 := by omega
  rw [e, List.replicate_succ]
  have e2 : k - (l.take k).length = 0 := by simp; omega
  rw [e2]; simp
theorem made_I (n : Nat) : (madeCells #[.int .i64 0] n).toList = (List.replicate n (0 : Int)).map iv := by
  have := toList_madeCells_one (.int .i64 0) n
  simpa [iv] using this

end Go.Proofs.YtioaehjppiodfaaGreatDoor

namespace Go.Proofs.YtioaehjppiodfaaGreatDoor
open Go.RowKit
set_option linter.unusedVariables false
set_option linter.unusedSimpArgs false

abbrev bv (x : Int) : Value := .int .u8 x
/-- numbers of a byte -/
def Byt (l : List Int) : Prop := ∀ z ∈ l, 0 ≤ z ∧ z ≤ 255
theorem infoB : (Tryz.prog.info? 5).map (fun i => (i.zero, i.size, i.bytes)) = some (some (.int .u8 0), 1, 1) := by kernel_rfl
/-- the numbers l behind the address a -/
def Bys (w : World) (a : Option Addr) (l : List Int) : Prop :=
  ∀ j x, l[j]? = some x → ∃ b o, a = some ⟨b, o, none⟩ ∧ b < w.heap.size ∧ w.cell? ⟨b, o + j, none⟩ = some (.int .u8 x)
theorem Bys.nil {w : World} {a : Option Addr} : Bys w a [] := by intro j z hz; simp at hz
theorem Bys.below {w w' : World} {a : Option Addr} {l : List Int} (h : Bys w a l) (s : Below w.heap.size w w') : Bys w' a l := by
  intro j x hx
  obtain ⟨b, o, e, h1, c0⟩ := h j x hx
  exact ⟨b, o, e, Nat.lt_of_lt_of_le h1 s.size, ((bcell s).1 b _ h1).trans c0⟩
theorem bys_at {w wr : World} {a : Option Addr} {l : List Int} {k : Nat} (h : Bys w a l) (hw : Below w.heap.size w wr) (hk : k < l.length) : ∃ b o x, a = some ⟨b, o, none⟩ ∧ l[k]? = some x ∧ b < w.heap.size ∧ wr.cell? ⟨b, o + k, none⟩ = some (.int .u8 x) := by
  obtain ⟨b, o, e, h1, c0⟩ := h k l[k] (List.getElem?_eq_getElem hk)
  exact ⟨b, o, _, e, List.getElem?_eq_getElem hk, h1, ((bcell hw).1 b _ h1).trans c0⟩
/-- an owned list of numbers -/
abbrev OwnB (w : World) (B g n cap : Nat) (l : List Int) : Prop := w.ownsRow B 5 1 (.slice (some ⟨g, 0, none⟩) n cap) n (l.map bv)
theorem ownB_len {w : World} {B g n cap : Nat} {l : List Int} (h : OwnB w B g n cap l) : l.length = n := by
  have hl : (l.map bv).length = n * 1 := h.1
  simpa using hl
theorem ownB_at {w : World} {B g n cap k : Nat} {l : List Int} {x : Int} (hk : l[k]? = some x) (h : OwnB w B g n cap l) : w.cell? ⟨g, k, none⟩ = some (.int .u8 x) := by
  have hl := ownB_len h
  have hj : k < l.length := (List.getElem?_eq_some_iff.1 hk).1
  have := h.cellAt k (by omega)
  rw [this, List.getElem?_map, hk]; rfl
theorem ownB_put {w : World} {B g n cap : Nat} {l : List Int} (k : Nat) (x : Int) (h : OwnB w B g n cap l) : OwnB (w.setCell ⟨g, k, none⟩ (.int .u8 x)) B g n cap (l.set k x) := by
  have h1 := (h.stored k (bv x)).1
  show World.ownsRow _ _ _ _ _ _ _
  rw [List.map_set]; exact h1
theorem bys_own {w : World} {B g n cap : Nat} {l : List Int} (h : OwnB w B g n cap l) : Bys w (some ⟨g, 0, none⟩) l := by
  intro j z hj
  exact ⟨g, 0, rfl, own_lt h, by rw [Nat.zero_add]; exact ownB_at hj h⟩
theorem ownB_lit0 (w : World) {B : Nat} (hB : B ≤ w.heap.size) : OwnB (w.alloc (.cells #[] 5)) B w.heap.size 0 0 [] := by
  have h := World.ownsRow_lit (base := B) (e := 5) (size := 1) w #[] 0 hB (by unfold maxLen; omega) rfl
  exact h
/-- the copy's list as it stands -/
def midB (l : List Int) (n k : Nat) : List Int := l.take k ++ List.replicate (n - k) 0
theorem midB_len {l : List Int} {n k : Nat} (hl : l.length = n) (hk : k ≤ n) : (midB l n k).length = n := by simp [midB]; omega
theorem midB_set {l : List Int} {n k : Nat} {x : Int} (hl : l.length = n) (h : l[k]? = some x) : (midB l n k).set k x = midB l n (k + 1) := by
  have hk : k < l.length := (List.getElem?_eq_some_iff.1 h).1
  unfold midB
  rw [List.take_add_one, h, List.set_append_right _ _ (by simp; omega)]
  have e : n - k = (n - (k + 1)) + 1 := by omega
  rw [e, List.replicate_succ]
  have e2 : k - (l.take k).length = 0 := by simp; omega
  rw [e2]; simp
theorem made_B (n : Nat) : (madeCells #[.int .u8 0] n).toList = (List.replicate n (0 : Int)).map bv := by
  have := toList_madeCells_one (.int .u8 0) n
  simpa [bv] using this

end Go.Proofs.YtioaehjppiodfaaGreatDoor
