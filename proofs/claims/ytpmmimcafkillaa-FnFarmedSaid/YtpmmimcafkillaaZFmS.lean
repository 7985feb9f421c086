/-
  The contract of the model's Farm: it answers who works when, in new memory; nothing that was there is written.
-/
import Derived.Test.YtpmmimcafkillaaZFmM
import Derived.Test.YtpmmimcafkillaaZJbS
import Derived.Test.YtpmmimcafkillaaZUi
import Derived.Deep.CutRange
import Derived.Deep.CutBlock
namespace Go.Proofs.Ytpmmimcafkillaa
open Go.RowKit
set_option linter.unusedVariables false
set_option linter.unusedSimpArgs false

abbrev bv (x : Bool) : Value := .bool x
def nz (x : Int) : Bool := !(x == 0)
theorem infoB : (Try.prog.info? 4).map (fun i => (i.zero, i.size, i.bytes)) = some (some (.bool false), 1, 1) := by kernel_rfl
abbrev OwnF (w : World) (B g n : Nat) (l : List Bool) : Prop := w.ownsRow B 4 1 (.slice (some ⟨g, 0, none⟩) n n) n (l.map bv)
theorem made_B (n : Nat) : (madeCells #[.bool false] n).toList = (List.replicate n false).map bv := by
  have := toList_madeCells_one (.bool false) n
  simpa [bv] using this
structure FS (W0 wr : World) (gE gF gT gR cR n V m : Nat) (ends free : List Int) (tk : List Bool) (runs : List Kl) : Prop where
  M : FM W0 wr gE gF gR cR n V m ends free runs
  T : OwnF wr W0.heap.size gT n tk
theorem FS.later {W0 wr w1 : World} {gE gF gT gR cR n V m : Nat} {ends free : List Int} {tk : List Bool} {runs : List Kl} (h : FS W0 wr gE gF gT gR cR n V m ends free tk runs) (hb : Below wr.heap.size wr w1) : FS W0 w1 gE gF gT gR cR n V m ends free tk runs :=
  ⟨h.M.later hb, ownsRow_below h.T hb⟩
theorem FS.setE {W0 wr : World} {gE gF gT gR cR n V m : Nat} {ends free : List Int} {tk : List Bool} {runs : List Kl} (h : FS W0 wr gE gF gT gR cR n V m ends free tk runs) (i : Nat) (e : Int) : FS W0 (wr.setCell ⟨gE, i, none⟩ (.int .i64 e)) gE gF gT gR cR n V m (ends.set i e) free tk runs :=
  ⟨h.M.setE i e, own_set h.T (own_tags h.M.E h.T (by decide)) _⟩
theorem FS.setF {W0 wr : World} {gE gF gT gR cR n V m : Nat} {ends free : List Int} {tk : List Bool} {runs : List Kl} (h : FS W0 wr gE gF gT gR cR n V m ends free tk runs) (i : Nat) (e : Int) : FS W0 (wr.setCell ⟨gF, i, none⟩ (.int .i64 e)) gE gF gT gR cR n V m ends (free.set i e) tk runs :=
  ⟨h.M.setF i e, own_set h.T (own_tags h.M.F h.T (by decide)) _⟩
theorem FS.setT {W0 wr : World} {gE gF gT gR cR n V m : Nat} {ends free : List Int} {tk : List Bool} {runs : List Kl} (h : FS W0 wr gE gF gT gR cR n V m ends free tk runs) (i : Nat) (b : Bool) : FS W0 (wr.setCell ⟨gT, i, none⟩ (.bool b)) gE gF gT gR cR n V m ends free (tk.set i b) runs := by
  have hM := h.M
  refine ⟨⟨own_set hM.E (own_tags h.T hM.E (by decide)) _, own_set hM.F (own_tags h.T hM.F (by decide)) _, own_set hM.R (own_tags h.T hM.R (by decide)) _, hM.ne, hM.bel.setCell (own_ge h.T) _⟩, ?_⟩
  have h1 := (h.T.stored i (bv b)).1
  show World.ownsRow _ _ _ _ _ _ _
  rw [List.map_set]; exact h1
theorem FS.app {W0 wr w1 : World} {gE gF gT gR cR n V m g' c' : Nat} {ends free : List Int} {tk : List Bool} {runs : List Kl} {r : Kl} (h : FS W0 wr gE gF gT gR cR n V m ends free tk runs) (ho : Own w1 W0.heap.size g' (m + 1) c' (runs ++ [r])) (hg : wr.grownBy w1 (some gR)) : FS W0 w1 gE gF gT g' c' n V (m + 1) ends free tk (runs ++ [r]) :=
  ⟨h.M.app ho hg, own_kept h.T hg (own_tags h.T h.M.R (by decide))⟩
theorem FS.cellT {W0 wr : World} {gE gF gT gR cR n V m i : Nat} {x : Bool} {ends free : List Int} {tk : List Bool} {runs : List Kl} (h : FS W0 wr gE gF gT gR cR n V m ends free tk runs) (hx : tk[i]? = some x) : wr.cell? ⟨gT, i, none⟩ = some (.bool x) ∧ wr.frozen? ⟨gT, i, none⟩ = false := by
  have hl : (tk.map bv).length = n * 1 := h.T.1
  have hj : i < tk.length := (List.getElem?_eq_some_iff.1 hx).1
  refine ⟨?_, h.T.frozenAt i⟩
  rw [h.T.cellAt i (by simp at hl; omega), List.getElem?_map, hx]; rfl
theorem nz_at {ends : List Int} {i : Nat} {y : Int} (h : ends[i]? = some y) : (ends.map nz)[i]? = some (nz y) := by simp [h]
theorem nz_set {ends : List Int} {i : Nat} {e : Int} (he : e ≠ 0) : (ends.map nz).set i true = (ends.set i e).map nz := by
  rw [List.map_set]
  have : nz e = true := by simp [nz, he]
  rw [this]
theorem hvE_snoc {ends zs : List Int} {q : Int} {k m : Nat} {y : Int} (h : zs[k]? = some (m : Int)) (hy : ends[m]? = some y) : hvE ends q (zs.take (k + 1)) = (hvE ends q (zs.take k) && (nz y && decide (y ≤ q))) := by
  rw [take_snocK h]
  simp [hvE, nz, List.getD_eq_getElem?_getD, hy]

set_option maxRecDepth 100000 in
set_option maxHeartbeats 12800000 in
theorem sfarm_any (a : Option Addr) (cap : Nat) (ts : List Tv) (W : Int) (w : World) (hl : ts.length ≤ maxLen) (hr : Tks w a ts) :
    Calls Try.prog 12 #[.slice a ts.length cap, .int .i64 W] w (AnR w (farmOf ts W)) := by
  have hr' := hide hr
  have B0 := hide (show Below w.heap.size w (w.alloc (.cells #[] 31)) from (Below.refl _ _).alloc (Nat.le_refl _) _)
  have O0 := hide (own_lit0 w (Nat.le_refl _))
  have cj := hide (sjob_any a cap ts (w.alloc (.cells #[] 31)) hl (hr.below (unhide B0)))
  have hl' := hide hl
  clear hr hl
  obtain ⟨v, hv⟩ : ∃ v, jobOk ts = v := ⟨_, rfl⟩
  have hv' := hide hv
  clear hv
  go_enter Try.func12, Try.ntmps12
  go_wp2_with fail
  refine (unhide cj).mono ?_
  rintro e w1 ⟨rfl, k1⟩
  rw [unhide hv']
  have B1 := hide (laterB (unhide B0) k1)
  have R1 := hide (ownsRow_below (unhide O0) k1)
  clear k1 cj B0 O0
  cases v with
  | false =>
    have hf := hide (show farmOf ts W = [] by rw [farmOf, if_neg (by rw [unhide hv']; simp)])
    go_wp2
    go_ret
    exact ⟨w.heap.size, 0, by rw [unhide hf]; rfl, Nat.le_refl _, by rw [unhide hf]; exact unhide R1, unhide B1⟩
  | true =>
  obtain ⟨x5, e5⟩ : ∃ x, (decide ((1 : Int) ≤ W) && decide (W ≤ (50 : Int))) = x := ⟨_, rfl⟩
  have e5' := hide e5
  clear e5
  go_wp2_with fail
  refine (in_any W 1 50 x5 _ (unhide e5')).mono ?_
  rintro e w1' ⟨rfl, rfl⟩
  cases x5 with
  | false =>
    have hf := hide (show farmOf ts W = [] by rw [farmOf, if_neg (by have h5 := unhide e5'; simp at h5; omega)])
    go_wp2
    go_ret
    exact ⟨w.heap.size, 0, by rw [unhide hf]; rfl, Nat.le_refl _, by rw [unhide hf]; exact unhide R1, unhide B1⟩
  | true =>
  have hWW : 1 ≤ W ∧ W ≤ 50 := by have h5 := unhide e5'; simp at h5; exact h5
  obtain ⟨V, rfl⟩ := Int.eq_ofNat_of_zero_le (show 0 ≤ W by omega)
  have hV0 : 0 < V := by omega
  have hV1 : V ≤ 50 := by omega
  have hJ' : Hid (jobOk ts = true) := hv'
  have hs200 : ts.length ≤ 200 := job_short (unhide hJ')
  have hf0 := hide (show farmOf ts V = fin ts 200001 (st0 ts.length V) by rw [farmOf, if_pos ⟨unhide hJ', by omega, by omega⟩]; rfl)
  obtain ⟨i1, hj, hy0, hy1, hy2⟩ := info_parts infoI
  obtain ⟨i2, hb0, hb1, hb2, hb3⟩ := info_parts infoB
  clear hWW e5'
  go_wp2_with (refine wpList_make_full _ rfl _ _ 29 rfl w.heap.size 2 i1 (.int .i64 0) 1 Try.underlying29 hj hy0 hy1 .i64 .i64 _ _ V rfl rfl rfl rfl ?b2 ?b3 ?b4 ?_)
  case b2 => rw [hy2]; omega
  case b3 => unfold maxLen; omega
  case b4 => exact (unhide B1).size
  intro w3 oF gw3
  have B3 := hide (laterB (unhide B1) (grown_none gw3))
  have F3 := hide (show OwnI w3 w.heap.size w1'.heap.size V V (List.replicate V 0) by show World.ownsRow _ _ _ _ _ _ _; rw [← made_I]; simpa using oF)
  have R3 := hide (ownsRow_below (unhide R1) (grown_none gw3))
  have hs23 := hide (own_lt (unhide F3))
  clear oF gw3 B1 R1
  go_wp2_with (refine wpList_make_full _ rfl _ _ 29 rfl w.heap.size 2 i1 (.int .i64 0) 1 Try.underlying29 hj hy0 hy1 .i64 .i64 _ _ ts.length rfl rfl rfl rfl ?b2 ?b3 ?b4 ?_)
  case b2 => rw [hy2]; omega
  case b3 => unfold maxLen; omega
  case b4 => exact (unhide B3).size
  intro w4 oE gw4
  have B4 := hide (laterB (unhide B3) (grown_none gw4))
  have E4 := hide (show OwnI w4 w.heap.size w3.heap.size ts.length ts.length (List.replicate ts.length 0) by show World.ownsRow _ _ _ _ _ _ _; rw [← made_I]; simpa using oE)
  have R4 := hide (ownsRow_below (unhide R3) (grown_none gw4))
  have F4 := hide (ownsRow_below (unhide F3) (grown_none gw4))
  clear oE gw4 B3 R3 F3
  go_wp2_with (refine wpList_make_full _ rfl _ _ 61 rfl w.heap.size 4 i2 (.bool false) 1 Try.underlying61 hb0 hb1 hb2 .i64 .i64 _ _ ts.length rfl rfl rfl rfl ?b2 ?b3 ?b4 ?_)
  case b2 => rw [hb3]; omega
  case b3 => unfold maxLen; omega
  case b4 => exact (unhide B4).size
  intro w5 oT gw5
  have B5 := hide (laterB (unhide B4) (grown_none gw5))
  have M0 := hide (show FS w w5 w3.heap.size w1'.heap.size w4.heap.size w.heap.size 0 ts.length V 0 (List.replicate ts.length 0) (List.replicate V 0) ((List.replicate ts.length (0 : Int)).map nz) [] from ⟨⟨ownsRow_below (unhide E4) (grown_none gw5), ownsRow_below (unhide F4) (grown_none gw5), ownsRow_below (unhide R4) (grown_none gw5), by have := unhide hs23; omega, unhide B5⟩, by
    show World.ownsRow _ _ _ _ _ _ _
    have e1 : (List.replicate ts.length (0 : Int)).map nz = List.replicate ts.length false := by simp [nz]
    rw [e1, ← made_B]; simpa using oT⟩)
  clear oT gw5 B4 R4 F4 E4 B5 hs23 hj hy0 hy1 hy2 hb0 hb1 hb2 hb3
  generalize w3.heap.size = gE at *
  generalize w1'.heap.size = gF at *
  generalize w4.heap.size = gT at *
  obtain ⟨gR0, hgR0⟩ : ∃ g, w.heap.size = g := ⟨_, rfl⟩
  have M0 := hide (show FS w w5 gE gF gT gR0 0 ts.length V 0 (List.replicate ts.length 0) (List.replicate V 0) ((List.replicate ts.length (0 : Int)).map nz) [] by rw [← hgR0]; exact unhide M0)
  have hgR0' := hide hgR0
  clear hgR0
  go_wp2
  go_loopw [5, 9] (fun u t wr => ∃ (s : St) (gR cR m f : Nat) (q : Int), t = .int .i64 q ∧ u = .slice (some ⟨gR, 0, none⟩) m cR ∧ m ≤ ts.length ∧ Hid (s.runs.length = m) ∧ Hid (FInv ts V s) ∧ Hid (s.now = q) ∧ Hid (farmOf ts V = fin ts f s) ∧ Hid ((200001 - s.now).toNat ≤ f) ∧ Hid (FS w wr gE gF gT gR cR ts.length V m s.ends s.free (s.ends.map nz) s.runs)) (fun _ t _ => (200001 - intOf t).toNat)
  case atStart => exact ⟨st0 ts.length V, w.heap.size, 0, 0, 200001, 0, rfl, rfl, by omega, hide rfl, hide (FInv.zero ts V), hide rfl, hf0, hide (by simp [st0]), hide (by rw [unhide hgR0']; exact unhide M0)⟩
  case round =>
    obtain ⟨s, gR, cR, m, f, q, rfl, rfl, hmn, hm, hI, hq, hf, hfl, hM⟩ := hrel
    by_cases hrun : m < ts.length
    rotate_left
    · have hfin := hide (show farmOf ts V = s.runs by rw [unhide hf, fin_end (by have := unhide hm; omega)])
      have g3 : decide ((m : Int) < ts.length) = false := by simp; omega
      clear hf
      go_wp2
      go_ret
      refine ⟨gR, cR, ?_, ?_, ?_, ?_⟩
      · rw [unhide hfin, unhide hm]; rfl
      · exact own_ge (unhide hM).M.R
      · rw [unhide hfin, unhide hm]; exact (unhide hM).M.R
      · exact (unhide hM).M.bel
    have g3 : decide ((m : Int) < ts.length) = true := by simp; omega
    have hrl := hide (show s.runs.length < ts.length by have := unhide hm; omega)
    obtain ⟨f', hfe0⟩ : ∃ f', f = f' + 1 := ⟨f - 1, by have h5 := unhide hfl; have h6 := (unhide hI).now1; have := unhide hrl; have := unhide hq; omega⟩
    have hfe := hide hfe0
    clear hfe0
    rename World => wo
    go_wp2
    go_loopw [5, 10] (fun u t wr => ∃ (s2 : St) (gR2 c2 m2 k : Nat), k ≤ V ∧ t = .int .i64 k ∧ u = .slice (some ⟨gR2, 0, none⟩) m2 c2 ∧ m2 ≤ ts.length ∧ Hid (s2.runs.length = m2) ∧ Hid (FInv ts V s2) ∧ Hid (s2.now = q) ∧ Hid (swF ts V 0 s = swF ts (V - k) k s2) ∧ Hid (FS w wr gE gF gT gR2 c2 ts.length V m2 s2.ends s2.free (s2.ends.map nz) s2.runs)) (fun _ t _ => V - (intOf t).toNat)
    case atStart => exact ⟨s, gR, cR, m, 0, by omega, rfl, rfl, hmn, hm, hI, hq, hide rfl, hM⟩
    case round =>
      obtain ⟨s2, gR2, c2, m2, k, hkV, rfl, rfl, hm2n, hm2, hI2, hq2, hsw0, hM2⟩ := hrel
      rename World => wi
      by_cases hk : k < V
      rotate_left
      · have hke : k = V := by omega
        have hsw := hide (show swF ts V 0 s = s2 by rw [unhide hsw0, hke, Nat.sub_self]; rfl)
        have gk : decide ((k : Int) < V) = false := by simp; omega
        have hwk := hide (show Wk s2 by have h5 := works (unhide hI) (unhide hJ') hV0 (unhide hrl); rw [unhide hsw] at h5; exact h5)
        have hadv := hide ((unhide hI2).adv (unhide hwk))
        have hfn := hide (show farmOf ts V = fin ts f' (adv s2) by rw [unhide hf, unhide hfe, fin_on (unhide hrl), (unhide hI).nf, unhide hsw])
        have hqq := hide (show q < (adv s2).now by rw [← unhide hq2]; exact (unhide hadv).2)
        have hmu := hide (show (200001 - (adv s2).now).toNat ≤ f' by have h5 := unhide hqq; have h6 := unhide hfl; have h7 := unhide hfe; have h8 := unhide hq; omega)
        have hn0 : 0 ≤ q := by rw [← unhide hq2]; exact (unhide hI2).now0
        clear hsw0 hke hM hwk hsw hf hfl
        go_wp2
        go_loop [15, 16] (fun u t => ∃ (j : Nat) (z : Int), j ≤ ts.length ∧ t = .int .i64 j ∧ u = .int .i64 z ∧ Hid (z = lG q isS (-1) (s2.ends.take j))) (fun _ t => ts.length - (intOf t).toNat)
        case atStart => exact ⟨0, -1, by omega, rfl, rfl, hide rfl⟩
        case round =>
          obtain ⟨j, z, hjl, rfl, rfl, hz⟩ := hrel
          by_cases hlt : j < ts.length
          rotate_left
          · have hje : j = ts.length := by omega
            obtain ⟨q9, hq9⟩ : ∃ q9, (adv s2).now = q9 := ⟨_, rfl⟩
            have hzq : z = q9 := by rw [← hq9, unhide hz, hje, ← (unhide hI2).ne, List.take_length]; show _ = nxS s2.now s2.ends; rw [unhide hq2]; rfl
            subst hzq
            have hq9' := hide hq9
            have hqq2 := hide (show q < z by rw [← hq9]; exact unhide hqq)
            have hqb := hide (show z ≤ 200000 by have h5 := (unhide hadv).1.now1; have h6 := (unhide hadv).1.runs; rw [hq9] at h5; have h7 := hs200; omega)
            clear hq9 hje hz
            go_wp2
            go_roundw
            case rel => exact ⟨adv s2, gR2, c2, m2, f', z, rfl, rfl, hm2n, hm2, hide (unhide hadv).1, hq9', hfn, hmu, hM2⟩
            case measure => have h5 := unhide hqq2; have h6 := unhide hqb; simp [intOf]; omega
          obtain ⟨y, hy⟩ : ∃ y, s2.ends[j]? = some y := ⟨s2.ends[j]'(by have := (unhide hI2).ne; omega), List.getElem?_eq_getElem _⟩
          obtain ⟨cT, _⟩ := (unhide hM2).cellT (nz_at hy)
          obtain ⟨cE, _⟩ := (unhide hM2).M.cellE hy
          have hs := hide (show lG q isS (-1) (s2.ends.take (j + 1)) = if q < y ∧ (z < 0 ∨ y < z) then y else z by rw [lG_take hy, ← unhide hz]; simp [isS])
          clear hy hz
          by_cases h1 : q < y
          · have g5 : nz y = true := by simp [nz]; omega
            rw [g5] at cT
            have g6 : decide (q < y) = true := by simpa using h1
            by_cases h2 : z < 0
            · have g7 : decide (z < 0) = true := by simpa using h2
              have hfin := hide (show y = lG q isS (-1) (s2.ends.take (j + 1)) by rw [unhide hs, if_pos ⟨h1, .inl h2⟩])
              clear hs
              go_wp2
              go_round
              case rel => exact ⟨j + 1, y, by omega, by go_num, rfl, hfin⟩
              case measure => simp [intOf]; omega
            · have g7 : decide (z < 0) = false := by simpa using h2
              by_cases h3 : y < z
              · have g8 : decide (y < z) = true := by simpa using h3
                have hfin := hide (show y = lG q isS (-1) (s2.ends.take (j + 1)) by rw [unhide hs, if_pos ⟨h1, .inr h3⟩])
                clear hs
                go_wp2
                go_round
                case rel => exact ⟨j + 1, y, by omega, by go_num, rfl, hfin⟩
                case measure => simp [intOf]; omega
              · have g8 : decide (y < z) = false := by simpa using h3
                have hfin := hide (show z = lG q isS (-1) (s2.ends.take (j + 1)) by rw [unhide hs, if_neg (fun h => by rcases h.2 with h | h; exact h2 h; exact h3 h)])
                clear hs
                go_wp2
                go_round
                case rel => exact ⟨j + 1, z, by omega, by go_num, rfl, hfin⟩
                case measure => simp [intOf]; omega
          · have g6 : decide (q < y) = false := by simpa using h1
            have hfin := hide (show z = lG q isS (-1) (s2.ends.take (j + 1)) by rw [unhide hs, if_neg (fun h => h1 h.1)])
            clear hs
            cases hny : nz y with
            | true =>
              rw [hny] at cT
              go_wp2
              go_round
              case rel => exact ⟨j + 1, z, by omega, by go_num, rfl, hfin⟩
              case measure => simp [intOf]; omega
            | false =>
              rw [hny] at cT
              go_wp2
              go_round
              case rel => exact ⟨j + 1, z, by omega, by go_num, rfl, hfin⟩
              case measure => simp [intOf]; omega
      have gk : decide ((k : Int) < V) = true := by simp; omega
      obtain ⟨x, hx⟩ : ∃ x, s2.free[k]? = some x := ⟨s2.free[k]'(by have := (unhide hI2).nf; omega), List.getElem?_eq_getElem _⟩
      obtain ⟨cF, fF⟩ := (unhide hM2).M.cellF hx
      have hgd := hide (show s2.free.getD k 0 = x by simp [List.getD_eq_getElem?_getD, hx])
      clear hx
      by_cases hbusy : q < x
      · have g4 : decide (q < x) = true := by simpa using hbusy
        have hsw1 := hide (show swF ts V 0 s = swF ts (V - (k + 1)) (k + 1) s2 by
          rw [unhide hsw0, swF_succ hk]
          have e1 : wstep ts s2 k = s2 := by unfold wstep; rw [if_pos (by rw [unhide hq2, unhide hgd]; exact hbusy)]
          rw [e1])
        clear hsw0 hgd
        go_wp2
        go_roundw
        case rel => exact ⟨s2, gR2, c2, m2, k + 1, by omega, by go_num, rfl, hm2n, hm2, hI2, hq2, hsw1, hM2⟩
        case measure => simp [intOf]; omega
      have g4 : decide (q < x) = false := by simpa using hbusy
      have hnb := hide (show s2.free.getD k 0 ≤ s2.now by rw [unhide hgd, unhide hq2]; omega)
      clear hgd
      go_wp2
      go_loop [5, 11] (fun u t => ∃ j : Nat, j ≤ ts.length ∧ t = .int .i64 j ∧ u = .slice (some ⟨gR2, 0, none⟩) m2 c2 ∧ Hid (frst ts s2.ends q = frF s2.ends q j (ts.drop j))) (fun _ t => ts.length - (intOf t).toNat)
      case atStart => exact ⟨0, by omega, rfl, rfl, hide (by simp [frst])⟩
      case round =>
        obtain ⟨j, hjl, rfl, rfl, hfj⟩ := hrel
        by_cases hlt : j < ts.length
        rotate_left
        · have hnone := hide (show frst ts s2.ends s2.now = none by rw [unhide hq2, unhide hfj, drop_end hlt]; rfl)
          have hsw1 := hide (show swF ts V 0 s = swF ts (V - (k + 1)) (k + 1) s2 by
            rw [unhide hsw0, swF_succ hk, wstep_none (unhide hnone)])
          clear hfj hsw0 hnone
          go_wp2
          go_roundw
          case rel => exact ⟨s2, gR2, c2, m2, k + 1, by omega, by go_num, rfl, hm2n, hm2, hI2, hq2, hsw1, hM2⟩
          case measure => simp [intOf]; omega
        obtain ⟨b, o, p, c, t, rfl, hx, ib, c0, c1, c2', c3, hK, hmx⟩ := tks_at (unhide hr') (unhide hM2).M.bel hlt
        obtain ⟨y, hy⟩ : ∃ y, s2.ends[j]? = some y := ⟨s2.ends[j]'(by have := (unhide hI2).ne; omega), List.getElem?_eq_getElem _⟩
        obtain ⟨cT, fT⟩ := (unhide hM2).cellT (nz_at hy)
        obtain ⟨cE, fE⟩ := (unhide hM2).M.cellE hy
        have hd := hide (show frst ts s2.ends q = if ((y == 0) && hvE s2.ends q t.2.2.1) = true then some j else frF s2.ends q (j + 1) (ts.drop (j + 1)) by
          rw [unhide hfj, drop_at hx, frF_cons]
          have e1 : s2.ends.getD j 0 = y := by simp [List.getD_eq_getElem?_getD, hy]
          simp only [rdy, e1])
        have tk := hide (job_tok (unhide hJ') hx)
        have hK' := hide hK
        have hmx' := hide hmx
        have hcs : Hid (cst ts j = t.2.2.2) := hide (by simp [cst, List.getD_eq_getElem?_getD, hx])
        have hy' := hide hy
        clear hx hK hmx hfj hy c0 c1
        cases hny : nz y with
        | true =>
          rw [hny] at cT
          have hfin := hide (show frst ts s2.ends q = frF s2.ends q (j + 1) (ts.drop (j + 1)) by
            have h5 : (y == 0) = false := by simpa [nz] using hny
            rw [unhide hd, h5]; rfl)
          clear hd
          go_wp2
          go_round
          case rel => exact ⟨j + 1, by omega, by go_num, rfl, hfin⟩
          case measure => simp [intOf]; omega
        | false =>
        rw [hny] at cT
        have hy0 : Hid ((y == 0) = true) := hide (by simpa [nz] using hny)
        have hd2 := hide (show frst ts s2.ends q = if hvE s2.ends q t.2.2.1 = true then some j else frF s2.ends q (j + 1) (ts.drop (j + 1)) by rw [unhide hd, unhide hy0]; simp)
        have hzl : t.2.2.1.length ≤ 10 := (unhide tk).len
        obtain ⟨zs, hzs⟩ : ∃ zs, t.2.2.1 = zs := ⟨_, rfl⟩
        have hzs' := hide hzs
        rw [hzs] at c2' hzl
        have hd2 := hide (by have h5 := unhide hd2; rw [hzs] at h5; exact h5)
        have hK2 := hide (by have h5 := unhide hK'; rw [hzs] at h5; exact h5)
        clear hd hzs hny hK' hmx'
        go_wp2
        go_loop [12, 13] (fun u t => ∃ i : Nat, i ≤ zs.length ∧ t = .int .i64 i ∧ u = .bool (hvE s2.ends q (zs.take i))) (fun _ t => zs.length - (intOf t).toNat)
        case atStart => exact ⟨0, by omega, rfl, rfl⟩
        case round =>
          obtain ⟨i, hil, rfl, rfl⟩ := hrel
          by_cases hlti : i < zs.length
          · obtain ⟨b1, o1, xx, rfl, hxx, ib1, d0⟩ := ins_at (unhide hK2) (Below.refl _ _) hlti
            obtain ⟨x0, x1⟩ := (unhide tk).need xx (by rw [unhide hzs']; exact List.mem_of_getElem? hxx)
            obtain ⟨r, rfl⟩ := Int.eq_ofNat_of_zero_le x0
            obtain ⟨yr, hyr⟩ : ∃ y, s2.ends[r]? = some y := ⟨s2.ends[r]'(by have := (unhide hI2).ne; omega), List.getElem?_eq_getElem _⟩
            obtain ⟨cTr, _⟩ := (unhide hM2).cellT (nz_at hyr)
            obtain ⟨cEr, _⟩ := (unhide hM2).M.cellE hyr
            have hrl2 : r < ts.length := by omega
            have hsn := hide (hvE_snoc (q := q) hxx hyr)
            clear hxx hyr x1 ib1
            cases hv1 : hvE s2.ends q (zs.take i) with
            | false =>
              have hfin := hide (show false = hvE s2.ends q (zs.take (i + 1)) by rw [unhide hsn, hv1]; rfl)
              clear hsn hv1
              go_wp2
              go_round
              case rel => exact ⟨i + 1, by omega, by go_num, by rw [← unhide hfin]⟩
              case measure => simp [intOf]; omega
            | true =>
              cases hv2 : nz yr with
              | false =>
                rw [hv2] at cTr
                have hfin := hide (show false = hvE s2.ends q (zs.take (i + 1)) by rw [unhide hsn, hv1, hv2]; rfl)
                clear hsn hv1 hv2
                go_wp2
                go_round
                case rel => exact ⟨i + 1, by omega, by go_num, by rw [← unhide hfin]⟩
                case measure => simp [intOf]; omega
              | true =>
                rw [hv2] at cTr
                cases hv3 : decide (yr ≤ q) with
                | false =>
                  have hfin := hide (show false = hvE s2.ends q (zs.take (i + 1)) by rw [unhide hsn, hv1, hv2, hv3]; rfl)
                  clear hsn hv1 hv2
                  go_wp2
                  go_round
                  case rel => exact ⟨i + 1, by omega, by go_num, by rw [← unhide hfin]⟩
                  case measure => simp [intOf]; omega
                | true =>
                  have hfin := hide (show true = hvE s2.ends q (zs.take (i + 1)) by rw [unhide hsn, hv1, hv2, hv3]; rfl)
                  clear hsn hv1 hv2
                  go_wp2
                  go_round
                  case rel => exact ⟨i + 1, by omega, by go_num, by rw [← unhide hfin]⟩
                  case measure => simp [intOf]; omega
          have hie : i = zs.length := by omega
          have htz : zs.take i = zs := by rw [hie, List.take_length]
          rw [htz]
          clear htz
          cases hvv : hvE s2.ends q zs with
          | false =>
            have hfin := hide (show frst ts s2.ends q = frF s2.ends q (j + 1) (ts.drop (j + 1)) by rw [unhide hd2, hvv]; rfl)
            clear hd2 hvv hie
            go_wp2
            go_round
            case rel => exact ⟨j + 1, by omega, by go_num, rfl, hfin⟩
            case measure => simp [intOf]; omega
          | true =>
            have hz' := hide (show frst ts s2.ends s2.now = some j by rw [unhide hq2, unhide hd2, hvv]; rfl)
            have htk := hide ((unhide hI2).take (unhide hJ') hk (Int.not_lt.2 (unhide hnb)) (unhide hz'))
            have hsw1 := hide (show swF ts V 0 s = swF ts (V - (k + 1)) (k + 1) (taken ts s2 k j) by
              rw [unhide hsw0, swF_succ hk]
              have e1 : wstep ts s2 k = taken ts s2 k j := by unfold wstep; rw [if_neg (Int.not_lt.2 (unhide hnb)), unhide hz']
              rw [e1])
            obtain ⟨e9, he9⟩ : ∃ e9, s2.now + cst ts j = e9 := ⟨_, rfl⟩
            have heq : q + t.2.2.2 = e9 := by rw [← he9, unhide hq2, unhide hcs]
            have hb9 := (unhide htk).2.2.2.1
            have hn9 := (unhide htk).2.2.1
            rw [he9] at hb9 hn9
            have hn0 := (unhide hI2).now0
            have hr2 := (unhide htk).2.1
            have hw9 : IntKind.i64.wrap (q + t.2.2.2) = e9 := by rw [heq, IntKind.wrap_i64]; have := unhide hm2; omega
            have he90 : Hid (e9 ≠ 0) := hide (by omega)
            have hMT := hide ((unhide hM2).setT j true)
            have hx9 := hide (show (s2.ends.set j e9)[j]? = some e9 by have := (unhide hI2).ne; rw [List.getElem?_set_self (by omega)])
            have he9' := hide he9
            have c3T := hide (show (wi.setCell ⟨gT, j, none⟩ (.bool true)).cell? ⟨b, o + j * 4 + 3, none⟩ = some (.int .i64 t.2.2.2) by rw [(bcell (unhide hMT).M.bel).1 _ _ ib, ← (bcell (unhide hM2).M.bel).1 _ _ ib]; exact c3)
            obtain ⟨x2, hx2⟩ : ∃ x, s2.free[k]? = some x := ⟨s2.free[k]'(by have := (unhide hI2).nf; omega), List.getElem?_eq_getElem _⟩
            have hx2' := hide hx2
            clear hd2 hvv hie hsw0 hnb he9 heq hb9 hn9 hn0 hr2 hcs cE fE hx2
            go_upto_region 25 with fail
            generalize wi.setCell ⟨gT, j, none⟩ (.bool true) = wT at *
            obtain ⟨cE, fE⟩ := (unhide hMT).M.cellE (unhide hy')
            have c3t := unhide c3T
            have hME := hide ((unhide hMT).setE j e9)
            clear cT fT cF fF c3 c2' c3T
            go_upto_region 26 with fail
            generalize wT.setCell ⟨gE, j, none⟩ (.int .i64 e9) = w6 at *
            obtain ⟨cE6, fE6⟩ := (unhide hME).M.cellE (unhide hx9)
            obtain ⟨cF6, fF6⟩ := (unhide hME).M.cellF (unhide hx2')
            have hM7 := hide ((unhide hME).setF k e9)
            clear cE fE c3t hMT hw9
            go_upto_region 27 with fail
            generalize w6.setCell ⟨gF, k, none⟩ (.int .i64 e9) = w7 at *
            obtain ⟨cE7, fE7⟩ := (unhide hM7).M.cellE (unhide hx9)
            clear cE6 fE6 cF6 fF6 hME
            go_wp2_with (with_reducible refine wpList_kG w7 rfl _ _ rfl w.heap.size gR2 m2 c2 s2.runs j k q e9 rfl (unhide hM7).M.R rfl (by omega) (unhide hM7).M.bel.size ?_)
            intro g' cap' w8 o8 b8 q1 q2
            have hM8 := hide (show FS w w8 gE gF gT g' cap' ts.length V (m2 + 1) (taken ts s2 k j).ends (taken ts s2 k j).free ((taken ts s2 k j).ends.map nz) (taken ts s2 k j).runs by
              have h5 := (unhide hM7).app o8 b8
              show FS w w8 gE gF gT g' cap' ts.length V (m2 + 1) (s2.ends.set j (s2.now + cst ts j)) (s2.free.set k (s2.now + cst ts j)) ((s2.ends.set j (s2.now + cst ts j)).map nz) (s2.runs ++ [((j : Int), (k : Int), s2.now, s2.now + cst ts j)])
              rw [unhide he9', unhide hq2, ← nz_set (unhide he90)]
              exact h5)
            have hm8 := hide (show (taken ts s2 k j).runs.length = m2 + 1 by simp [taken, unhide hm2])
            have hmn8 : m2 + 1 ≤ ts.length := by have h5 := (unhide htk).2.1; have h6 := unhide hm2; omega
            have hI8 := hide (unhide htk).1
            have hq8 : Hid ((taken ts s2 k j).now = q) := hide (unhide hq2)
            clear o8 b8 q1 q2 hM7 cE7 fE7
            go_wp2
            go_roundw
            case rel => exact ⟨taken ts s2 k j, g', cap', m2 + 1, k + 1, by omega, by go_num, rfl, hmn8, hm8, hI8, hq8, hsw1, hM8⟩
            case measure => simp [intOf]; omega

end Go.Proofs.Ytpmmimcafkillaa
