/-
  The program's trims; the answer is new memory, nothing that was there is written.
  What an edit of the program has made is a list of clips in bounds; facts held through a region.
  What the program makes of a track by an edit is what the model answers; plain facts.
  The program's edits of a track that was opened; the answer is new memory, nothing that was there is written.
-/
import Derived.Test.YtioaehjppiodfaaGreatDoorGSEd3
import Derived.Test.YtioaehjppiodfaaGreatDoorGITa
import Derived.Test.YtioaehjppiodfaaGreatDoorGOpn
import Derived.Laws.EntriesVeiled
namespace Go.Proofs.YtioaehjppiodfaaGreatDoor
open Go.RowKit
set_option linter.unusedVariables false
set_option linter.unusedSimpArgs false

theorem trimL_append (l : List Kl) (a b : List Kl) : trimL l (a ++ b) = match trimL l a with | none => none | some m => trimL m b := by
  induction a generalizing l with
  | nil => rfl
  | cons t a ih =>
    simp only [List.cons_append, trimL]
    cases trim1 l t with
    | none => rfl
    | some m => simp only [ih]
theorem trimL_take {l m ts : List Kl} {k : Nat} {t : Kl} (h : trimL l (ts.take k) = some m) (hx : ts[k]? = some t) : trimL l (ts.take (k + 1)) = trim1 m t := by
  rw [take_snocK hx, trimL_append, h]
  simp only [trimL]
  cases trim1 m t <;> rfl
theorem trimL_no {l m ts : List Kl} {k : Nat} {t : Kl} (h : trimL l (ts.take k) = some m) (hx : ts[k]? = some t) (hn : trim1 m t = none) : trimL l ts = none := by
  have e : trimL l ts = trimL l (ts.take (k + 1) ++ ts.drop (k + 1)) := by rw [List.take_append_drop]
  rw [e, trimL_append, trimL_take h hx, hn]

set_option maxHeartbeats 1600000 in
theorem shows_any (a : Option Addr) (n cap : Nat) (l : List Kl) (i : Int) (v : Bool) (w : World) (hn : l.length = n) (hl : l.length ≤ 1000000) (hk : Kls w a l) (hv : decide (real l i) = v) :
    Calls Tryz.prog 149 #[.slice a n cap, .int .i64 i] w fun e w' => e = .returned (.bool v) ∧ Below w.heap.size w w' := by
  subst hv hn
  have hk' := hide hk
  clear hk
  by_cases h0 : 0 ≤ i
  · by_cases h1 : i < l.length
    · obtain ⟨k, rfl⟩ : ∃ k : Nat, i = k := ⟨i.toNat, by omega⟩
      obtain ⟨b, o, s, j, n, rfl, hx, c0, c1, c2⟩ := kls_at (unhide hk') (Below.refl _ _) (show k < l.length by omega)
      have e : ck l k = (s, j, n) := ck_at hx
      by_cases hs : s = 0
      · subst hs
        have hres : decide (real l k) = false := decide_eq_false (fun h => by have := h.2.2; rw [e] at this; exact this rfl)
        rw [hres]
        clear hres hx e
        go_enter Tryz.func149, Tryz.ntmps149
        go_wp2_with fail
        refine (gap_any 0 j n true _ rfl).mono ?_
        rintro e w1 ⟨rfl, hb⟩
        go_wp2
        go_ret
        exact ⟨rfl, hb⟩
      · have hres : decide (real l k) = true := decide_eq_true ⟨h0, h1, by rw [e]; exact hs⟩
        have hs' := hide (show decide (s = 0) = false by simpa using hs)
        rw [hres]
        clear hres hx e hs
        go_enter Tryz.func149, Tryz.ntmps149
        go_wp2_with fail
        refine (gap_any s j n false _ (unhide hs')).mono ?_
        rintro e w1 ⟨rfl, hb⟩
        go_wp2
        go_ret
        exact ⟨rfl, hb⟩
    · have hres : decide (real l i) = false := decide_eq_false (fun h => h1 h.2.1)
      have h1' : decide (i < l.length) = false := by simpa using h1
      rw [hres]
      clear hres h1
      go_enter Tryz.func149, Tryz.ntmps149
      go_wp2
      go_ret
      exact ⟨rfl, Below.refl _ _⟩
  · have hres : decide (real l i) = false := decide_eq_false (fun h => h0 h.1)
    have h0' : decide (0 ≤ i) = false := by simpa using h0
    rw [hres]
    clear hres h0
    go_enter Tryz.func149, Tryz.ntmps149
    go_wp2
    go_ret
    exact ⟨rfl, Below.refl _ _⟩

set_option maxHeartbeats 3200000 in
theorem trims_any (a0 : Option Addr) (cap : Nat) (l : List Kl) (hA0 : AdOk a0 cap l) (at' : Option Addr) (ct : Nat) (ts : List Kl) (w : World) (hT : TOk l) (hlt : ts.length ≤ 10) (hbd : ∀ x ∈ ts, (-10000000 ≤ x.2.1 ∧ x.2.1 ≤ 10000000) ∧ (-10000000 ≤ x.2.2 ∧ x.2.2 ≤ 10000000)) (hk : Kls w a0 l) (hk2 : Kls w at' ts) :
    Calls Tryz.prog 128 #[.agg #[.slice a0 l.length cap, .int .i64 (clen l)], .slice at' ts.length ct] w fun e w' => MdR w w' (trimL l ts) e := by
  have hW : Below w.heap.size w (w.alloc (.cells #[.slice a0 l.length cap, .int .i64 (clen l)] 133)) := (Below.refl _ _).alloc (Nat.le_refl _) _
  have hk' := hide (hk.below hW)
  have hk2' := hide hk2
  have hW' := hide hW
  have hbd' := hide hbd
  have hT' := hide hT
  have hl3 := hT.1
  clear hk hk2 hW hbd hT
  go_enter Tryz.func128, Tryz.ntmps128
  go_wp2_with fail
  refine (clone_anyA a0 cap l _ (by omega) hA0 (unhide hk')).mono ?_
  rintro e w1 ⟨v, rfl, nv, kv⟩
  obtain ⟨av, cv, rfl, _, _⟩ := ownV_kls nv
  have hsz := (unhide hW').size
  have oV := hide (own_mono nv hsz)
  have H1 := hide (laterB (unhide hW') kv)
  clear nv kv hk'
  go_wp2
  go_loopw [15] (fun q wr => ∃ k : Nat, ∃ m : List Kl, k ≤ ts.length ∧ q = .int .i64 k ∧ Hid (trimL l (ts.take k) = some m) ∧ Hid (OwnV wr w.heap.size (.slice av l.length cv) m) ∧ Hid (Below w.heap.size w wr)) (fun q _ => ts.length - (intOf q).toNat)
  case atStart => exact ⟨0, l, by omega, rfl, hide rfl, oV, H1⟩
  case round =>
    clear oV H1
    obtain ⟨k, m, hk, rfl, hm, oV, hw⟩ := hrel
    obtain ⟨hA, hml⟩ := trimL_ok (unhide hT').2.1 (unhide hm)
    by_cases hlt2 : k < ts.length
    · obtain ⟨bt, ot, p, x, y, rfl, hx, c0, c1, c2⟩ := kls_at (unhide hk2') (unhide hw) hlt2
      obtain ⟨⟨x0, x1⟩, y0, y1⟩ := unhide hbd' _ (List.mem_of_getElem? hx)
      simp only at x0 x1 y0 y1
      have hx' := hide hx
      have hA' := hide hA
      have hml' := hide hml
      clear hx hA
      obtain ⟨X, hX⟩ : ∃ X, X = wr.alloc (.cells #[.int .i64 p, .int .i64 x, .int .i64 y] 152) := ⟨_, rfl⟩
      have d0 : X.cell? ⟨wr.heap.size, 0, none⟩ = some (.int .i64 p) := by rw [hX]; simp [go_sem]
      have d1 : X.cell? ⟨wr.heap.size, 1, none⟩ = some (.int .i64 x) := by rw [hX]; simp [go_sem]
      have d2 : X.cell? ⟨wr.heap.size, 2, none⟩ = some (.int .i64 y) := by rw [hX]; simp [go_sem]
      have hXb : Below wr.heap.size wr X := by rw [hX]; exact (Below.refl _ _).alloc (Nat.le_refl _) _
      have oX := hide (ownsRow_below (unhide oV) hXb)
      have hXw := hide (laterB (unhide hw) hXb)
      obtain ⟨am, cm, hv, hkm, _⟩ := ownV_kls (unhide oX)
      injection hv with hv1 hv2 hv3
      subst hv1 hv3
      have hkm' := hide hkm
      have hX' := hide hX
      clear hXb hX oV hw hkm hv2
      by_cases hr : real m p
      · have hrd := hide (decide_eq_true hr)
        obtain ⟨p0, p1, p2⟩ := hr
        obtain ⟨j, rfl⟩ : ∃ j : Nat, p = j := ⟨p.toNat, by omega⟩
        obtain ⟨⟨s, i, n⟩, hc⟩ : ∃ c, m[j]? = some c := ⟨_, List.getElem?_eq_getElem (show j < m.length by omega)⟩
        obtain ⟨g, c', hgv⟩ := ownV_some (unhide oX) (by omega)
        injection hgv with hg1 hg2 hg3
        subst hg1 hg3
        have hcc := (unhide hA') _ (List.mem_of_getElem? hc)
        obtain ⟨a1, a2, a3, a4, _⟩ := hcc
        simp only at a1 a2 a3 a4
        have hc' := hide hc
        have hjl : (j : Int) < l.length := by omega
        have hck := hide (ck_at hc)
        clear hg2 hc p1 p2
        go_wp2_with fail
        rw [← unhide hX']
        refine (shows_any (some ⟨g, 0, none⟩) l.length cv m j true _ (unhide hml') (by have := unhide hml'; omega) (unhide hkm') (unhide hrd)).mono ?_
        rintro e w2 ⟨rfl, hb⟩
        have e0 := cell_later hb d0
        have e1 := cell_later hb d1
        have e2 := cell_later hb d2
        have o2 := hide (ownsRow_below (unhide oX) hb)
        have H2 := hide (laterB (unhide hXw) hb)
        obtain ⟨z0, z1, z2⟩ := own_cells (unhide hc') (show Own w2 w.heap.size g m.length cv m from by have := unhide o2; rw [unhide hml'] at this ⊢; exact this)
        simp only at z0 z1 z2
        have hz8 := World.block_lt_of_cell? _ _ e0
        simp only at hz8
        have hzg := World.block_lt_of_cell? _ _ z0
        simp only at hzg
        clear hb d0 d1 d2 oX hXw hkm'
        have hz9 : Below w2.heap.size w2 (w2.alloc (.cells #[.int .i64 s, .int .i64 (i + x), .int .i64 (n + (y - x))] 94)) := (Below.refl _ _).alloc (Nat.le_refl _) _
        have hz9' := hide hz9
        clear hz9
        by_cases hC : COk (s, i + x, n + (y - x))
        · have hCd := hide (decide_eq_true hC)
          have ht1 : trim1 m (j, x, y) = some (m.set j (s, i + x, n + (y - x))) := by
            unfold trim1
            simp only [unhide hck]
            rw [if_pos ⟨of_decide_eq_true (unhide hrd), hC⟩]
            rfl
          have ht2 := hide ((trimL_take (unhide hm) (unhide hx')).trans ht1)
          clear hC ht1
          go_wp2_with fail
          refine (iclip_any s (i + x) (n + (y - x)) true _ (unhide hCd)).mono ?_
          rintro e w3 ⟨rfl, hb⟩
          have hb3 := laterB (unhide hz9') hb
          have f0 := cell_later hb3 e0
          have o3 : Own w3 w.heap.size g l.length cv m := by have := ownsRow_below (unhide o2) hb3; rw [unhide hml'] at this; exact this
          have H3 := hide (laterB (unhide H2) hb3)
          have y9 : w3.cell? ⟨w2.heap.size, 0, none⟩ = some (.int .i64 s) := cell_later hb (by simp [go_sem])
          have y8 : w3.cell? ⟨w2.heap.size, 1, none⟩ = some (.int .i64 (i + x)) := cell_later hb (by simp [go_sem])
          have y7 : w3.cell? ⟨w2.heap.size, 2, none⟩ = some (.int .i64 (n + (y - x))) := cell_later hb (by simp [go_sem])
          obtain ⟨u0, u1, u2⟩ := own_cells (unhide hc') o3
          have v0 := o3.frozenAt (j * 3)
          have v1 := o3.frozenAt (j * 3 + 1)
          have v2 := o3.frozenAt (j * 3 + 2)
          have oN := own_put (x := (s, i + x, n + (y - x))) (show j < m.length by have := unhide hml'; omega) o3
          have hgw : w.heap.size ≤ g := own_ge o3
          have oN' : Hid (OwnV (((w3.setCell ⟨g, j * 3, none⟩ (.int .i64 s)).setCell ⟨g, j * 3 + 1, none⟩ (.int .i64 (i + x))).setCell ⟨g, j * 3 + 2, none⟩ (.int .i64 (n + (y - x)))) w.heap.size (.slice (some ⟨g, 0, none⟩) l.length cv) (m.set j (s, i + x, n + (y - x)))) := hide (by
            show World.ownsRow _ _ _ _ _ _ _
            rw [List.length_set, unhide hml']; exact oN)
          simp only at u0 u1 u2
          clear hb hb3 o3 oN o2 H2 e0 e1 e2 z0 z1 z2
          go_wp2
          go_roundw
          case rel => exact ⟨k + 1, _, by omega, by go_num, ht2, oN', hide ((((unhide H3).setCell hgw _).setCell hgw _).setCell hgw _)⟩
          case measure => simp [intOf]; omega
        · have hCd := hide (decide_eq_false hC)
          have hS := hide (trimL_no (unhide hm) (unhide hx') (show trim1 m (j, x, y) = none from by
            unfold trim1
            simp only [unhide hck]
            rw [if_neg (fun h => hC h.2)]))
          clear hC
          go_wp2_with fail
          refine (iclip_any s (i + x) (n + (y - x)) false _ (unhide hCd)).mono ?_
          rintro e w3 ⟨rfl, hb⟩
          have hF := hide (laterB (unhide H2) (laterB (unhide hz9') hb))
          clear hb
          go_wp2
          exact bodyPost_ret (v := .tuple #[.slice none 0 0, .bool false]) (by simp [results, Tryz.results128, go_sem]) rfl (mdR_none (unhide hS) (unhide hF))
      · have hrd := hide (decide_eq_false hr)
        have hS := hide (trimL_no (unhide hm) (unhide hx') (show trim1 m (p, x, y) = none from if_neg (fun h => hr h.1)))
        clear hr
        go_wp2_with fail
        rw [← unhide hX']
        refine (shows_any av l.length cv m p false _ (unhide hml') (by have := unhide hml'; omega) (unhide hkm') (unhide hrd)).mono ?_
        rintro e w2 ⟨rfl, hb⟩
        have hF := hide (laterB (unhide hXw) hb)
        clear hb
        go_wp2
        exact bodyPost_ret (v := .tuple #[.slice none 0 0, .bool false]) (by simp [results, Tryz.results128, go_sem]) rfl (mdR_none (unhide hS) (unhide hF))
    · have hke : k = ts.length := by omega
      have hfin := hide (show trimL l ts = some m by have := unhide hm; rw [hke, List.take_length] at this; exact this)
      go_wp2
      refine bodyPost_ret (v := .tuple #[.slice av l.length cv, .bool true]) (by simp [results, Tryz.results128, go_sem]) rfl ?_
      rw [unhide hfin]
      exact ⟨_, rfl, unhide oV, unhide hw⟩

end Go.Proofs.YtioaehjppiodfaaGreatDoor

namespace Go.Proofs.YtioaehjppiodfaaGreatDoor
open Go.RowKit
set_option linter.unusedVariables false
set_option linter.unusedSimpArgs false

theorem repl_aok {l ins x : List Kl} {t n : Int} (hT : TOk l) (hl : ins.length ≤ 10) (h : repl l t n ins = some x) : AOk x ∧ x.length ≤ 1000 := by
  unfold repl at h
  split at h
  · rename_i hc
    injection h with h
    subst h
    refine ⟨((part_ok hT.2.1 _ _).append hc.2.2).append (part_ok hT.2.1 _ _), ?_⟩
    have h1 := part_len l 0 t
    have h2 := part_len l (t + n) (clen l)
    have h3 := hT.1
    simp only [List.length_append]; omega
  · cases h
theorem trim_aok {l ts x : List Kl} (hT : TOk l) (h : trimL l ts = some x) : AOk x ∧ x.length ≤ 1000 := by
  obtain ⟨h1, h2⟩ := trimL_ok hT.2.1 h
  have h3 := hT.1
  exact ⟨h1, by omega⟩
theorem ext_aok {l x : List Kl} {t n : Int} (hT : TOk l) (h : (if n < 1 then none else repl l t n []) = some x) : AOk x ∧ x.length ≤ 1000 := by
  split at h
  · cases h
  · exact repl_aok hT (by simp) h
theorem keep8 {w w0 w1 : World} {a1 a2 a3 a4 a5 a6 a7 a8 : Addr} {v1 v2 v3 v4 v5 v6 v7 v8 : Value}
    (h : w0.cell? a1 = some v1 ∧ w0.cell? a2 = some v2 ∧ w0.cell? a3 = some v3 ∧ w0.cell? a4 = some v4 ∧ w0.cell? a5 = some v5 ∧ w0.cell? a6 = some v6 ∧ w0.cell? a7 = some v7 ∧ w0.cell? a8 = some v8 ∧ Below w.heap.size w w0) (hb : Below w0.heap.size w0 w1) :
    w1.cell? a1 = some v1 ∧ w1.cell? a2 = some v2 ∧ w1.cell? a3 = some v3 ∧ w1.cell? a4 = some v4 ∧ w1.cell? a5 = some v5 ∧ w1.cell? a6 = some v6 ∧ w1.cell? a7 = some v7 ∧ w1.cell? a8 = some v8 ∧ Below w.heap.size w w1 := by
  obtain ⟨h1, h2, h3, h4, h5, h6, h7, h8, h9⟩ := h
  exact ⟨cell_later hb h1, cell_later hb h2, cell_later hb h3, cell_later hb h4, cell_later hb h5, cell_later hb h6, cell_later hb h7, cell_later hb h8, h9.trans (hb.mono h9.size)⟩
theorem keep8d {w w0 : World} {a1 a2 a3 a4 a5 a6 a7 a8 : Addr} {v1 v2 v3 v4 v5 v6 v7 v8 : Value}
    (h : w0.cell? a1 = some v1 ∧ w0.cell? a2 = some v2 ∧ w0.cell? a3 = some v3 ∧ w0.cell? a4 = some v4 ∧ w0.cell? a5 = some v5 ∧ w0.cell? a6 = some v6 ∧ w0.cell? a7 = some v7 ∧ w0.cell? a8 = some v8 ∧ Below w.heap.size w w0) :
    w0.drew.cell? a1 = some v1 ∧ w0.drew.cell? a2 = some v2 ∧ w0.drew.cell? a3 = some v3 ∧ w0.drew.cell? a4 = some v4 ∧ w0.drew.cell? a5 = some v5 ∧ w0.drew.cell? a6 = some v6 ∧ w0.drew.cell? a7 = some v7 ∧ w0.drew.cell? a8 = some v8 ∧ Below w.heap.size w w0.drew := by
  obtain ⟨h1, h2, h3, h4, h5, h6, h7, h8, h9⟩ := h
  exact ⟨h1, h2, h3, h4, h5, h6, h7, h8, h9.drew⟩
theorem edR_join {w w2 : World} {x : List Kl} {g c : Nat} (hg : w.heap.size ≤ g) (ho : Own w2 w.heap.size g (join x).length c (join x)) (hT : TOk (join x)) (hb : Below w.heap.size w w2) : EdR w w2 (med (some x)) (.returned (.tuple #[.slice (some ⟨g, 0, none⟩) (join x).length c, .bool true])) := by
  have e : med (some x) = some (join x) := if_pos hT
  rw [e]
  exact ⟨g, c, rfl, hg, ho, hb⟩
theorem med_no {x : List Kl} (hT : ¬ TOk (join x)) : med (some x) = none := if_neg hT

end Go.Proofs.YtioaehjppiodfaaGreatDoor

namespace Go.Proofs.YtioaehjppiodfaaGreatDoor
open Go.RowKit
set_option linter.unusedVariables false
set_option linter.unusedSimpArgs false

theorem inr0 : InR 0 (-10000000) 10000000 := ⟨by omega, by omega⟩
theorem fIns (l : List Kl) (t : Int) (c : Kl) : (if TOk l ∧ InR 0 (-10000000) 10000000 then med (repl l t 0 [c]) else none) = insertS l t c := by
  by_cases h : TOk l
  · rw [if_pos ⟨h, inr0⟩, insert_eq h]
  · rw [if_neg (fun k => h k.1)]; exact (if_neg (fun k => h k.1)).symm
theorem fOvr (l : List Kl) (t c1 c2 c3 : Int) : (if TOk l ∧ InR 0 (-10000000) 10000000 then med (repl l t (min c3 (clen l - t)) [(c1, c2, c3)]) else none) = overS l t (c1, c2, c3) := by
  by_cases h : TOk l
  · rw [if_pos ⟨h, inr0⟩]; exact over_eq h t (c1, c2, c3)
  · rw [if_neg (fun k => h k.1)]; exact (if_neg (fun k => h k.1)).symm
theorem rng_inr {l : List Kl} {t n : Int} (h : Rng l t n) : InR n (-10000000) 10000000 := by
  obtain ⟨h1, ⟨h2, _⟩, h3, h4⟩ := h
  have := h1.2.2
  exact ⟨by omega, by omega⟩
theorem fExt (l : List Kl) (t n : Int) : (if TOk l ∧ InR n (-10000000) 10000000 then med (if n < 1 then none else repl l t n []) else none) = extractS l t n := by
  by_cases h : TOk l ∧ InR n (-10000000) 10000000
  · rw [if_pos h, extract_eq h.1]
  · rw [if_neg h]; exact (if_neg (fun k => h ⟨k.1, rng_inr k⟩)).symm
theorem fLif (l : List Kl) (t n : Int) : (if TOk l ∧ InR n (-10000000) 10000000 then med (repl l t n [(0, 0, n)]) else none) = liftS l t n := by
  by_cases h : TOk l ∧ InR n (-10000000) 10000000
  · rw [if_pos h, lift_eq h.1]
  · rw [if_neg h]; exact (if_neg (fun k => h ⟨k.1, rng_inr k⟩)).symm
theorem fSlp (l : List Kl) (t n : Int) : (if TOk l ∧ InR n (-10000000) 10000000 then med (trimL l [(t, n, n)]) else none) = slipS l t n := by
  by_cases h : TOk l ∧ InR n (-10000000) 10000000
  · rw [if_pos h, slip_eq h.1 h.2]
  · rw [if_neg h]; exact (if_neg (fun k => h ⟨k.1, k.2.1⟩)).symm
theorem fRip (l : List Kl) (t n : Int) : (if TOk l ∧ InR n (-10000000) 10000000 then med (trimL l [(t, 0, n)]) else none) = rippleS l t n := by
  by_cases h : TOk l ∧ InR n (-10000000) 10000000
  · rw [if_pos h, ripple_eq h.1 h.2]
  · rw [if_neg h]; exact (if_neg (fun k => h ⟨k.1, k.2.1⟩)).symm
theorem fRol (l : List Kl) (t n : Int) : (if TOk l ∧ InR n (-10000000) 10000000 then med (trimL l [(t, 0, n), (IntKind.i64.wrap (t + 1), n, 0)]) else none) = rollS l t n := by
  by_cases h : TOk l ∧ InR n (-10000000) 10000000
  · rw [if_pos h, roll_eq h.1 h.2]
    intro hr
    have h1 := hr.1
    have h2 := hr.2.1
    have h3 := h.1.1
    rw [IntKind.wrap_i64]; omega
  · rw [if_neg h]; exact (if_neg (fun k => h ⟨k.1, k.2.1⟩)).symm

end Go.Proofs.YtioaehjppiodfaaGreatDoor

namespace Go.Proofs.YtioaehjppiodfaaGreatDoor
open Go.RowKit
set_option linter.unusedVariables false
set_option linter.unusedSimpArgs false

theorem kls_litT {w : World} {T : TypeId} {c1 c2 c3 : Int} : Kls (w.alloc (.cells #[.int .i64 c1, .int .i64 c2, .int .i64 c3] T)) (some ⟨w.heap.size, 0, none⟩) [(c1, c2, c3)] := by
  intro j x hx
  cases j with
  | zero =>
    simp at hx
    subst hx
    exact ⟨w.heap.size, 0, rfl, by simp, by simp [go_sem], by simp [go_sem], by simp [go_sem]⟩
  | succ j => simp at hx
theorem kls_litT2 {w : World} {T : TypeId} {c1 c2 c3 d1 d2 d3 : Int} : Kls (w.alloc (.cells #[.int .i64 c1, .int .i64 c2, .int .i64 c3, .int .i64 d1, .int .i64 d2, .int .i64 d3] T)) (some ⟨w.heap.size, 0, none⟩) [(c1, c2, c3), (d1, d2, d3)] := by
  intro j x hx
  match j, hx with
  | 0, hx => injection hx with hx; subst hx; exact ⟨w.heap.size, 0, rfl, by simp, by simp [go_sem], by simp [go_sem], by simp [go_sem]⟩
  | 1, hx => injection hx with hx; subst hx; exact ⟨w.heap.size, 0, rfl, by simp, by simp [go_sem], by simp [go_sem], by simp [go_sem]⟩
  | j + 2, hx => simp at hx

end Go.Proofs.YtioaehjppiodfaaGreatDoor
