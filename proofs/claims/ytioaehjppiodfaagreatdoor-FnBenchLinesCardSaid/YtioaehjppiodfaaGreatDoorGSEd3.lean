/-
  Contract of the program's FrameAt; nothing that was there is written.
  The program's replacing of frames by what comes in; the answer is new memory, nothing that was there is written.
  Contracts of the model's insert, extract, lift and overwrite; answers are new memory, nothing that was there is written.
  Contracts of the model's slip, ripple and roll; answers are new memory, nothing that was there is written.
-/
import Derived.Test.YtioaehjppiodfaaGreatDoorGITa
import Derived.Test.YtioaehjppiodfaaGreatDoorGCat
import Derived.Test.YtioaehjppiodfaaGreatDoorGPt2
namespace Go.Proofs.YtioaehjppiodfaaGreatDoor
open Go.RowKit
set_option linter.unusedVariables false
set_option linter.unusedSimpArgs false

set_option maxHeartbeats 1600000 in
theorem iframe_any (a : Option Addr) (cap : Nat) (l : List Kl) (t : Int) (w : World) (hl : l.length ≤ maxLen) (hk : Kls w a l) :
    Calls Tryz.prog 78 #[.slice a l.length cap, .int .i64 t] w fun e w' => e = .returned (.tuple #[.int .i64 (frameAt l t).1, .int .i64 (frameAt l t).2]) ∧ Below w.heap.size w w' := by
  have hk' := hide hk
  clear hk
  obtain ⟨p, hp⟩ : ∃ p, p = (frameAt l t).1 := ⟨_, rfl⟩
  obtain ⟨q, hq⟩ : ∃ q, q = (frameAt l t).2 := ⟨_, rfl⟩
  rw [← hp, ← hq]
  by_cases h : TOk l
  · have h' := hide h
    have L0 := clen_nonneg h.2.1
    have L1 := h.2.2
    by_cases h0 : t < 0
    · have hf : frameAt l t = (-1, -1) := frameAt_neg (by omega)
      rw [hf] at hp hq
      simp only at hp hq
      subst hp hq
      clear h hf
      go_enter Tryz.func78, Tryz.ntmps78
      go_wp2_with fail
      refine (opened_ok a cap l _ (unhide h') (unhide hk')).mono ?_
      rintro e w1 ⟨rfl, hb⟩
      go_wp2
      exact bodyPost_ret (v := .tuple #[.int .i64 (-1), .int .i64 (-1)]) (by simp [results, Tryz.results78, go_sem]) rfl ⟨rfl, hb.alloc hb.size _⟩
    have h0' : decide (t < 0) = false := by simpa using h0
    by_cases h1 : clen l ≤ t
    · have hf : frameAt l t = (-1, -1) := by rw [frameAt_yes h (by omega)]; exact seen_past h.2.1 h1
      rw [hf] at hp hq
      simp only at hp hq
      subst hp hq
      clear h hf
      go_enter Tryz.func78, Tryz.ntmps78
      go_wp2_with fail
      refine (opened_ok a cap l _ (unhide h') (unhide hk')).mono ?_
      rintro e w1 ⟨rfl, hb⟩
      go_wp2
      exact bodyPost_ret (v := .tuple #[.int .i64 (-1), .int .i64 (-1)]) (by simp [results, Tryz.results78, go_sem]) rfl ⟨rfl, hb.alloc hb.size _⟩
    have h1' : decide (clen l ≤ t) = false := by simpa using h1
    obtain ⟨⟨s, i, n⟩, hx, hsn⟩ := part_one h.2.1 (show 0 ≤ t by omega) (show t < clen l by omega)
    rw [frameAt_yes h (by omega), ← hsn] at hp hq
    simp only at hp hq
    subst hp hq
    have hx' := hide hx
    clear h hx hsn
    go_enter Tryz.func78, Tryz.ntmps78
    go_wp2_with fail
    refine (opened_ok a cap l _ (unhide h') (unhide hk')).mono ?_
    rintro e w1 ⟨rfl, hb⟩
    have hA := hide (hb.alloc hb.size (.cells #[.slice a l.length cap, .int .i64 (clen l)] 133))
    have K1 := hide (((unhide hk').below hb).below ((Below.refl _ _).alloc (Nat.le_refl _) (.cells #[.slice a l.length cap, .int .i64 (clen l)] 133)))
    clear hb
    go_wp2_with fail
    refine (ifrm_any a cap l t (p, q, n) _ (unhide h') (by omega) (by omega) (unhide K1) (unhide hx')).mono ?_
    rintro e w2 ⟨rfl, k2⟩
    have H2 := hide (laterB (unhide hA) k2)
    clear k2 hA K1
    go_wp2_with fail
    go_quiet (fail)
    go_wp2
    exact bodyPost_ret (v := .tuple #[.int .i64 p, .int .i64 q]) (by simp [results, Tryz.results78, go_sem]) rfl ⟨rfl, below_drewN ((unhide H2).alloc (unhide H2).size _) _⟩
  · have h' := hide h
    have hf : frameAt l t = (-1, -1) := if_neg (fun k => h k.1)
    rw [hf] at hp hq
    simp only at hp hq
    subst hp hq
    clear h hf
    go_enter Tryz.func78, Tryz.ntmps78
    go_wp2_with fail
    refine (opened_no a cap l _ hl (unhide h') (unhide hk')).mono ?_
    rintro e w1 ⟨rfl, hb⟩
    go_wp2
    exact bodyPost_ret (v := .tuple #[.int .i64 (-1), .int .i64 (-1)]) (by simp [results, Tryz.results78, go_sem]) rfl ⟨rfl, hb.alloc hb.size _⟩

end Go.Proofs.YtioaehjppiodfaaGreatDoor

namespace Go.Proofs.YtioaehjppiodfaaGreatDoor
open Go.RowKit
set_option linter.unusedVariables false
set_option linter.unusedSimpArgs false

/-- what an edit has made, in memory -/
def MdR (w w' : World) (r : Option (List Kl)) (e : Ending) : Prop :=
  ∃ v, e = .returned (.tuple #[v, .bool r.isSome]) ∧ OwnV w' w.heap.size v (outL r) ∧ Below w.heap.size w w'
theorem mdR_none {w wx : World} {r : Option (List Kl)} (hr : r = none) (hb : Below w.heap.size w wx) : MdR w wx r (.returned (.tuple #[.slice none 0 0, .bool false])) := by
  subst hr
  exact ⟨_, rfl, World.ownsRow_nil _ _ _ _, hb⟩
theorem mdR_from {w w1 w2 : World} {r : Option (List Kl)} {e : Ending} (h : MdR w1 w2 r e) (hb : Below w.heap.size w w1) : MdR w w2 r e := by
  obtain ⟨v, he, h2, h3⟩ := h
  have := hb.size
  exact ⟨v, he, own_mono h2 (by omega), hb.trans (h3.mono (by omega))⟩
theorem keep2 {w w0 w1 : World} {a1 a2 : Addr} {v1 v2 : Value} (h : w0.cell? a1 = some v1 ∧ w0.cell? a2 = some v2 ∧ Below w.heap.size w w0) (hb : Below w0.heap.size w0 w1) :
    w1.cell? a1 = some v1 ∧ w1.cell? a2 = some v2 ∧ Below w.heap.size w w1 := by
  obtain ⟨h1, h2, h7⟩ := h
  exact ⟨cell_later hb h1, cell_later hb h2, h7.trans (hb.mono h7.size)⟩
theorem keep2d {w w0 : World} {a1 a2 : Addr} {v1 v2 : Value} (h : w0.cell? a1 = some v1 ∧ w0.cell? a2 = some v2 ∧ Below w.heap.size w w0) :
    w0.drew.cell? a1 = some v1 ∧ w0.drew.cell? a2 = some v2 ∧ Below w.heap.size w w0.drew := by
  obtain ⟨h1, h2, h7⟩ := h
  exact ⟨h1, h2, h7.drew⟩
theorem keep2a {w w0 : World} {a1 a2 : Addr} {v1 v2 : Value} {o : Obj} (h : w0.cell? a1 = some v1 ∧ w0.cell? a2 = some v2 ∧ Below w.heap.size w w0) :
    (w0.alloc o).cell? a1 = some v1 ∧ (w0.alloc o).cell? a2 = some v2 ∧ Below w.heap.size w (w0.alloc o) := keep2 h ((Below.refl _ _).alloc (Nat.le_refl _) _)

theorem es_three {W : World} {a1 a2 a3 : Option Addr} {c1 c2 c3 : Nat} {L1 L2 L3 : List Kl} (k1 : Kls W a1 L1) (k2 : Kls W a2 L2) (k3 : Kls W a3 L3) (h1 : a1 = none → c1 = 0) (h2 : a2 = none → c2 = 0) (h3 : a3 = none → c3 = 0) :
    ∀ k e, ([(a1, c1, L1), (a2, c2, L2), (a3, c3, L3)] : Es)[k]? = some e → (W.alloc (.cells #[.slice a1 L1.length c1, .slice a2 L2.length c2, .slice a3 L3.length c3] 78)).cell? ⟨W.heap.size, k, none⟩ = some (.slice e.1 e.2.2.length e.2.1) ∧ Kls (W.alloc (.cells #[.slice a1 L1.length c1, .slice a2 L2.length c2, .slice a3 L3.length c3] 78)) e.1 e.2.2 ∧ (e.1 = none → e.2.1 = 0) := by
  have hb := (Below.refl W.heap.size W).alloc (Nat.le_refl _) (.cells #[.slice a1 L1.length c1, .slice a2 L2.length c2, .slice a3 L3.length c3] 78)
  intro k e he
  match k, he with
  | 0, he => injection he with he; subst he; exact ⟨by simp [go_sem], k1.below hb, h1⟩
  | 1, he => injection he with he; subst he; exact ⟨by simp [go_sem], k2.below hb, h2⟩
  | 2, he => injection he with he; subst he; exact ⟨by simp [go_sem], k3.below hb, h3⟩
  | k + 3, he => simp at he

set_option maxRecDepth 100000 in
set_option maxHeartbeats 3200000 in
theorem repl_any (a : Option Addr) (cap : Nat) (l : List Kl) (t n : Int) (a2 : Option Addr) (c2 : Nat) (L2 : List Kl) (w : World) (hT : TOk l) (hl2 : L2.length ≤ 10) (hk : Kls w a l) (hk2 : Kls w a2 L2) (hn2 : a2 = none → c2 = 0) :
    Calls Tryz.prog 127 #[.agg #[.slice a l.length cap, .int .i64 (clen l)], .int .i64 t, .int .i64 n, .slice a2 L2.length c2] w fun e w' => MdR w w' (repl l t n L2) e := by
  have hW : Below w.heap.size w (w.alloc (.cells #[.slice a l.length cap, .int .i64 (clen l)] 133)) := (Below.refl _ _).alloc (Nat.le_refl _) _
  have hk' := hide (hk.below hW)
  have hk2' := hide (hk2.below hW)
  have hW' := hide hW
  have hn2' := hide hn2
  have hT' := hide hT
  have L0 := clen_nonneg hT.2.1
  have L1 := hT.2.2
  have hl3 := hT.1
  clear hk hk2 hW hn2 hT
  by_cases ht0 : t < 0
  · have hS := hide (show repl l t n L2 = none from if_neg (fun h => by have := h.1.1; omega))
    go_enter Tryz.func127, Tryz.ntmps127
    go_wp2
    exact bodyPost_ret (v := .tuple #[.slice none 0 0, .bool false]) (by simp [results, Tryz.results127, go_sem]) rfl (mdR_none (unhide hS) (unhide hW'))
  have ht0' : decide (t < 0) = false := by simpa using ht0
  by_cases ht1 : clen l < t
  · have hS := hide (show repl l t n L2 = none from if_neg (fun h => by have := h.1.2; omega))
    go_enter Tryz.func127, Tryz.ntmps127
    go_wp2
    exact bodyPost_ret (v := .tuple #[.slice none 0 0, .bool false]) (by simp [results, Tryz.results127, go_sem]) rfl (mdR_none (unhide hS) (unhide hW'))
  have ht1' : decide (clen l < t) = false := by simpa using ht1
  by_cases hn0 : n < 0
  · have hS := hide (show repl l t n L2 = none from if_neg (fun h => by have := h.2.1.1; omega))
    go_enter Tryz.func127, Tryz.ntmps127
    go_wp2
    exact bodyPost_ret (v := .tuple #[.slice none 0 0, .bool false]) (by simp [results, Tryz.results127, go_sem]) rfl (mdR_none (unhide hS) (unhide hW'))
  have hn0' : decide (n < 0) = false := by simpa using hn0
  by_cases hn1 : clen l - t < n
  · have hS := hide (show repl l t n L2 = none from if_neg (fun h => by have := h.2.1.2; omega))
    go_enter Tryz.func127, Tryz.ntmps127
    go_wp2
    exact bodyPost_ret (v := .tuple #[.slice none 0 0, .bool false]) (by simp [results, Tryz.results127, go_sem]) rfl (mdR_none (unhide hS) (unhide hW'))
  have hn1' : decide (clen l - t < n) = false := by simpa using hn1
  go_enter Tryz.func127, Tryz.ntmps127
  go_wp2
  go_loopw [34] (fun q wr => ∃ k : Nat, k ≤ L2.length ∧ q = .int .i64 k ∧ Hid (AOk (L2.take k)) ∧ Hid (Below (w.heap.size + 1) (w.alloc (.cells #[.slice a l.length cap, .int .i64 (clen l)] 133)) wr)) (fun q _ => L2.length - (intOf q).toNat)
  case atStart => exact ⟨0, by omega, rfl, hide (by simp; exact AOk.nil), hide (Below.refl _ _)⟩
  case round =>
    obtain ⟨k, hk, rfl, hA, hw⟩ := hrel
    have hwx : Below (w.alloc (.cells #[.slice a l.length cap, .int .i64 (clen l)] 133)).heap.size (w.alloc (.cells #[.slice a l.length cap, .int .i64 (clen l)] 133)) wr := by have := unhide hw; simpa using this
    by_cases hlt : k < L2.length
    · obtain ⟨b, o, s, i, m, rfl, hx, c0, c1, c2⟩ := kls_at (unhide hk2') hwx hlt
      have hx' := hide hx
      have hwx' := hide hwx
      clear hx hwx
      have hwA := hide (laterB (unhide hwx') (w1 := wr.alloc (.cells #[.int .i64 s, .int .i64 i, .int .i64 m] 94)) ((Below.refl _ _).alloc (Nat.le_refl _) _))
      by_cases hc : COk (s, i, m)
      · have hc' := hide hc
        clear hc
        go_wp2_with fail
        refine (iclip_any s i m true _ (by simpa using unhide hc')).mono ?_
        rintro e w1 ⟨rfl, hb⟩
        have hw1 := hide (show Below (w.heap.size + 1) (w.alloc (.cells #[.slice a l.length cap, .int .i64 (clen l)] 133)) w1 from by have := laterB (unhide hwA) hb; simpa using this)
        clear hb hw c0 c1 c2
        go_wp2
        go_roundw
        case rel => exact ⟨k + 1, by omega, by go_num, hide (aok_take (unhide hA) (unhide hx') (unhide hc')), hw1⟩
        case measure => simp [intOf]; omega
      · have hc2 := hide (show decide (COk (s, i, m)) = false from decide_eq_false hc)
        have hS := hide (show repl l t n L2 = none from if_neg (fun h => hc (h.2.2 _ (List.mem_of_getElem? (unhide hx')))))
        clear hc
        go_wp2_with fail
        refine (iclip_any s i m false _ (unhide hc2)).mono ?_
        rintro e w1 ⟨rfl, hb⟩
        have hF := hide (laterB (unhide hW') (laterB (unhide hwA) hb))
        go_wp2
        exact bodyPost_ret (v := .tuple #[.slice none 0 0, .bool false]) (by simp [results, Tryz.results127, go_sem]) rfl (mdR_none (unhide hS) (unhide hF))
    · have hke : k = L2.length := by omega
      have hAl := hide (show AOk L2 by have := unhide hA; rw [hke, List.take_length] at this; exact this)
      have hwB := hide (laterB (unhide hW') hwx)
      have d0 : wr.cell? ⟨w.heap.size, 0, none⟩ = some (.slice a l.length cap) := cell_later hwx (by simp [go_sem])
      have d1 : wr.cell? ⟨w.heap.size, 1, none⟩ = some (.int .i64 (clen l)) := cell_later hwx (by simp [go_sem])
      have K1 := hide ((unhide hk').below hwx)
      have K2 := hide ((unhide hk2').below hwx)
      have hS := hide (show repl l t n L2 = some (part l 0 t ++ L2 ++ part l (t + n) (clen l)) from if_pos ⟨⟨by omega, by omega⟩, ⟨by omega, by omega⟩, unhide hAl⟩)
      obtain ⟨F, hF⟩ : ∃ F, F = t + n := ⟨_, rfl⟩
      rw [← hF] at hS
      have hsum : IntKind.i64.wrap (t + n) = F := by rw [IntKind.wrap_i64]; omega
      have F0 : 0 ≤ F := by omega
      have F1 : F ≤ 30000000 := by omega
      generalize hE : clen l = E at *
      have hall : Hid (wr.cell? ⟨w.heap.size, 0, none⟩ = some (.slice a l.length cap) ∧ wr.cell? ⟨w.heap.size, 1, none⟩ = some (.int .i64 E) ∧ Below w.heap.size w wr) := hide ⟨d0, d1, unhide hwB⟩
      have hF' := hide hF
      have hE' := hide hE
      have hp1 := part_len l 0 t
      have hp2 := part_len l F E
      clear hA hwx hw hk' hk2' d0 d1 hF hE
      go_wp2_with fail
      go_region_held3 (fun w' => w'.cell? ⟨w.heap.size, 0, none⟩ = some (.slice a l.length cap) ∧ w'.cell? ⟨w.heap.size, 1, none⟩ = some (.int .i64 E) ∧ Below w.heap.size w w')
        (first | (refine keep2 ?_ hbA; assumption) | (refine keep2 ?_ hbB; assumption) | (refine keep2 ?_ hbC; assumption) | (refine keep2a ?_; assumption) | (exact keep2d (unhide hall)))
        (first
          | (go_at_call 118; refine (ipart_any a cap l _ _ _ (unhide hT') (by constructor <;> omega) (by constructor <;> omega) (by first | exact unhide K1 | exact Kls.below (w := wr.drew) (unhide K1) hbA)).mono ?_; first | (have _ := gA; rintro e wB ⟨gB, cB, rfl, qB, nB, hbB⟩) | (rintro e wA ⟨gA, cA, rfl, qA, nA, hbA⟩))
          | (go_at_call 147; first
              | (refine (concat_any wB.heap.size _ [(some ⟨gA, 0, none⟩, cA, part l 0 t), (a2, c2, L2), (some ⟨gB, 0, none⟩, cB, part l F E)] _ (by simp only [cat, List.length_append, List.length_nil]; omega) (by simp) (by simp) (es_three (kls_own (ownsRow_below nA hbB)) (Kls.below (w := wA) (Kls.below (w := wr.drew) (unhide K2) hbA) hbB) (kls_own nB) (fun h => by cases h) (unhide hn2') (fun h => by cases h))).mono ?_; rintro e wC ⟨vC, rfl, nC, hbC⟩)
              | (refine (concat_any wB.heap.size _ [(some ⟨gB, 0, none⟩, cB, part l 0 t), (a2, c2, L2), (some ⟨gA, 0, none⟩, cA, part l F E)] _ (by simp only [cat, List.length_append, List.length_nil]; omega) (by simp) (by simp) (es_three (kls_own nB) (Kls.below (w := wA) (Kls.below (w := wr.drew) (unhide K2) hbA) hbB) (kls_own (ownsRow_below nA hbB)) (fun h => by cases h) (unhide hn2') (fun h => by cases h))).mono ?_; rintro e wC ⟨vC, rfl, nC, hbC⟩)))
      rename_i hHeld
      have hfin := hide hHeld.2.2
      have hsz : w.heap.size ≤ (wB.alloc (.cells #[.slice (some ⟨gA, 0, none⟩) (part l 0 t).length cA, .slice a2 L2.length c2, .slice (some ⟨gB, 0, none⟩) (part l F E).length cB] 78)).heap.size := by
        have e1 := (unhide hwB).size
        have e2 := hbA.size
        have e3 := hbB.size
        have e4 : wr.drew.heap.size = wr.heap.size := rfl
        have e5 := ((Below.refl wB.heap.size wB).alloc (Nat.le_refl _) (.cells #[.slice (some ⟨gA, 0, none⟩) (part l 0 t).length cA, .slice a2 L2.length c2, .slice (some ⟨gB, 0, none⟩) (part l F E).length cB] 78)).size
        rw [e4] at e2
        exact Nat.le_trans e1 (Nat.le_trans e2 (Nat.le_trans e3 e5))
      have oF := hide (own_mono nC hsz)
      clear nC hbC hbA hbB nA nB hHeld qA qB hsz
      go_wp2
      refine bodyPost_ret (v := .tuple #[vC, .bool true]) (by simp [results, Tryz.results127, go_sem]) rfl ?_
      rw [unhide hS]
      refine ⟨vC, rfl, ?_, unhide hfin⟩
      have e : outL (some (part l 0 t ++ L2 ++ part l F E)) = cat [(some ⟨gA, 0, none⟩, cA, part l 0 t), (a2, c2, L2), (some ⟨gB, 0, none⟩, cB, part l F E)] := by simp [outL, cat]
      rw [e]
      exact unhide oF

end Go.Proofs.YtioaehjppiodfaaGreatDoor

namespace Go.Proofs.YtioaehjppiodfaaGreatDoor
open Go.RowKit
set_option linter.unusedVariables false
set_option linter.unusedSimpArgs false

theorem kls_lit {w : World} {c1 c2 c3 : Int} : Kls (w.alloc (.cells #[.int .i64 c1, .int .i64 c2, .int .i64 c3] 94)) (some ⟨w.heap.size, 0, none⟩) [(c1, c2, c3)] := by
  intro j x hx
  cases j with
  | zero =>
    simp at hx
    subst hx
    exact ⟨w.heap.size, 0, rfl, by simp, by simp [go_sem], by simp [go_sem], by simp [go_sem]⟩
  | succ j => simp at hx
theorem below_lit {w wx : World} {o : Obj} (h : Below w.heap.size w wx) : Below w.heap.size w (wx.alloc o) := h.alloc h.size _

end Go.Proofs.YtioaehjppiodfaaGreatDoor

namespace Go.Proofs.YtioaehjppiodfaaGreatDoor
open Go.RowKit
set_option linter.unusedVariables false
set_option linter.unusedSimpArgs false

theorem flK_in {l : List Kl} {k : Nat} {c : Kl} (h : l[k]? = some c) (x : Int) : (flK l).set (k * 3 + 1) (iv x) = flK (l.set k (c.1, x, c.2.2)) := by
  induction l generalizing k with
  | nil => simp at h
  | cons y l ih =>
    cases k with
    | zero => simp at h; subst h; rfl
    | succ k =>
      have e : (k + 1) * 3 + 1 = k * 3 + 1 + 1 + 1 + 1 := by omega
      rw [e]
      simp only [flK, List.set_cons_succ]
      rw [ih (by simpa using h)]
theorem flK_ln {l : List Kl} {k : Nat} {c : Kl} (h : l[k]? = some c) (x : Int) : (flK l).set (k * 3 + 2) (iv x) = flK (l.set k (c.1, c.2.1, x)) := by
  induction l generalizing k with
  | nil => simp at h
  | cons y l ih =>
    cases k with
    | zero => simp at h; subst h; rfl
    | succ k =>
      have e : (k + 1) * 3 + 2 = k * 3 + 2 + 1 + 1 + 1 := by omega
      rw [e]
      simp only [flK, List.set_cons_succ]
      rw [ih (by simpa using h)]
theorem own_in {w : World} {B g n cap k : Nat} {l : List Kl} {c : Kl} (hk : l[k]? = some c) (h : Own w B g n cap l) (x : Int) : Own (w.setCell ⟨g, k * 3 + 1, none⟩ (.int .i64 x)) B g n cap (l.set k (c.1, x, c.2.2)) := by
  have h1 := (h.stored (k * 3 + 1) (iv x)).1
  rw [flK_in hk] at h1
  exact h1
theorem own_ln {w : World} {B g n cap k : Nat} {l : List Kl} {c : Kl} (hk : l[k]? = some c) (h : Own w B g n cap l) (x : Int) : Own (w.setCell ⟨g, k * 3 + 2, none⟩ (.int .i64 x)) B g n cap (l.set k (c.1, c.2.1, x)) := by
  have h1 := (h.stored (k * 3 + 2) (iv x)).1
  rw [flK_ln hk] at h1
  exact h1
theorem ownV_some {w : World} {B : Nat} {v : Value} {l : List Kl} (h : OwnV w B v l) (hl : 0 < l.length) : ∃ g c, v = .slice (some ⟨g, 0, none⟩) l.length c := by
  rcases h.2 with ⟨hv, hn⟩ | ⟨g, cap, cur, hv, _⟩
  · omega
  · exact ⟨g, cap, hv⟩
theorem kls_some {w : World} {a : Option Addr} {l : List Kl} (h : Kls w a l) (hl : 0 < l.length) (hn : a = none) : False := by
  obtain ⟨b, o, e, _⟩ := h 0 l[0] (List.getElem?_eq_getElem hl)
  rw [hn] at e; cases e
theorem ck_at {l : List Kl} {k : Nat} {c : Kl} (h : l[k]? = some c) : ck l (k : Int) = c := by
  unfold ck; rw [Int.toNat_natCast, List.getD_eq_getElem?_getD, h]; rfl
theorem ck_at1 {l : List Kl} {k : Nat} {c : Kl} (h : l[k + 1]? = some c) : ck l ((k : Int) + 1) = c := by
  have : ((k : Int) + 1) = ((k + 1 : Nat) : Int) := by omega
  rw [this]; exact ck_at h

end Go.Proofs.YtioaehjppiodfaaGreatDoor
