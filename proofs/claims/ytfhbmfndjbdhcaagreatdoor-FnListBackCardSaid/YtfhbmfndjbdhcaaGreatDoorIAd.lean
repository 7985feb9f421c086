/-
  A clip more in the program's reader: its contract, case by case.
-/
import Derived.Test.YtfhbmfndjbdhcaaGreatDoorIRead
import Derived.Test.YtfhbmfndjbdhcaaGreatDoorJn
import Derived.Test.YtfhbmfndjbdhcaaGreatDoorOpn
import Derived.Deep.AppendLies
import Derived.Deep.RegionHeld3
namespace Go.Proofs.YtfhbmfndjbdhcaaGreatDoor
open Go.RowKit
set_option linter.unusedVariables false
set_option linter.unusedSimpArgs false

/-- all blocks but two stand -/
structure Kp2 (R g : Nat) (w w' : World) : Prop where
  os : w'.os = w.os
  tape : w'.tape = w.tape
  output : w'.output = w.output
  size : w.heap.size ≤ w'.heap.size
  block : ∀ k, k < w.heap.size → k ≠ R → k ≠ g → w'.heap[k]? = w.heap[k]?
theorem Kp2.of {R g : Nat} {w w' : World} (h : Below w.heap.size w w') : Kp2 R g w w' := ⟨h.os, h.tape, h.output, h.size, fun k hk _ _ => h.block k hk⟩
/-- the reader in memory -/
abbrev RdBx (w : World) (R : Nat) (n d : Int) (dr : Bool) (mp tr : Value) (en : Int) : Prop := w.heap[R]? = some (.cells #[.int .i64 n, .int .i64 d, .bool dr, mp, tr, .int .i64 en] 98 (0, 0))
abbrev clV (s i n : Int) : Value := .agg #[.int .i64 s, .int .i64 i, .int .i64 n]
theorem bx_below (w : World) (s i n : Int) : Below w.heap.size w (w.alloc (.cells #[.int .i64 s, .int .i64 i, .int .i64 n] 44)) := (Below.refl _ w).alloc (Nat.le_refl _) _

theorem iadd_8 (R : Nat) (s i m fr tu : Int) (w : World) (hC : ¬ COk (s, i, m)) :
    Calls Tryz.prog 87 #[.pointer (some ⟨R, 0, none⟩), clV s i m, .int .i64 fr, .int .i64 tu] w fun e w' => e = .returned (.iface 92 (.int .i64 8)) ∧ Below w.heap.size w w' := by
  have hc : decide (COk (s, i, m)) = false := by simp [hC]
  have kb := hide (bx_below w s i m)
  go_enter Tryz.func87, Tryz.ntmps87
  go_wp2_with fail
  refine (iclip_any s i m false _ hc).mono ?_
  rintro e w1 ⟨rfl, k1⟩
  have k2 := hide (laterB (unhide kb) k1)
  clear k1 kb hc
  go_wp2
  go_ret
  exact ⟨rfl, unhide k2⟩

set_option maxHeartbeats 1000000 in
theorem iadd_9 (R : Nat) (s i m fr tu en : Int) (n d : Int) (dr : Bool) (mp tr : Value) (w : World) (hR : RdBx w R n d dr mp tr en) (hC : COk (s, i, m)) (hf : 0 ≤ fr ∧ fr ≤ 10000000) (ht : 0 ≤ tu ∧ tu ≤ 10000000) (h : fr ≠ en ∨ tu - fr ≠ m) :
    Calls Tryz.prog 87 #[.pointer (some ⟨R, 0, none⟩), clV s i m, .int .i64 fr, .int .i64 tu] w fun e w' => e = .returned (.iface 92 (.int .i64 9)) ∧ Below w.heap.size w w' := by
  have hc : decide (COk (s, i, m)) = true := by simp [hC]
  have kb := hide (bx_below w s i m)
  have hw : IntKind.i64.wrap (tu - fr) = tu - fr := by rw [IntKind.wrap_i64]; omega
  have hbx := alloc_new w (.cells #[.int .i64 s, .int .i64 i, .int .i64 m] 44)
  have hbR := blk_below hR (unhide kb)
  have hQ : R < w.heap.size := (Array.getElem?_eq_some_iff.1 hR).1
  clear hR
  go_enter Tryz.func87, Tryz.ntmps87
  go_wp2_with fail
  refine (iclip_any s i m true _ hc).mono ?_
  rintro e w1 ⟨rfl, k1⟩
  have k2 := hide (laterB (unhide kb) k1)
  obtain ⟨c0, c1, c2, c3, c4, c5⟩ := blk6 (blk_below hbR k1)
  obtain ⟨b0, b1, b2⟩ := blk3 (blk_below hbx k1)
  clear k1 kb hc hbx hbR
  by_cases hfe : fr = en
  · have h2 : tu - fr ≠ m := by rcases h with h | h; exact absurd hfe h; exact h
    have e1 : (fr != en) = false := by simp [hfe]
    have e2 : (tu - fr != m) = true := by simp [h2]
    clear h h2
    go_wp2
    go_ret
    exact ⟨rfl, unhide k2⟩
  · have e1 : (fr != en) = true := by simp [hfe]
    clear h
    go_wp2
    go_ret
    exact ⟨rfl, unhide k2⟩

theorem keep7 {w w0 w1 : World} {a1 a2 a3 a4 a5 a6 a7 : Addr} {v1 v2 v3 v4 v5 v6 v7 : Value}
    (h : w0.cell? a1 = some v1 ∧ w0.cell? a2 = some v2 ∧ w0.cell? a3 = some v3 ∧ w0.cell? a4 = some v4 ∧ w0.cell? a5 = some v5 ∧ w0.cell? a6 = some v6 ∧ w0.cell? a7 = some v7 ∧ Below w.heap.size w w0) (hb : Below w0.heap.size w0 w1) :
    w1.cell? a1 = some v1 ∧ w1.cell? a2 = some v2 ∧ w1.cell? a3 = some v3 ∧ w1.cell? a4 = some v4 ∧ w1.cell? a5 = some v5 ∧ w1.cell? a6 = some v6 ∧ w1.cell? a7 = some v7 ∧ Below w.heap.size w w1 := by
  obtain ⟨h1, h2, h3, h4, h5, h6, h8, h7⟩ := h
  exact ⟨cell_later hb h1, cell_later hb h2, cell_later hb h3, cell_later hb h4, cell_later hb h5, cell_later hb h6, cell_later hb h8, h7.trans (hb.mono h7.size)⟩
theorem keep7d {w w0 : World} {a1 a2 a3 a4 a5 a6 a7 : Addr} {v1 v2 v3 v4 v5 v6 v7 : Value}
    (h : w0.cell? a1 = some v1 ∧ w0.cell? a2 = some v2 ∧ w0.cell? a3 = some v3 ∧ w0.cell? a4 = some v4 ∧ w0.cell? a5 = some v5 ∧ w0.cell? a6 = some v6 ∧ w0.cell? a7 = some v7 ∧ Below w.heap.size w w0) :
    w0.drew.cell? a1 = some v1 ∧ w0.drew.cell? a2 = some v2 ∧ w0.drew.cell? a3 = some v3 ∧ w0.drew.cell? a4 = some v4 ∧ w0.drew.cell? a5 = some v5 ∧ w0.drew.cell? a6 = some v6 ∧ w0.drew.cell? a7 = some v7 ∧ Below w.heap.size w w0.drew := by
  obtain ⟨h1, h2, h3, h4, h5, h6, h8, h7⟩ := h
  exact ⟨h1, h2, h3, h4, h5, h6, h8, h7.drew⟩

set_option maxRecDepth 100000 in
set_option maxHeartbeats 2000000 in
theorem iadd_g (R B g cap : Nat) (o : List Kl) (p1 p2 p3 s i m fr tu : Int) (n d : Int) (dr : Bool) (mp : Value) (w : World) (hR : RdBx w R n d dr mp (.slice (some ⟨g, 0, none⟩) (o.length + 1) cap) fr) (hO : Own w B g (o.length + 1) cap (o ++ [(p1, p2, p3)])) (hl : o.length ≤ 1000)
    (hp2 : 0 ≤ p2 ∧ p2 ≤ 10000000) (hp3 : 0 ≤ p3 ∧ p3 ≤ 10000000000000) (hC : COk (s, i, m)) (hf : 0 ≤ fr ∧ fr ≤ 10000000) (ht : 0 ≤ tu ∧ tu ≤ 10000000) (h2 : tu - fr = m) (hg : goes (p1, p2, p3) (s, i, m)) :
    Calls Tryz.prog 87 #[.pointer (some ⟨R, 0, none⟩), clV s i m, .int .i64 fr, .int .i64 tu] w fun e w' => e = .returned (.iface 92 (.int .i64 10)) ∧ Below w.heap.size w w' := by
  have hc : decide (COk (s, i, m)) = true := by simp [hC]
  have hv := hide (show decide (goes (p1, p2, p3) (s, i, m)) = true by simp [hg])
  have kb := hide (bx_below w s i m)
  have hw : IntKind.i64.wrap (tu - fr) = m := by rw [IntKind.wrap_i64]; omega
  have hbx := alloc_new w (.cells #[.int .i64 s, .int .i64 i, .int .i64 m] 44)
  have hbR := blk_below hR (unhide kb)
  have hQ : R < w.heap.size := (Array.getElem?_eq_some_iff.1 hR).1
  have hO1 := hide (ownsRow_below hO (unhide kb))
  obtain ⟨q, hq⟩ : ∃ q, q = o.length := ⟨_, rfl⟩
  have hcl := own_cells (last_get o (p1, p2, p3)) hO
  rw [← hq] at hbR hO1 hl
  have hL : IntKind.i64.wrap (((q + 1 : Nat) : Int) - 1) = (q : Int) := by rw [IntKind.wrap_i64]; omega
  have hL' : IntKind.i64.wrap ((q : Int) + 1 - 1) = (q : Int) := by rw [IntKind.wrap_i64]; omega
  have hge : decide ((q : Int) ≥ 0) = true := by simp
  have hge' : decide (0 ≤ (q : Int)) = true := by simp
  have hq' := hide hq
  clear hR hq hO hcl hg h2
  go_enter Tryz.func87, Tryz.ntmps87
  go_wp2_with fail
  refine (iclip_any s i m true _ hc).mono ?_
  rintro e w1 ⟨rfl, k1⟩
  have k2 := hide (laterB (unhide kb) k1)
  obtain ⟨c0, c1, c2, c3, c4, c5⟩ := blk6 (blk_below hbR k1)
  obtain ⟨b0, b1, b2⟩ := blk3 (blk_below hbx k1)
  have hO2 := hide (ownsRow_below (unhide hO1) k1)
  obtain ⟨x0, x1, x2⟩ : w1.cell? ⟨g, q * 3, none⟩ = some (.int .i64 p1) ∧ w1.cell? ⟨g, q * 3 + 1, none⟩ = some (.int .i64 p2) ∧ w1.cell? ⟨g, q * 3 + 2, none⟩ = some (.int .i64 p3) := by
    have := own_cells (last_get o (p1, p2, p3)) (unhide hO2)
    rw [← unhide hq'] at this
    exact this
  clear k1 kb hc hbx hbR hO1
  have e1 : (fr != fr) = false := by simp
  have e2 : (m != m) = false := by simp
  go_wp2_with fail
  have hm1 : (0 : Int) ≤ (q : Int) := by omega
  have hm2 : (q : Int) < (q : Int) + 1 := by omega
  have hm3 : (q : Int) < ((q + 1 : Nat) : Int) := by omega
  have hgt : g < w1.heap.size := own_lt (unhide hO2)
  have hall := hide (And.intro c4 (And.intro x0 (And.intro x1 (And.intro x2 (And.intro b0 (And.intro b1 (And.intro b2 (Below.refl w1.heap.size w1))))))))
  clear c0 c1 c2 c3 c5
  go_region_held3 (fun w' => w'.cell? ⟨R, 4, none⟩ = some (.slice (some ⟨g, 0, none⟩) (q + 1) cap) ∧ w'.cell? ⟨g, q * 3, none⟩ = some (.int .i64 p1) ∧ w'.cell? ⟨g, q * 3 + 1, none⟩ = some (.int .i64 p2) ∧ w'.cell? ⟨g, q * 3 + 2, none⟩ = some (.int .i64 p3) ∧ w'.cell? ⟨w.heap.size, 0, none⟩ = some (.int .i64 s) ∧ w'.cell? ⟨w.heap.size, 1, none⟩ = some (.int .i64 i) ∧ w'.cell? ⟨w.heap.size, 2, none⟩ = some (.int .i64 m) ∧ Below w1.heap.size w1 w')
    (first | (refine keep7 ?_ hb; assumption) | (exact keep7d (unhide hall)))
    ((go_at_call 37; refine (goes_any p1 p2 p3 s i m true _ hp2 hp3 (unhide hv)).mono ?_; rintro e w2 ⟨rfl, hb⟩))
  rename_i hH
  obtain ⟨y0, y1, y2, y3, y4, y5, y6, yb⟩ := hH
  have k3 := hide (laterB (unhide k2) yb)
  clear y0 y1 y2 y3 y4 y5 y6 yb k2
  go_wp2
  go_ret
  exact ⟨rfl, unhide k3⟩
end Go.Proofs.YtfhbmfndjbdhcaaGreatDoor
