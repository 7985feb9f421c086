/-
  Contracts of the model's draws of a rate and of a rate with a track; new memory, nothing that was there is written but for the cursor.
-/
import Derived.Test.YtfhbmfndjbdhcaaGreatDoorDr
import Derived.Test.YtfhbmfndjbdhcaaGreatDoorSmC
namespace Go.Proofs.YtfhbmfndjbdhcaaGreatDoor
open Go.RowKit
set_option linter.unusedVariables false
set_option linter.unusedSimpArgs false
theorem nbk_alloc (w : World) (o : Obj) : (w.alloc o).heap.size = w.heap.size + 1 := by simp
/-- a rate in a box of its own -/
def R3 (w : World) (b : Nat) (n d : Int) (dr : Bool) : Prop := w.heap[b]? = some (.cells #[.int .i64 n, .int .i64 d, .bool dr] 25 (0, 0))
section
variable {w w1 : World} {b : Nat} {n d : Int} {dr : Bool}
theorem R3.lt (h : R3 w b n d dr) : b < w.heap.size := (Array.getElem?_eq_some_iff.1 h).1
theorem R3.cells (h : R3 w b n d dr) : w.cell? ⟨b, 0, none⟩ = some (.int .i64 n) ∧ w.cell? ⟨b, 1, none⟩ = some (.int .i64 d) ∧ w.cell? ⟨b, 2, none⟩ = some (.bool dr) := by
  unfold R3 at h
  refine ⟨?_, ?_, ?_⟩ <;> simp [World.cell?, h]
theorem R3.fz (h : R3 w b n d dr) (k : Nat) : w.frozen? ⟨b, k, none⟩ = false := by
  unfold R3 at h
  simp [World.frozen?, h]
theorem R3.later (h : R3 w b n d dr) (hb : Below w.heap.size w w1) : R3 w1 b n d dr := (hb.block b h.lt).trans h
theorem R3.below {C : Nat} (h : R3 w b n d dr) (hb : Below C w w1) (hC : b < C) : R3 w1 b n d dr := (hb.block b hC).trans h
theorem R3.kept {g : Nat} (h : R3 w b n d dr) (hg : w.grownBy w1 (some g)) (hne : b ≠ g) : R3 w1 b n d dr := (hg.block b h.lt (by intro e; injection e with e; exact hne e)).trans h
theorem R3.new (w : World) (n d : Int) (dr : Bool) : R3 (w.alloc (.cells #[.int .i64 n, .int .i64 d, .bool dr] 25)) w.heap.size n d dr := by
  unfold R3
  exact heap_alloc_new w _
theorem R3.set (h : R3 w b n d dr) (n' d' : Int) (dr' : Bool) : R3 (((w.setCell ⟨b, 0, none⟩ (.int .i64 n')).setCell ⟨b, 1, none⟩ (.int .i64 d')).setCell ⟨b, 2, none⟩ (.bool dr')) b n' d' dr' := by
  unfold R3 at *
  simp [World.setCell, Array.getElem?_modify, h]
end
theorem grown_set3 {w w1 : World} {g : Option Nat} {b : Nat} {u v x : Value} (h : w.grownBy w1 g) (hb : w.heap.size ≤ b) : w.grownBy (((w1.setCell ⟨b, 0, none⟩ u).setCell ⟨b, 1, none⟩ v).setCell ⟨b, 2, none⟩ x) g := grown_set_new (grown_set_new (grown_set_new h hb) hb) hb
theorem cur_set3 {w : World} {g : Nat} {a : Option Addr} {len cap b : Nat} {u v x : Value} (h : CurAt w g a len cap) (hb : g ≠ b) : CurAt (((w.setCell ⟨b, 0, none⟩ u).setCell ⟨b, 1, none⟩ v).setCell ⟨b, 2, none⟩ x) g a len cap := h.other (by rw [heap_set_ne hb, heap_set_ne hb, heap_set_ne hb])
theorem rates4 {w : World} {k : Nat} (hk : k < 4) : ∃ (n d : Int) (dr : Bool), ∀ w1 : World, w1.heap[w.heap.size]? = (w.alloc (.cells #[.int .i64 24, .int .i64 1, .bool false, .int .i64 30000, .int .i64 1001, .bool true, .int .i64 25, .int .i64 1, .bool false, .int .i64 120, .int .i64 1, .bool false] 25)).heap[w.heap.size]? → w1.cell? ⟨w.heap.size, k * 3, none⟩ = some (.int .i64 n) ∧ w1.cell? ⟨w.heap.size, k * 3 + 1, none⟩ = some (.int .i64 d) ∧ w1.cell? ⟨w.heap.size, k * 3 + 2, none⟩ = some (.bool dr) := by
  have hn := heap_alloc_new w (.cells #[.int .i64 24, .int .i64 1, .bool false, .int .i64 30000, .int .i64 1001, .bool true, .int .i64 25, .int .i64 1, .bool false, .int .i64 120, .int .i64 1, .bool false] 25)
  have hc : k = 0 ∨ k = 1 ∨ k = 2 ∨ k = 3 := by omega
  rcases hc with rfl | rfl | rfl | rfl
  · exact ⟨24, 1, false, fun w1 h => by rw [hn] at h; refine ⟨?_, ?_, ?_⟩ <;> simp [World.cell?, h]⟩
  · exact ⟨30000, 1001, true, fun w1 h => by rw [hn] at h; refine ⟨?_, ?_, ?_⟩ <;> simp [World.cell?, h]⟩
  · exact ⟨25, 1, false, fun w1 h => by rw [hn] at h; refine ⟨?_, ?_, ?_⟩ <;> simp [World.cell?, h]⟩
  · exact ⟨120, 1, false, fun w1 h => by rw [hn] at h; refine ⟨?_, ?_, ?_⟩ <;> simp [World.cell?, h]⟩
set_option maxRecDepth 100000 in
set_option maxHeartbeats 1600000 in
theorem d6rate_any (B g : Nat) (a : Option Addr) (len cap : Nat) (w : World) (hB : B ≤ g) (hl : len ≤ 9223372036854775807) (hc : CurAt w g a len cap) (hr : RdB w B a len) :
    Calls Tryz.prog 14 #[.pointer (some ⟨g, 0, none⟩)] w fun e w' => ∃ n d dr, e = .returned (.agg #[.int .i64 n, .int .i64 d, .bool dr]) ∧ DS w B g a len cap w' := by
  have hg0 := hc.lt
  have a1 : Below w.heap.size w (w.alloc (.cells #[.int .i64 0, .int .i64 0, .bool false] 25)) := (Below.refl _ _).alloc (Nat.le_refl _) _
  have r1 := R3.new w 0 0 false
  have z1 := nbk_alloc w (.cells #[.int .i64 0, .int .i64 0, .bool false] 25)
  have D1 : Hid (DS w B g a len cap (w.alloc (.cells #[.int .i64 0, .int .i64 0, .bool false] 25))) := hide ((⟨hc, hr, grown_refl _ _⟩ : DS w B g a len cap w).later hB a1)
  have R1 := hide r1
  have hng : w.heap.size ≠ g := by omega
  clear hc hr a1 r1
  go_enter Tryz.func14, Tryz.ntmps14
  go_wp2_with fail
  generalize w.alloc (.cells #[.int .i64 0, .int .i64 0, .bool false] 25) = w1 at *
  refine (once_any B g a len cap 8 _ hB hl (unhide D1).cur (unhide D1).rd (by omega)).mono ?_
  rintro e w2 ⟨o, rfl, k2, g2⟩
  have D2 := hide ((unhide D1).step hB k2 g2)
  have R2 := hide ((unhide R1).kept g2 hng)
  clear D1 R1 k2 g2
  cases o with
  | true =>
    go_wp2_with fail
    refine (drate_any B g a len cap _ hB hl (unhide D2).cur (unhide D2).rd).mono ?_
    rintro e w3 ⟨n, d, dr, rfl, k3, g3⟩
    have D3 := (unhide D2).step hB k3 g3
    have R3x := (unhide R2).kept g3 hng
    obtain ⟨c0, c1, c2⟩ := R3x.cells
    have f0 := R3x.fz 0
    have f1 := R3x.fz 1
    have f2 := R3x.fz 2
    have hgw := D3.cur.lt
    have F : Hid (DS w B g a len cap (((w3.setCell ⟨w.heap.size, 0, none⟩ (.int .i64 n)).setCell ⟨w.heap.size, 1, none⟩ (.int .i64 d)).setCell ⟨w.heap.size, 2, none⟩ (.bool dr))) := hide ⟨cur_set3 D3.cur (Ne.symm hng), by
      intro j hj
      obtain ⟨b, o, z, e, h1, h2, h3⟩ := D3.rd j hj
      refine ⟨b, o, z, e, h1, ?_, h3⟩
      have hne : b ≠ w.heap.size := by omega
      rw [World.cell?_of_block (a := ⟨b, o + j, none⟩) (by show _ = w3.heap[b]?; rw [heap_set_ne hne, heap_set_ne hne, heap_set_ne hne])]
      exact h2, grown_set3 D3.gr (Nat.le_refl _)⟩
    clear D2 R2 D3 R3x k3 g3
    go_wp2
    exact bodyPost_ret (v := .agg #[.int .i64 n, .int .i64 d, .bool dr]) (by simp [results, Tryz.results14, go_sem, c0, c1, c2]) rfl ⟨n, d, dr, rfl, unhide F⟩
  | false =>
    have DA := hide ((unhide D2).later hB ((Below.refl _ _).alloc (Nat.le_refl _) (.cells #[.int .i64 24, .int .i64 1, .bool false, .int .i64 30000, .int .i64 1001, .bool true, .int .i64 25, .int .i64 1, .bool false, .int .i64 120, .int .i64 1, .bool false] 25)))
    have RA := hide ((unhide R2).later ((Below.refl _ _).alloc (Nat.le_refl _) (.cells #[.int .i64 24, .int .i64 1, .bool false, .int .i64 30000, .int .i64 1001, .bool true, .int .i64 25, .int .i64 1, .bool false, .int .i64 120, .int .i64 1, .bool false] 25)))
    have hg2 : g < w2.heap.size := (unhide D2).cur.lt
    have hw2 : w.heap.size < w2.heap.size := (unhide R2).lt
    go_wp2_with fail
    refine (below_any B g a len cap 4 _ hB hl (unhide DA).cur (unhide DA).rd (by omega)).mono ?_
    rintro e w3 ⟨y, rfl, y0, y1, k3, g3⟩
    obtain ⟨y, rfl⟩ : ∃ y' : Nat, y = y' := ⟨y.toNat, by omega⟩
    obtain ⟨n, d, dr, hlit⟩ := rates4 (w := w2) (k := y) (by omega)
    obtain ⟨l0, l1, l2⟩ := hlit w3 (g3.block _ (by simp) (by intro e; injection e with e; omega))
    have D3 := (unhide DA).step hB k3 g3
    have R3x := (unhide RA).kept g3 hng
    obtain ⟨c0, c1, c2⟩ := R3x.cells
    have f0 := R3x.fz 0
    have f1 := R3x.fz 1
    have f2 := R3x.fz 2
    have hy4 : y < 4 := by omega
    have F : Hid (DS w B g a len cap (((w3.setCell ⟨w.heap.size, 0, none⟩ (.int .i64 n)).setCell ⟨w.heap.size, 1, none⟩ (.int .i64 d)).setCell ⟨w.heap.size, 2, none⟩ (.bool dr))) := hide ⟨cur_set3 D3.cur (Ne.symm hng), by
      intro j hj
      obtain ⟨b, o, z, e, h1, h2, h3⟩ := D3.rd j hj
      refine ⟨b, o, z, e, h1, ?_, h3⟩
      have hne : b ≠ w.heap.size := by omega
      rw [World.cell?_of_block (a := ⟨b, o + j, none⟩) (by show _ = w3.heap[b]?; rw [heap_set_ne hne, heap_set_ne hne, heap_set_ne hne])]
      exact h2, grown_set3 D3.gr (Nat.le_refl _)⟩
    clear D2 R2 D3 R3x k3 g3 DA RA hlit
    go_wp2
    exact bodyPost_ret (v := .agg #[.int .i64 n, .int .i64 d, .bool dr]) (by simp [results, Tryz.results14, go_sem, c0, c1, c2]) rfl ⟨n, d, dr, rfl, unhide F⟩
theorem RdB.belowB {w w1 : World} {N B : Nat} {a : Option Addr} {len : Nat} (h : RdB w B a len) (hb : Below N w w1) (hB : B ≤ N) : RdB w1 B a len := by
  intro j hj
  obtain ⟨b, o, z, e, h1, h2, h3⟩ := h j hj
  exact ⟨b, o, z, e, h1, (hb.cell (p := ⟨b, o + j, none⟩) (by show b < N; omega)).trans h2, h3⟩
/-- a rate and a track that are drawn -/
def SlR (W : World) (e : Ending) (w' : World) : Prop := ∃ (n d : Int) (dr : Bool) (G N c : Nat) (L : List Kl), e = .returned (.tuple #[.agg #[.int .i64 n, .int .i64 d, .bool dr], .slice (some ⟨G, 0, none⟩) N c]) ∧ L.length = N ∧ N ≤ 1001 ∧ Kls w' (some ⟨G, 0, none⟩) L ∧ Below W.heap.size W w'
theorem kls_set3 {w : World} {B G n c b : Nat} {L : List Kl} {u v x : Value} (h : Own w B G n c L) (hb : G ≠ b) : Own (((w.setCell ⟨b, 0, none⟩ u).setCell ⟨b, 1, none⟩ v).setCell ⟨b, 2, none⟩ x) B G n c L :=
  own_kept (own_kept (own_kept h (grown_set (grown_refl w (some b))) hb) (grown_set (grown_refl _ (some b))) hb) (grown_set (grown_refl _ (some b))) hb
set_option maxRecDepth 100000 in
set_option maxHeartbeats 1600000 in
theorem dsl_any {W : World} (a : Option Addr) (len cap : Nat) (hl4 : len ≤ 4096) (hr : RdB W W.heap.size a len) : Calls Tryz.prog 5 #[.slice a len cap] W (SlR W) := by
  have hl : len ≤ 9223372036854775807 := by omega
  have a1 : Below W.heap.size W (W.alloc (.cells #[.int .i64 0, .int .i64 0, .bool false] 25)) := (Below.refl _ _).alloc (Nat.le_refl _) _
  have R1 := hide (R3.new W 0 0 false)
  have z1 := nbk_alloc W (.cells #[.int .i64 0, .int .i64 0, .bool false] 25)
  have B1 := hide a1
  have Q1 := hide (hr.belowB a1 (Nat.le_refl _))
  clear hr a1
  go_enter Tryz.func5, Tryz.ntmps5
  go_wp2_with fail
  generalize W.alloc (.cells #[.int .i64 0, .int .i64 0, .bool false] 25) = w1 at *
  have Q1' : Hid (RdB w1 w1.heap.size a len) := hide (fun j hj => by
    obtain ⟨b, o, z, e, h1, h2⟩ := unhide Q1 j hj
    exact ⟨b, o, z, e, by omega, h2⟩)
  have z1' := hide z1
  clear z1
  refine (new_any a len cap _ hl (by omega) (unhide Q1')).mono ?_
  rintro e w2 ⟨g, rfl, hg1, k2, b2⟩
  have z1 := unhide z1'
  have hWg : W.heap.size < g := by omega
  have hg2 := k2.lt
  have D2 := hide (⟨k2, (unhide Q1).belowB b2 (by omega), grown_refl _ _⟩ : DS w2 W.heap.size g a len cap w2)
  have R2 := hide ((unhide R1).later b2)
  have B2 := hide (laterB (unhide B1) b2)
  clear R1 B1 Q1 Q1' k2 b2 z1' z1
  go_wp2_with fail
  refine (d6rate_any W.heap.size g a len cap _ (by omega) hl (unhide D2).cur (unhide D2).rd).mono ?_
  rintro e w3 ⟨n, d, dr, rfl, d3⟩
  have R3x := hide ((unhide R2).kept d3.gr (by omega))
  have B3 := hide (below_grown (unhide B2) d3.gr (by omega))
  have hg3 := d3.cur.lt
  have a3 : Below w3.heap.size w3 (w3.alloc (.cells #[.int .i64 n, .int .i64 d, .bool dr] 25)) := (Below.refl _ _).alloc (Nat.le_refl _) _
  have C4 := hide (d3.cur.below a3)
  have Q4 := hide (d3.rd.belowB a3 (by omega))
  have R4 := hide ((unhide R3x).later a3)
  have B4 := hide (laterB (unhide B3) a3)
  have P4 := hide (R3.new w3 n d dr)
  have z4 := nbk_alloc w3 (.cells #[.int .i64 n, .int .i64 d, .bool dr] 25)
  have hW3 := (unhide R3x).lt
  clear d3 D2 R2 R3x B2 B3 a3
  go_wp2_with fail
  generalize w3.alloc (.cells #[.int .i64 n, .int .i64 d, .bool dr] 25) = w4 at *
  generalize w3.heap.size = k5 at *
  clear w3
  refine (dtrack_any W.heap.size g a len cap _ (by omega) hl (unhide C4) (unhide Q4)).mono ?_
  rintro e w5 ⟨G, c, L, rfl, hL, t5⟩
  have T5 := hide t5
  have R5 := hide ((unhide R4).kept t5.ds.gr (by omega))
  have P5 := hide ((unhide P4).kept t5.ds.gr (by omega))
  have B5 := hide (below_grown (unhide B4) t5.ds.gr (by omega))
  have hg4 : g < w4.heap.size := by omega
  clear t5 R4 P4 B4 C4 Q4
  go_wp2_with fail
  refine (once_any W.heap.size g a len cap 12 _ (by omega) hl (unhide T5).ds.cur (unhide T5).ds.rd (by omega)).mono ?_
  rintro e w6 ⟨o, rfl, k6, g6⟩
  have T6 := hide ((unhide T5).call (by omega) hg4 k6 g6)
  have R6 := hide ((unhide R5).kept g6 (by omega))
  have P6 := hide ((unhide P5).kept g6 (by omega))
  have B6 := hide (below_grown (unhide B5) g6 (by omega))
  clear T5 R5 P5 B5 k6 g6
  obtain ⟨M, hM⟩ : ∃ M, L.length = M := ⟨_, rfl⟩
  rw [hM] at T6 hL ⊢
  cases o with
  | false =>
    obtain ⟨c0, c1, c2⟩ := (unhide P6).cells
    obtain ⟨a0, a1, a2⟩ := (unhide R6).cells
    have f0 := (unhide R6).fz 0
    have f1 := (unhide R6).fz 1
    have f2 := (unhide R6).fz 2
    have hGe := own_ge (unhide T6).ow
    have F := hide (⟨kls_own (kls_set3 (u := .int .i64 n) (v := .int .i64 d) (x := .bool dr) (unhide T6).ow (show G ≠ W.heap.size by omega)), (((unhide B6).setCell (p := ⟨W.heap.size, 0, none⟩) (Nat.le_refl _) (.int .i64 n)).setCell (p := ⟨W.heap.size, 1, none⟩) (Nat.le_refl _) (.int .i64 d)).setCell (p := ⟨W.heap.size, 2, none⟩) (Nat.le_refl _) (.bool dr)⟩ : Kls _ _ L ∧ Below W.heap.size W _)
    have hM' := hide hM
    clear hM
    go_wp2
    exact bodyPost_ret (v := .tuple #[.agg #[.int .i64 n, .int .i64 d, .bool dr], .slice (some ⟨G, 0, none⟩) M c]) (by simp [results, Tryz.results5, go_sem, a0, a1, a2]) rfl ⟨n, d, dr, G, M, c, L, rfl, unhide hM', by omega, (unhide F).1, (unhide F).2⟩
  | true =>
    have hG6 := own_lt (unhide T6).ow
    have hw6 := (unhide T6).ds.gr.size
    have hM' := hide hM
    clear hM
    go_wp2_with (at_builtin; refine wpList_kN Tryz.underlying26 (B := w4.heap.size) (C := w6.heap.size) (wr := w6) (g := G) (n := M) (cap := c) (L := L) rfl _ _ rfl rfl (unhide T6).ow (hX := by repeat first | exact Below.refl _ _ | refine Below.setCell ?_ (by simp <;> omega) _ | refine Below.alloc ?_ (by simp <;> omega) _) hG6 (w6.heap.size) (by simp) rfl (by omega) hw6 hw6 ?_)
    intro G' c' w7 ho hb hge hlt
    have R7 := hide ((unhide R6).below hb (by omega))
    have P7 := hide ((unhide P6).below hb (by omega))
    have B7 := hide ((unhide B6).trans (hb.mono (by omega)))
    obtain ⟨c0, c1, c2⟩ := (unhide P7).cells
    obtain ⟨a0, a1, a2⟩ := (unhide R7).cells
    have f0 := (unhide R7).fz 0
    have f1 := (unhide R7).fz 1
    have f2 := (unhide R7).fz 2
    have hLn : Hid ((L ++ [(1, 9999950, 40)]).length = M + 1) := hide (by rw [List.length_append, unhide hM']; rfl)
    have F := hide (⟨kls_own (kls_set3 (u := .int .i64 n) (v := .int .i64 d) (x := .bool dr) ho (show G' ≠ W.heap.size by omega)), (((unhide B7).setCell (p := ⟨W.heap.size, 0, none⟩) (Nat.le_refl _) (.int .i64 n)).setCell (p := ⟨W.heap.size, 1, none⟩) (Nat.le_refl _) (.int .i64 d)).setCell (p := ⟨W.heap.size, 2, none⟩) (Nat.le_refl _) (.bool dr)⟩ : Kls _ _ (L ++ [(1, 9999950, 40)]) ∧ Below W.heap.size W _)
    clear ho hb T6 R6 P6 B6 R7 P7 B7
    go_wp2
    exact bodyPost_ret (v := .tuple #[.agg #[.int .i64 n, .int .i64 d, .bool dr], .slice (some ⟨G', 0, none⟩) (M + 1) c']) (by simp [results, Tryz.results5, go_sem, a0, a1, a2]) rfl ⟨n, d, dr, G', M + 1, c', _, rfl, unhide hLn, by omega, (unhide F).1, (unhide F).2⟩

end Go.Proofs.YtfhbmfndjbdhcaaGreatDoor
