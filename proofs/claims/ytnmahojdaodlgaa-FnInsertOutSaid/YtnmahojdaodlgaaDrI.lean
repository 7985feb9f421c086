/-
  Contracts of the model's draws for Insert and Overwrite: they answer some list of clips in memory of its own, a number and a clip, and write into nothing that was there.
-/
import Derived.Test.YtnmahojdaodlgaaDrA
import Derived.Test.YtnmahojdaodlgaaLawJd
import Derived.Deep.RegionLaw
namespace Go.Proofs.Ytnmahojdaodlgaa
open Go.RowKit
set_option linter.unusedVariables false
set_option linter.unusedSimpArgs false

theorem own_setr {w : World} {B G n c r i : Nat} {L : List Kl} {v : Value} (h : Own w B G n c L) (hne : G ≠ r) : Own (w.setCell ⟨r, i, none⟩ v) B G n c L :=
  own_kept h (grown_set (grown_refl _ _)) hne
theorem drR_set {w wr : World} {G c r : Nat} {L : List Kl} {x y z : Value} (h : DrR w wr G c L) (hr : w.heap.size ≤ r) (hne : G ≠ r) : DrR w (((wr.setCell ⟨r, 0, none⟩ x).setCell ⟨r, 1, none⟩ y).setCell ⟨r, 2, none⟩ z) G c L :=
  ⟨h.1, own_setr (own_setr (own_setr h.2.1 hne) hne) hne, ((h.2.2.setCell hr _).setCell hr _).setCell hr _⟩

set_option maxHeartbeats 3200000 in
theorem dins_any (a : Option Addr) (len cap : Nat) (w : World) (hl : len ≤ 4096) (hr : RdB w w.heap.size a len) :
    Calls Try.prog 16 #[.slice a len cap] w fun e w' => ∃ G c L, ∃ t x y z : Int, e = .returned (.tuple #[.slice (some ⟨G, 0, none⟩) L.length c, .int .i64 t, .agg #[.int .i64 x, .int .i64 y, .int .i64 z]]) ∧ DrR w w' G c L := by
  have hl' : len ≤ 9223372036854775807 := by omega
  obtain ⟨V, hV⟩ : ∃ V, V = w.alloc (.cells #[.int .i64 0, .int .i64 0, .int .i64 0] 26) := ⟨_, rfl⟩
  have hWV : Below w.heap.size w V := by rw [hV]; exact (Below.refl _ _).alloc (Nat.le_refl _) _
  have hVs : w.heap.size < V.heap.size := by rw [hV]; simp
  have hrV := hide (show RdB V V.heap.size a len from by
    intro j hj
    obtain ⟨b, o, z, e, hb, hc, h0, h1⟩ := hr j hj
    exact ⟨b, o, z, e, by omega, ((bcell hWV).1 _ _ hb).trans hc, h0, h1⟩)
  have RV := hide (show Ck3 V w.heap.size from by rw [hV]; exact ⟨⟨0, 0, 0, by simp [go_sem], by simp [go_sem], by simp [go_sem]⟩, by simp [go_sem], by simp [go_sem], by simp [go_sem]⟩)
  have hWV' := hide hWV
  have hV' := hide hV
  clear hr hV hWV
  go_enter Try.func16, Try.ntmps16
  go_wp2_with fail
  rw [← unhide hV']
  refine (new_any a len cap V hl' (by omega) (unhide hrV)).mono ?_
  rintro e w1 ⟨g, rfl, hg0, hcur, hb1⟩
  have r1 : RdB w1 V.heap.size a len := by
    intro j hj
    obtain ⟨b, o, z, e, hb, hc, h0, h1⟩ := unhide hrV j hj
    exact ⟨b, o, z, e, hb, ((bcell hb1).1 _ _ hb).trans hc, h0, h1⟩
  have D1 := hide (show DS w1 V.heap.size g a len cap w1 from ⟨hcur, r1, World.grownBy.refl _ _⟩)
  have R1 := hide ((unhide RV).block (hb1.block _ hVs))
  have H1 := hide (laterB (unhide hWV') hb1)
  have hs1 := hb1.size
  have hg1 := hcur.lt
  have hrg : w.heap.size ≠ g := by omega
  clear hcur r1 hb1 RV hWV' hrV
  go_wp2_with fail
  refine (dtrack_any V.heap.size g a len cap _ hg0 hl' (unhide D1).cur (unhide D1).rd).mono ?_
  rintro e w2 ⟨G, c, L, rfl, hLl, T⟩
  have T2 := hide T
  have R2 := hide ((unhide R1).grown T.ds.gr hrg)
  clear T D1 R1
  go_wp2_with fail
  refine (dclip_any V.heap.size g a len cap _ hg0 (by have := (unhide T2).ds.gr.size; omega) hl' (unhide T2).ds.cur (unhide T2).ds.rd).mono ?_
  rintro e w3 ⟨x, y, z, rfl, d3⟩
  have T3 := hide ((unhide T2).call hg0 hg1 d3.cur d3.gr)
  have R3 := hide ((unhide R2).grown d3.gr hrg)
  clear d3 T2 R2
  have hAl : Below w3.heap.size w3 (w3.alloc (.cells #[.int .i64 x, .int .i64 y, .int .i64 z] 26)) := (Below.refl _ _).alloc (Nat.le_refl _) _
  have T4 := hide ((unhide T3).later hg0 hAl)
  have R4 := hide ((unhide R3).block (hAl.block _ (unhide R3).lt))
  obtain ⟨X, hX⟩ : ∃ X, X = w3.alloc (.cells #[.int .i64 x, .int .i64 y, .int .i64 z] 26) := ⟨_, rfl⟩
  rw [← hX] at T4 R4
  have d0 : X.cell? ⟨w3.heap.size, 0, none⟩ = some (.int .i64 x) := by rw [hX]; simp [go_sem]
  have d1 : X.cell? ⟨w3.heap.size, 1, none⟩ = some (.int .i64 y) := by rw [hX]; simp [go_sem]
  have d2 : X.cell? ⟨w3.heap.size, 2, none⟩ = some (.int .i64 z) := by rw [hX]; simp [go_sem]
  have hX' := hide hX
  have hkg : w3.heap.size ≠ g := by have := (unhide T3).ds.cur.lt; omega
  have hkr : w3.heap.size ≠ w.heap.size := by have := (unhide R3).lt; omega
  have T4d := hide ((unhide T4).later hg0 ((Below.refl _ _).drew))
  have R4d := hide ((unhide R4).block (w1 := X.drew) rfl)
  have hGr : G ≠ w.heap.size := by have := own_ge (unhide T4).ow; omega
  clear hAl T3 R3 hX
  go_wp2_with fail
  rw [← unhide hX']
  go_region_law ((first
    | (go_simp
       go_at_call 50
       refine (dat_any V.heap.size g a len cap (some ⟨G, 0, none⟩) c L X.drew hg0 hl' (unhide T4d).ds.cur (unhide T4d).ds.rd hLl (kls_own (unhide T4d).ow)).mono ?_
       rintro e w5 ⟨t, rfl, k1, g1⟩
       have T5 := hide ((unhide T4d).call hg0 hg1 k1 g1)
       have R5 := hide ((unhide R4d).grown g1 hrg)
       have m0 : w5.cell? ⟨w3.heap.size, 0, none⟩ = some (.int .i64 x) := grown_cell g1 hkg d0
       have m1 : w5.cell? ⟨w3.heap.size, 1, none⟩ = some (.int .i64 y) := grown_cell g1 hkg d1
       have m2 : w5.cell? ⟨w3.heap.size, 2, none⟩ = some (.int .i64 z) := grown_cell g1 hkg d2
       have rf0 := (unhide R5).f0
       have rf1 := (unhide R5).f1
       have rf2 := (unhide R5).f2
       obtain ⟨rx, ry, rz, r0, r1, r2⟩ := (unhide R5).ex
       clear k1 g1)))
  all_goals (
    have hF := hide (drR_set (x := .int .i64 x) (y := .int .i64 y) (z := .int .i64 z) (show DrR w w5 G c L from ⟨hLl, own_mono (unhide T5).ow (Nat.le_trans (Nat.le_of_lt hVs) hs1), below_grown (unhide H1) (unhide T5).ds.gr (by omega)⟩) (Nat.le_refl _) hGr)
    clear T5 R5 T4 T4d R4 R4d
    go_wp2
    exact bodyPost_ret (v := .tuple #[.slice (some ⟨G, 0, none⟩) L.length c, .int .i64 t, .agg #[.int .i64 x, .int .i64 y, .int .i64 z]]) (by simp [results, Try.results16, go_sem, r0, r1, r2]) rfl ⟨G, c, L, t, x, y, z, rfl, unhide hF⟩)

set_option maxHeartbeats 800000 in
theorem dovr_any (a : Option Addr) (len cap : Nat) (w : World) (hl : len ≤ 4096) (hr : RdB w w.heap.size a len) :
    Calls Try.prog 27 #[.slice a len cap] w fun e w' => ∃ G c L, ∃ t x y z : Int, e = .returned (.tuple #[.slice (some ⟨G, 0, none⟩) L.length c, .int .i64 t, .agg #[.int .i64 x, .int .i64 y, .int .i64 z]]) ∧ DrR w w' G c L := by
  obtain ⟨V, hV⟩ : ∃ V, V = w.alloc (.cells #[.int .i64 0, .int .i64 0, .int .i64 0] 26) := ⟨_, rfl⟩
  have hWV : Below w.heap.size w V := by rw [hV]; exact (Below.refl _ _).alloc (Nat.le_refl _) _
  have hVs : w.heap.size < V.heap.size := by rw [hV]; simp
  have hrV := hide (show RdB V V.heap.size a len from by
    intro j hj
    obtain ⟨b, o, z, e, hb, hc, h0, h1⟩ := hr j hj
    exact ⟨b, o, z, e, by omega, ((bcell hWV).1 _ _ hb).trans hc, h0, h1⟩)
  have RV := hide (show Ck3 V w.heap.size from by rw [hV]; exact ⟨⟨0, 0, 0, by simp [go_sem], by simp [go_sem], by simp [go_sem]⟩, by simp [go_sem], by simp [go_sem], by simp [go_sem]⟩)
  have hWV' := hide hWV
  have hV' := hide hV
  clear hr hV hWV
  go_enter Try.func27, Try.ntmps27
  go_wp2_with fail
  rw [← unhide hV']
  refine (dins_any a len cap V hl (unhide hrV)).mono ?_
  rintro e w1 ⟨G, c, L, t, x, y, z, rfl, h⟩
  have hGr : G ≠ w.heap.size := by have := own_ge h.2.1; omega
  have R1 := (unhide RV).block (h.2.2.block _ hVs)
  obtain ⟨rx, ry, rz, r0, r1, r2⟩ := R1.ex
  have rf0 := R1.f0
  have rf1 := R1.f1
  have rf2 := R1.f2
  have hF := hide (drR_set (x := .int .i64 x) (y := .int .i64 y) (z := .int .i64 z) (show DrR w w1 G c L from ⟨h.1, own_mono h.2.1 (Nat.le_of_lt hVs), laterB (unhide hWV') h.2.2⟩) (Nat.le_refl _) hGr)
  clear h R1
  go_wp2
  exact bodyPost_ret (v := .tuple #[.slice (some ⟨G, 0, none⟩) L.length c, .int .i64 t, .agg #[.int .i64 x, .int .i64 y, .int .i64 z]]) (by simp [results, Try.results27, go_sem, r0, r1, r2]) rfl ⟨G, c, L, t, x, y, z, rfl, unhide hF⟩

end Go.Proofs.Ytnmahojdaodlgaa
