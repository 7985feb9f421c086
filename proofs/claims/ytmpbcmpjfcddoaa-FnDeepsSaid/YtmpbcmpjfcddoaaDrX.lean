/-
  Contract of the model's draw of a pixel, over a cursor on bytes that came in; what was there but for the cursor stays.
-/
import Derived.Test.YtmpbcmpjfcddoaaDrC
import Derived.Test.YtmpbcmpjfcddoaaPx3
import Derived.Deep.RegionLaw
import Derived.Deep.CutRange
import Derived.Deep.CutBlock
import Derived.Deep.DeepCutAuto
namespace Go.Proofs.Ytmpbcmpjfcddoaa
open Go.RowKit
open D (grown_trans grown_set grown_refl)
set_option linter.unusedVariables false
set_option linter.unusedSimpArgs false
theorem Bx.put0 {w : World} {q : Nat} {x y z u : Int} (h : Bx w q x y z u) (v : Int) : Bx (w.setCell ⟨q, 0, none⟩ (.int .i64 v)) q v y z u :=
  ⟨World.cell?_setCell_same _ _ _ h.c0, by rw [World.cell?_setCell_other _ _ _ _ (ne_addr (by decide))]; exact h.c1, by rw [World.cell?_setCell_other _ _ _ _ (ne_addr (by decide))]; exact h.c2, by rw [World.cell?_setCell_other _ _ _ _ (ne_addr (by decide))]; exact h.c3, by rw [World.frozen?_setCell]; exact h.f0, by rw [World.frozen?_setCell]; exact h.f1, by rw [World.frozen?_setCell]; exact h.f2, by rw [World.frozen?_setCell]; exact h.f3⟩
theorem Bx.put1 {w : World} {q : Nat} {x y z u : Int} (h : Bx w q x y z u) (v : Int) : Bx (w.setCell ⟨q, 1, none⟩ (.int .i64 v)) q x v z u :=
  ⟨by rw [World.cell?_setCell_other _ _ _ _ (ne_addr (by decide))]; exact h.c0, World.cell?_setCell_same _ _ _ h.c1, by rw [World.cell?_setCell_other _ _ _ _ (ne_addr (by decide))]; exact h.c2, by rw [World.cell?_setCell_other _ _ _ _ (ne_addr (by decide))]; exact h.c3, by rw [World.frozen?_setCell]; exact h.f0, by rw [World.frozen?_setCell]; exact h.f1, by rw [World.frozen?_setCell]; exact h.f2, by rw [World.frozen?_setCell]; exact h.f3⟩
theorem Bx.put2 {w : World} {q : Nat} {x y z u : Int} (h : Bx w q x y z u) (v : Int) : Bx (w.setCell ⟨q, 2, none⟩ (.int .i64 v)) q x y v u :=
  ⟨by rw [World.cell?_setCell_other _ _ _ _ (ne_addr (by decide))]; exact h.c0, by rw [World.cell?_setCell_other _ _ _ _ (ne_addr (by decide))]; exact h.c1, World.cell?_setCell_same _ _ _ h.c2, by rw [World.cell?_setCell_other _ _ _ _ (ne_addr (by decide))]; exact h.c3, by rw [World.frozen?_setCell]; exact h.f0, by rw [World.frozen?_setCell]; exact h.f1, by rw [World.frozen?_setCell]; exact h.f2, by rw [World.frozen?_setCell]; exact h.f3⟩
theorem Bx.put3 {w : World} {q : Nat} {x y z u : Int} (h : Bx w q x y z u) (v : Int) : Bx (w.setCell ⟨q, 3, none⟩ (.int .i64 v)) q x y z v :=
  ⟨by rw [World.cell?_setCell_other _ _ _ _ (ne_addr (by decide))]; exact h.c0, by rw [World.cell?_setCell_other _ _ _ _ (ne_addr (by decide))]; exact h.c1, by rw [World.cell?_setCell_other _ _ _ _ (ne_addr (by decide))]; exact h.c2, World.cell?_setCell_same _ _ _ h.c3, by rw [World.frozen?_setCell]; exact h.f0, by rw [World.frozen?_setCell]; exact h.f1, by rw [World.frozen?_setCell]; exact h.f2, by rw [World.frozen?_setCell]; exact h.f3⟩

theorem Bx.grown {w w1 : World} {q g : Nat} {x y z u : Int} (h : Bx w q x y z u) (hg : w.grownBy w1 (some g)) (hne : q ≠ g) : Bx w1 q x y z u := h.block (hg.block q h.lt (by intro e; injection e with e; omega))
/-- the draw's state: the cursor, the answer's box, the pixel as it stands -/
structure Sp (w : World) (B g : Nat) (a : Option Addr) (len cap kb : Nat) (x y z u : Int) (wr : World) : Prop where
  ds : DS w B g a len cap wr
  r : Bx wr w.heap.size 0 0 0 0
  p : Bx wr kb x y z u
section
variable {w wr w1 : World} {B g len cap kb : Nat} {a : Option Addr} {x y z u : Int}
theorem Sp.call (h : Sp w B g a len cap kb x y z u wr) (hB : B ≤ g) (hr : w.heap.size ≠ g) (hk : kb ≠ g) (hc : CurAt w1 g a len cap) (hg : wr.grownBy w1 (some g)) : Sp w B g a len cap kb x y z u w1 := ⟨h.ds.step hB hc hg, h.r.grown hg hr, h.p.grown hg hk⟩
theorem Sp.later (h : Sp w B g a len cap kb x y z u wr) (hB : B ≤ g) (hb : Below wr.heap.size wr w1) : Sp w B g a len cap kb x y z u w1 := ⟨h.ds.later hB hb, h.r.below hb, h.p.below hb⟩
theorem Sp.put0 (h : Sp w B g a len cap kb x y z u wr) (hB : B ≤ g) (hwk : w.heap.size < kb) (hk : kb ≠ g) (hBk : B ≤ kb) (v : Int) : Sp w B g a len cap kb v y z u (wr.setCell ⟨kb, 0, none⟩ (.int .i64 v)) := ⟨h.ds.set hB (by omega) hk hBk, h.r.other (by omega), h.p.put0 v⟩
theorem Sp.put1 (h : Sp w B g a len cap kb x y z u wr) (hB : B ≤ g) (hwk : w.heap.size < kb) (hk : kb ≠ g) (hBk : B ≤ kb) (v : Int) : Sp w B g a len cap kb x v z u (wr.setCell ⟨kb, 1, none⟩ (.int .i64 v)) := ⟨h.ds.set hB (by omega) hk hBk, h.r.other (by omega), h.p.put1 v⟩
theorem Sp.put2 (h : Sp w B g a len cap kb x y z u wr) (hB : B ≤ g) (hwk : w.heap.size < kb) (hk : kb ≠ g) (hBk : B ≤ kb) (v : Int) : Sp w B g a len cap kb x y v u (wr.setCell ⟨kb, 2, none⟩ (.int .i64 v)) := ⟨h.ds.set hB (by omega) hk hBk, h.r.other (by omega), h.p.put2 v⟩
theorem Sp.put3 (h : Sp w B g a len cap kb x y z u wr) (hB : B ≤ g) (hwk : w.heap.size < kb) (hk : kb ≠ g) (hBk : B ≤ kb) (v : Int) : Sp w B g a len cap kb x y z v (wr.setCell ⟨kb, 3, none⟩ (.int .i64 v)) := ⟨h.ds.set hB (by omega) hk hBk, h.r.other (by omega), h.p.put3 v⟩
theorem DS.fin4 (h : DS w B g a len cap wr) (hB : B ≤ g) (hr : w.heap.size ≠ g) (hBw : B ≤ w.heap.size) {v0 v1 v2 v3 : Value} : DS w B g a len cap ((((wr.setCell ⟨w.heap.size, 0, none⟩ v0).setCell ⟨w.heap.size, 1, none⟩ v1).setCell ⟨w.heap.size, 2, none⟩ v2).setCell ⟨w.heap.size, 3, none⟩ v3) :=
  (((h.set hB (Nat.le_refl _) hr hBw).set hB (Nat.le_refl _) hr hBw).set hB (Nat.le_refl _) hr hBw).set hB (Nat.le_refl _) hr hBw
end
theorem lit8 {w : World} {T : TypeId} {k : Nat} {y1 y2 : Int} (h1 : 0 ≤ y1 ∧ y1 ≤ 255) (h2 : 0 ≤ y2 ∧ y2 ≤ 255) (hk : k < 8) : ∃ v : Int, (0 ≤ v ∧ v ≤ 255) ∧ (w.alloc (.cells #[.int .i64 0, .int .i64 255, .int .i64 255, .int .i64 128, .int .i64 1, .int .i64 254, .int .i64 y1, .int .i64 y2] T)).cell? ⟨w.heap.size, k, none⟩ = some (.int .i64 v) := by
  match k, hk with
  | 0, _ => exact ⟨0, by omega, by simp [go_sem]⟩
  | 1, _ => exact ⟨255, by omega, by simp [go_sem]⟩
  | 2, _ => exact ⟨255, by omega, by simp [go_sem]⟩
  | 3, _ => exact ⟨128, by omega, by simp [go_sem]⟩
  | 4, _ => exact ⟨1, by omega, by simp [go_sem]⟩
  | 5, _ => exact ⟨254, by omega, by simp [go_sem]⟩
  | 6, _ => exact ⟨y1, h1, by simp [go_sem]⟩
  | 7, _ => exact ⟨y2, h2, by simp [go_sem]⟩

set_option maxHeartbeats 6400000 in
theorem dpx_any (B g : Nat) (a : Option Addr) (len cap : Nat) (w : World) (hB : B ≤ g) (hBw : B ≤ w.heap.size) (hl : len ≤ 9223372036854775807) (hc : CurAt w g a len cap) (hr : RdB w B a len) :
    Calls Try.prog 30 #[.pointer (some ⟨g, 0, none⟩)] w fun e w' => ∃ x y z u, e = .returned (ag4 x y z u) ∧ DS w B g a len cap w' := by
  have gl0 := hc.lt
  have hrg : w.heap.size ≠ g := by omega
  have hal : Below w.heap.size w (w.alloc (.cells #[.int .i64 0, .int .i64 0, .int .i64 0, .int .i64 0] 29)) := (Below.refl _ _).alloc (Nat.le_refl _) _
  have D0 : Hid (DS w B g a len cap (w.alloc (.cells #[.int .i64 0, .int .i64 0, .int .i64 0, .int .i64 0] 29))) := hide ⟨hc.below hal, hr.grown (g := g) (grown_below hal) hB, grown_below hal⟩
  have R0 : Hid (Bx (w.alloc (.cells #[.int .i64 0, .int .i64 0, .int .i64 0, .int .i64 0] 29)) w.heap.size 0 0 0 0) := hide (Bx.new _ _ _ _ _ _)
  clear hal hc hr
  go_enter Try.func30, Try.ntmps30
  go_wp2_with fail
  refine (below_any B g a len cap 256 _ hB hl (unhide D0).cur (unhide D0).rd (by omega)).mono ?_
  rintro e w1 ⟨y1, rfl, y10, y11, k1, g1⟩
  have D1 := hide ((unhide D0).step hB k1 g1)
  have R1 := hide ((unhide R0).grown g1 hrg)
  clear D0 R0 k1 g1
  go_wp2_with fail
  refine (below_any B g a len cap 256 _ hB hl (unhide D1).cur (unhide D1).rd (by omega)).mono ?_
  rintro e w2 ⟨y2, rfl, y20, y21, k1, g1⟩
  have D2 := hide ((unhide D1).step hB k1 g1)
  have R2 := hide ((unhide R1).grown g1 hrg)
  clear D1 R1 k1 g1
  have hal : Below w2.heap.size w2 (w2.alloc (.cells #[.int .i64 0, .int .i64 255, .int .i64 255, .int .i64 128, .int .i64 1, .int .i64 254, .int .i64 y1, .int .i64 y2] 2)) := (Below.refl _ _).alloc (Nat.le_refl _) _
  have D3 := hide ((unhide D2).later hB hal)
  have R3 := hide ((unhide R2).below hal)
  have hlg : w2.heap.size ≠ g := by have := (unhide D2).cur.lt; omega
  clear hal D2 R2
  go_wp2_with fail
  refine (below_any B g a len cap 8 _ hB hl (unhide D3).cur (unhide D3).rd (by omega)).mono ?_
  rintro e w3 ⟨k, rfl, k0, k9, k1, g1⟩
  obtain ⟨k, rfl⟩ : ∃ k' : Nat, k = k' := ⟨k.toNat, by omega⟩
  obtain ⟨A, ⟨A0, A1⟩, hA⟩ := lit8 (w := w2) (T := 2) (k := k) (y1 := y1) (y2 := y2) ⟨y10, by omega⟩ ⟨y20, by omega⟩ (by omega)
  have hA3 := grown_cell g1 hlg hA
  have D4 := hide ((unhide D3).step hB k1 g1)
  have R4 := hide ((unhide R3).grown g1 hrg)
  have hw3 : w.heap.size < w3.heap.size := (unhide R4).lt
  have hg3 : g < w3.heap.size := (unhide D4).cur.lt
  clear D3 R3 k1 g1 hA hlg
  have hal : Below w3.heap.size w3 (w3.alloc (.cells #[.int .i64 0, .int .i64 0, .int .i64 0, .int .i64 A] 29)) := (Below.refl _ _).alloc (Nat.le_refl _) _
  have S0 : Hid (Sp w B g a len cap w3.heap.size 0 0 0 A (w3.alloc (.cells #[.int .i64 0, .int .i64 0, .int .i64 0, .int .i64 A] 29))) := hide ⟨(unhide D4).later hB hal, (unhide R4).below hal, Bx.new _ _ _ _ _ _⟩
  have hkg : w3.heap.size ≠ g := by omega
  have hBk : B ≤ w3.heap.size := by omega
  clear hal D4 R4 y10 y11 y20 y21
  have hwk : w.heap.size < w3.heap.size := hw3
  clear hw3 hg3
  go_upto_region 2 with fail
  clear hA3
  generalize w3.heap.size = kb at *
  generalize w3.alloc (.cells #[.int .i64 0, .int .i64 0, .int .i64 0, .int .i64 A] 29) = vA at *
  have hc3 := (unhide S0).p.c3
  go_wp2_with fail
  refine (below_any B g a len cap (A + 1) _ hB hl (unhide S0).ds.cur (unhide S0).ds.rd (by omega)).mono ?_
  rintro e w4 ⟨x0, rfl, _, _, k1, g1⟩
  have T0 := hide ((unhide S0).call hB hrg hkg k1 g1)
  have S1 := hide ((unhide T0).put0 hB hwk hkg hBk x0)
  clear hc3
  obtain ⟨c0, c1, c2, c3, f0, f1, f2, f3⟩ := (unhide T0).p
  clear S0 T0 k1 g1
  have S0 := S1
  clear S1
  go_upto_region 3 with fail
  clear c0 c1 c2 c3 f0 f1 f2 f3
  generalize w4.setCell ⟨kb, 0, none⟩ (.int .i64 x0) = v0 at *
  have hc3 := (unhide S0).p.c3
  go_wp2_with fail
  refine (below_any B g a len cap (A + 1) _ hB hl (unhide S0).ds.cur (unhide S0).ds.rd (by omega)).mono ?_
  rintro e w4 ⟨x1, rfl, _, _, k1, g1⟩
  have T0 := hide ((unhide S0).call hB hrg hkg k1 g1)
  have S1 := hide ((unhide T0).put1 hB hwk hkg hBk x1)
  clear hc3
  obtain ⟨c0, c1, c2, c3, f0, f1, f2, f3⟩ := (unhide T0).p
  clear S0 T0 k1 g1
  have S0 := S1
  clear S1
  go_upto_region 4 with fail
  clear c0 c1 c2 c3 f0 f1 f2 f3
  generalize w4.setCell ⟨kb, 1, none⟩ (.int .i64 x1) = v1 at *
  have hc3 := (unhide S0).p.c3
  go_wp2_with fail
  refine (below_any B g a len cap (A + 1) _ hB hl (unhide S0).ds.cur (unhide S0).ds.rd (by omega)).mono ?_
  rintro e w4 ⟨x2, rfl, _, _, k1, g1⟩
  have T0 := hide ((unhide S0).call hB hrg hkg k1 g1)
  have S1 := hide ((unhide T0).put2 hB hwk hkg hBk x2)
  clear hc3
  obtain ⟨c0, c1, c2, c3, f0, f1, f2, f3⟩ := (unhide T0).p
  clear S0 T0 k1 g1
  have S0 := S1
  clear S1
  go_upto_region 5 with fail
  clear c0 c1 c2 c3 f0 f1 f2 f3
  generalize w4.setCell ⟨kb, 2, none⟩ (.int .i64 x2) = v2 at *
  have hc3 := (unhide S0).p.c3
  go_wp2_with fail
  refine (once_any B g a len cap 40 _ hB hl (unhide S0).ds.cur (unhide S0).ds.rd (by omega)).mono ?_
  rintro e w5 ⟨o, rfl, k1, g1⟩
  have S1 := hide ((unhide S0).call hB hrg hkg k1 g1)
  clear S0 k1 g1 hc3
  have hfin : Hid (∀ (x y z u : Int) (wr : World), Sp w B g a len cap kb x y z u wr → DS w B g a len cap ((((wr.setCell ⟨w.heap.size, 0, none⟩ (.int .i64 x)).setCell ⟨w.heap.size, 1, none⟩ (.int .i64 y)).setCell ⟨w.heap.size, 2, none⟩ (.int .i64 z)).setCell ⟨w.heap.size, 3, none⟩ (.int .i64 u))) := hide (fun x y z u wr h => h.ds.fin4 hB hrg hBw)
  have hn1 : ¬ (w.heap.size = kb) := by omega
  have hn2 : ¬ (kb = w.heap.size) := by omega
  cases o
  · obtain ⟨c0, c1, c2, c3, f0, f1, f2, f3⟩ := (unhide S1).p
    obtain ⟨r0, r1, r2, r3, q0, q1, q2, q3⟩ := (unhide S1).r
    have hF := hide (unhide hfin _ _ _ _ _ (unhide S1))
    go_wp2
    exact bodyPost_ret (v := ag4 x0 x1 x2 A) (by simp [results, Try.results30, go_sem, r0, r1, r2, r3]) rfl ⟨_, _, _, _, rfl, unhide hF⟩
  go_wp2_with fail
  refine (below_any B g a len cap 3 _ hB hl (unhide S1).ds.cur (unhide S1).ds.rd (by omega)).mono ?_
  rintro e w6 ⟨t, rfl, t0, t1, k1, g1⟩
  have S2 := hide ((unhide S1).call hB hrg hkg k1 g1)
  clear S1 k1 g1
  have ht : t = 0 ∨ t = 1 ∨ t = 2 := by omega
  clear t0 t1
  have hlg : w6.heap.size ≠ g := by have := (unhide S2).ds.cur.lt; omega
  have hkw : kb < w6.heap.size := (unhide S2).p.lt
  have hww : w.heap.size < w6.heap.size := (unhide S2).r.lt
  rcases ht with rfl | rfl | rfl
  · have hAl : Below w6.heap.size w6 (w6.alloc (.cells #[.int .i64 (-1), .int .i64 256, .int .i64 4611686018427387904] 2)) := (Below.refl _ _).alloc (Nat.le_refl _) _
    have S3 := hide ((unhide S2).later hB hAl)
    clear hAl S2
    go_wp2_with fail
    refine (below_any B g a len cap 3 _ hB hl (unhide S3).ds.cur (unhide S3).ds.rd (by omega)).mono ?_
    rintro e w7 ⟨d, rfl, d0, d1, k1, g1⟩
    obtain ⟨m, rfl⟩ : ∃ m : Nat, d = m := ⟨d.toNat, by omega⟩
    obtain ⟨v, hv⟩ := lit3 (w := w6) (T := 2) (k := m) (a0 := -1) (a1 := 256) (a2 := 4611686018427387904) (by omega)
    have hv7 := grown_cell g1 hlg hv
    have S4 := hide ((unhide S3).call hB hrg hkg k1 g1)
    clear S3 k1 g1 hv
    obtain ⟨c0, c1, c2, c3, f0, f1, f2, f3⟩ := (unhide S4).p
    obtain ⟨r0, r1, r2, r3, q0, q1, q2, q3⟩ := (unhide S4).r
    have hF := hide (unhide hfin _ _ _ _ _ ((unhide S4).put3 hB hwk hkg hBk v))
    go_wp2
    exact bodyPost_ret (v := ag4 x0 x1 x2 v) (by simp [results, Try.results30, go_sem, r0, r1, r2, r3]) rfl ⟨_, _, _, _, rfl, unhide hF⟩
  · obtain ⟨A2, hA2⟩ : ∃ A2, IntKind.i64.wrap (A + 1) = A2 := ⟨_, rfl⟩
    have hAl : Below w6.heap.size w6 (w6.alloc (.cells #[.int .i64 (-1), .int .i64 A2, .int .i64 255] 2)) := (Below.refl _ _).alloc (Nat.le_refl _) _
    have S3 := hide ((unhide S2).later hB hAl)
    have hl3 := fun k hk => lit3 (w := w6) (T := 2) (k := k) (a0 := -1) (a1 := A2) (a2 := 255) hk
    clear hAl
    obtain ⟨c0, c1, c2, c3, f0, f1, f2, f3⟩ := (unhide S2).p
    have S3d := hide ((unhide S3).later hB ((Below.refl _ _).drew))
    have S2d := hide ((unhide S2).later hB ((Below.refl _ _).drew))
    go_wp2_with fail
    go_region_law ((first
      | (go_simp
         go_at_call 29
         refine (below_any B g a len cap 3 (w6.alloc (.cells #[.int .i64 (-1), .int .i64 A2, .int .i64 255] 2)).drew hB hl (unhide S3d).ds.cur (unhide S3d).ds.rd (by omega)).mono ?_
         rintro e w7 ⟨d, rfl, d0, d1, kk, gg⟩
         obtain ⟨m, rfl⟩ : ∃ m : Nat, d = m := ⟨d.toNat, by omega⟩
         obtain ⟨u, hu⟩ := hl3 m (by omega)
         have hu2 := grown_cell gg hlg hu
         have S5 := hide ((unhide S3d).call hB hrg hkg kk gg)
         obtain ⟨e0, e1, e2, e3, h0, h1, h2, h3⟩ := (unhide S5).p
         have m3 : kb < w7.heap.size := (unhide S5).p.lt
         clear kk gg)
      | (go_simp
         go_at_call 29
         refine (below_any B g a len cap 3 w6.drew hB hl (unhide S2d).ds.cur (unhide S2d).ds.rd (by omega)).mono ?_
         rintro e w7 ⟨d, rfl, d0, d1, kk, gg⟩
         obtain ⟨m, rfl⟩ : ∃ m : Nat, d = m := ⟨d.toNat, by omega⟩
         obtain ⟨u, hu2⟩ := lit3 (w := w7) (T := 2) (k := m) (a0 := -1) (a1 := A2) (a2 := 255) (by omega)
         have S5 := hide ((unhide S2d).call hB hrg hkg kk gg)
         obtain ⟨e0, e1, e2, e3, h0, h1, h2, h3⟩ := (unhide S5).p
         have m3 : kb < w7.heap.size := (unhide S5).p.lt
         clear kk gg)))
    all_goals (
      obtain ⟨r0, r1, r2, r3, q0, q1, q2, q3⟩ := (unhide S5).r
      have hrl : w.heap.size < w7.heap.size := (unhide S5).r.lt
      have hFA := hide (unhide hfin _ _ _ _ _ ((unhide S5).put0 hB hwk hkg hBk u))
      have hFB := hide ((unhide hFA).later hB ((Below.refl _ _).alloc (Nat.le_refl _) (.cells #[.int .i64 (-1), .int .i64 A2, .int .i64 255] 2)))
      clear S5 S3 S2 S3d S2d
      go_wp2
      exact bodyPost_ret (v := ag4 u x1 x2 A) (by simp [results, Try.results30, go_sem, r0, r1, r2, r3, hrl]) rfl ⟨_, _, _, _, rfl, by first | exact unhide hFA | exact unhide hFB⟩)
  · obtain ⟨A2, hA2⟩ : ∃ A2, IntKind.i64.wrap (A + 1) = A2 := ⟨_, rfl⟩
    have hAl : Below w6.heap.size w6 (w6.alloc (.cells #[.int .i64 (-1), .int .i64 A2, .int .i64 (-9223372036854775808)] 2)) := (Below.refl _ _).alloc (Nat.le_refl _) _
    have S3 := hide ((unhide S2).later hB hAl)
    have hl3 := fun k hk => lit3 (w := w6) (T := 2) (k := k) (a0 := -1) (a1 := A2) (a2 := (-9223372036854775808)) hk
    clear hAl
    obtain ⟨c0, c1, c2, c3, f0, f1, f2, f3⟩ := (unhide S2).p
    have S3d := hide ((unhide S3).later hB ((Below.refl _ _).drew))
    have S2d := hide ((unhide S2).later hB ((Below.refl _ _).drew))
    go_wp2_with fail
    go_region_law ((first
      | (go_simp
         go_at_call 29
         refine (below_any B g a len cap 3 (w6.alloc (.cells #[.int .i64 (-1), .int .i64 A2, .int .i64 (-9223372036854775808)] 2)).drew hB hl (unhide S3d).ds.cur (unhide S3d).ds.rd (by omega)).mono ?_
         rintro e w7 ⟨d, rfl, d0, d1, kk, gg⟩
         obtain ⟨m, rfl⟩ : ∃ m : Nat, d = m := ⟨d.toNat, by omega⟩
         obtain ⟨u, hu⟩ := hl3 m (by omega)
         have hu2 := grown_cell gg hlg hu
         have S5 := hide ((unhide S3d).call hB hrg hkg kk gg)
         obtain ⟨e0, e1, e2, e3, h0, h1, h2, h3⟩ := (unhide S5).p
         have m3 : kb < w7.heap.size := (unhide S5).p.lt
         clear kk gg)
      | (go_simp
         go_at_call 29
         refine (below_any B g a len cap 3 w6.drew hB hl (unhide S2d).ds.cur (unhide S2d).ds.rd (by omega)).mono ?_
         rintro e w7 ⟨d, rfl, d0, d1, kk, gg⟩
         obtain ⟨m, rfl⟩ : ∃ m : Nat, d = m := ⟨d.toNat, by omega⟩
         obtain ⟨u, hu2⟩ := lit3 (w := w7) (T := 2) (k := m) (a0 := -1) (a1 := A2) (a2 := (-9223372036854775808)) (by omega)
         have S5 := hide ((unhide S2d).call hB hrg hkg kk gg)
         obtain ⟨e0, e1, e2, e3, h0, h1, h2, h3⟩ := (unhide S5).p
         have m3 : kb < w7.heap.size := (unhide S5).p.lt
         clear kk gg)))
    all_goals (
      obtain ⟨r0, r1, r2, r3, q0, q1, q2, q3⟩ := (unhide S5).r
      have hrl : w.heap.size < w7.heap.size := (unhide S5).r.lt
      have hFA := hide (unhide hfin _ _ _ _ _ ((unhide S5).put2 hB hwk hkg hBk u))
      have hFB := hide ((unhide hFA).later hB ((Below.refl _ _).alloc (Nat.le_refl _) (.cells #[.int .i64 (-1), .int .i64 A2, .int .i64 (-9223372036854775808)] 2)))
      clear S5 S3 S2 S3d S2d
      go_wp2
      exact bodyPost_ret (v := ag4 x0 x1 u A) (by simp [results, Try.results30, go_sem, r0, r1, r2, r3, hrl]) rfl ⟨_, _, _, _, rfl, by first | exact unhide hFA | exact unhide hFB⟩)

end Go.Proofs.Ytmpbcmpjfcddoaa
