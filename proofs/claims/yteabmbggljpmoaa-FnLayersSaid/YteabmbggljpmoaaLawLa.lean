/-
  The walk of the law FnLayers: for every code it answers true, and writes into nothing that was there.
-/
import Derived.Test.YteabmbggljpmoaaDrO
import Derived.Test.YteabmbggljpmoaaPov
import Derived.Test.YteabmbggljpmoaaPin
import Derived.Test.YteabmbggljpmoaaPad
import Derived.Test.YteabmbggljpmoaaPae
import Derived.Test.YteabmbggljpmoaaLawFMv
import Derived.Test.YteabmbggljpmoaaLaP
namespace Go.Proofs.Yteabmbggljpmoaa
open Go.RowKit
set_option linter.unusedVariables false
set_option linter.unusedSimpArgs false

theorem keepL {w w0 w1 : World} {a0 a1 a2 a3 a4 a5 a6 a7 a8 a9 a10 a11 a12 a13 a14 a15 a16 a17 a18 a19 a20 a21 a22 a23 : Addr} {v0 v1 v2 v3 v4 v5 v6 v7 v8 v9 v10 v11 v12 v13 v14 v15 v16 v17 v18 v19 v20 v21 v22 v23 : Value}
    (h : w0.cell? a0 = some v0 ∧ w0.cell? a1 = some v1 ∧ w0.cell? a2 = some v2 ∧ w0.cell? a3 = some v3 ∧ w0.cell? a4 = some v4 ∧ w0.cell? a5 = some v5 ∧ w0.cell? a6 = some v6 ∧ w0.cell? a7 = some v7 ∧ w0.cell? a8 = some v8 ∧ w0.cell? a9 = some v9 ∧ w0.cell? a10 = some v10 ∧ w0.cell? a11 = some v11 ∧ w0.cell? a12 = some v12 ∧ w0.cell? a13 = some v13 ∧ w0.cell? a14 = some v14 ∧ w0.cell? a15 = some v15 ∧ w0.cell? a16 = some v16 ∧ w0.cell? a17 = some v17 ∧ w0.cell? a18 = some v18 ∧ w0.cell? a19 = some v19 ∧ w0.cell? a20 = some v20 ∧ w0.cell? a21 = some v21 ∧ w0.cell? a22 = some v22 ∧ w0.cell? a23 = some v23 ∧ Below w.heap.size w w0) (hb : Below w0.heap.size w0 w1) : w1.cell? a0 = some v0 ∧ w1.cell? a1 = some v1 ∧ w1.cell? a2 = some v2 ∧ w1.cell? a3 = some v3 ∧ w1.cell? a4 = some v4 ∧ w1.cell? a5 = some v5 ∧ w1.cell? a6 = some v6 ∧ w1.cell? a7 = some v7 ∧ w1.cell? a8 = some v8 ∧ w1.cell? a9 = some v9 ∧ w1.cell? a10 = some v10 ∧ w1.cell? a11 = some v11 ∧ w1.cell? a12 = some v12 ∧ w1.cell? a13 = some v13 ∧ w1.cell? a14 = some v14 ∧ w1.cell? a15 = some v15 ∧ w1.cell? a16 = some v16 ∧ w1.cell? a17 = some v17 ∧ w1.cell? a18 = some v18 ∧ w1.cell? a19 = some v19 ∧ w1.cell? a20 = some v20 ∧ w1.cell? a21 = some v21 ∧ w1.cell? a22 = some v22 ∧ w1.cell? a23 = some v23 ∧ Below w.heap.size w w1 := by
  obtain ⟨h0, h1, h2, h3, h4, h5, h6, h7, h8, h9, h10, h11, h12, h13, h14, h15, h16, h17, h18, h19, h20, h21, h22, h23, hB⟩ := h
  exact ⟨cell_later hb h0, cell_later hb h1, cell_later hb h2, cell_later hb h3, cell_later hb h4, cell_later hb h5, cell_later hb h6, cell_later hb h7, cell_later hb h8, cell_later hb h9, cell_later hb h10, cell_later hb h11, cell_later hb h12, cell_later hb h13, cell_later hb h14, cell_later hb h15, cell_later hb h16, cell_later hb h17, cell_later hb h18, cell_later hb h19, cell_later hb h20, cell_later hb h21, cell_later hb h22, cell_later hb h23, hB.trans (hb.mono hB.size)⟩
theorem keepLd {w w0 : World} {a0 a1 a2 a3 a4 a5 a6 a7 a8 a9 a10 a11 a12 a13 a14 a15 a16 a17 a18 a19 a20 a21 a22 a23 : Addr} {v0 v1 v2 v3 v4 v5 v6 v7 v8 v9 v10 v11 v12 v13 v14 v15 v16 v17 v18 v19 v20 v21 v22 v23 : Value}
    (h : w0.cell? a0 = some v0 ∧ w0.cell? a1 = some v1 ∧ w0.cell? a2 = some v2 ∧ w0.cell? a3 = some v3 ∧ w0.cell? a4 = some v4 ∧ w0.cell? a5 = some v5 ∧ w0.cell? a6 = some v6 ∧ w0.cell? a7 = some v7 ∧ w0.cell? a8 = some v8 ∧ w0.cell? a9 = some v9 ∧ w0.cell? a10 = some v10 ∧ w0.cell? a11 = some v11 ∧ w0.cell? a12 = some v12 ∧ w0.cell? a13 = some v13 ∧ w0.cell? a14 = some v14 ∧ w0.cell? a15 = some v15 ∧ w0.cell? a16 = some v16 ∧ w0.cell? a17 = some v17 ∧ w0.cell? a18 = some v18 ∧ w0.cell? a19 = some v19 ∧ w0.cell? a20 = some v20 ∧ w0.cell? a21 = some v21 ∧ w0.cell? a22 = some v22 ∧ w0.cell? a23 = some v23 ∧ Below w.heap.size w w0) : w0.drew.cell? a0 = some v0 ∧ w0.drew.cell? a1 = some v1 ∧ w0.drew.cell? a2 = some v2 ∧ w0.drew.cell? a3 = some v3 ∧ w0.drew.cell? a4 = some v4 ∧ w0.drew.cell? a5 = some v5 ∧ w0.drew.cell? a6 = some v6 ∧ w0.drew.cell? a7 = some v7 ∧ w0.drew.cell? a8 = some v8 ∧ w0.drew.cell? a9 = some v9 ∧ w0.drew.cell? a10 = some v10 ∧ w0.drew.cell? a11 = some v11 ∧ w0.drew.cell? a12 = some v12 ∧ w0.drew.cell? a13 = some v13 ∧ w0.drew.cell? a14 = some v14 ∧ w0.drew.cell? a15 = some v15 ∧ w0.drew.cell? a16 = some v16 ∧ w0.drew.cell? a17 = some v17 ∧ w0.drew.cell? a18 = some v18 ∧ w0.drew.cell? a19 = some v19 ∧ w0.drew.cell? a20 = some v20 ∧ w0.drew.cell? a21 = some v21 ∧ w0.drew.cell? a22 = some v22 ∧ w0.drew.cell? a23 = some v23 ∧ Below w.heap.size w w0.drew := by
  obtain ⟨h0, h1, h2, h3, h4, h5, h6, h7, h8, h9, h10, h11, h12, h13, h14, h15, h16, h17, h18, h19, h20, h21, h22, h23, hB⟩ := h
  exact ⟨h0, h1, h2, h3, h4, h5, h6, h7, h8, h9, h10, h11, h12, h13, h14, h15, h16, h17, h18, h19, h20, h21, h22, h23, hB.drew⟩

def SL (W : World) (bp bq bo bi bu bd : Nat) (p0 p1 p2 p3 q0 q1 q2 q3 o0 o1 o2 o3 i0 i1 i2 i3 u0 u1 u2 u3 d0 d1 d2 d3 : Int) (w' : World) : Prop := w'.cell? ⟨bp, 0, none⟩ = some (.int .i64 p0) ∧ w'.cell? ⟨bp, 1, none⟩ = some (.int .i64 p1) ∧ w'.cell? ⟨bp, 2, none⟩ = some (.int .i64 p2) ∧ w'.cell? ⟨bp, 3, none⟩ = some (.int .i64 p3) ∧ w'.cell? ⟨bq, 0, none⟩ = some (.int .i64 q0) ∧ w'.cell? ⟨bq, 1, none⟩ = some (.int .i64 q1) ∧ w'.cell? ⟨bq, 2, none⟩ = some (.int .i64 q2) ∧ w'.cell? ⟨bq, 3, none⟩ = some (.int .i64 q3) ∧ w'.cell? ⟨bo, 0, none⟩ = some (.int .i64 o0) ∧ w'.cell? ⟨bo, 1, none⟩ = some (.int .i64 o1) ∧ w'.cell? ⟨bo, 2, none⟩ = some (.int .i64 o2) ∧ w'.cell? ⟨bo, 3, none⟩ = some (.int .i64 o3) ∧ w'.cell? ⟨bi, 0, none⟩ = some (.int .i64 i0) ∧ w'.cell? ⟨bi, 1, none⟩ = some (.int .i64 i1) ∧ w'.cell? ⟨bi, 2, none⟩ = some (.int .i64 i2) ∧ w'.cell? ⟨bi, 3, none⟩ = some (.int .i64 i3) ∧ w'.cell? ⟨bu, 0, none⟩ = some (.int .i64 u0) ∧ w'.cell? ⟨bu, 1, none⟩ = some (.int .i64 u1) ∧ w'.cell? ⟨bu, 2, none⟩ = some (.int .i64 u2) ∧ w'.cell? ⟨bu, 3, none⟩ = some (.int .i64 u3) ∧ w'.cell? ⟨bd, 0, none⟩ = some (.int .i64 d0) ∧ w'.cell? ⟨bd, 1, none⟩ = some (.int .i64 d1) ∧ w'.cell? ⟨bd, 2, none⟩ = some (.int .i64 d2) ∧ w'.cell? ⟨bd, 3, none⟩ = some (.int .i64 d3) ∧ Below W.heap.size W w'

set_option maxRecDepth 100000 in
set_option maxHeartbeats 12800000 in
theorem lawFLay {W : World} (a : Option Addr) (len cap : Nat) (hr : RdB W W.heap.size a len) :
    Calls Try.prog 3 #[.slice a len cap] W fun e w' => e = .returned (.bool true) ∧ Below W.heap.size W w' := by
  have hr' := hide hr
  clear hr
  by_cases hbig : 4096 < len
  · have hbd : Hid (decide ((4096 : Int) < len) = true) := hide (by simp; omega)
    go_enter Try.func3, Try.ntmps3
    go_wp2_with fail
    refine (big_any a len cap true _ (unhide hbd)).mono ?_
    rintro e w1 ⟨rfl, rfl⟩
    go_wp2
    go_ret
    exact ⟨rfl, Below.refl _ _⟩
  have hbd : Hid (decide ((4096 : Int) < len) = false) := hide (by simp; omega)
  have hl : len ≤ 4096 := by omega
  clear hbig
  go_enter Try.func3, Try.ntmps3
  go_wp2_with fail
  refine (big_any a len cap false _ (unhide hbd)).mono ?_
  rintro e w9 ⟨rfl, hw0⟩
  have hw1 := hw0.symm
  subst hw1
  go_wp2_with fail
  refine (dov_any a len cap hl (unhide hr')).mono ?_
  rintro e w1 ⟨p0, p1, p2, p3, q0, q1, q2, q3, rfl, hb⟩
  have H1 := hide hb
  clear hb hr'
  obtain ⟨w2, hw2⟩ : ∃ w2, w1.alloc (.cells #[.int .i64 p0, .int .i64 p1, .int .i64 p2, .int .i64 p3] 25) = w2 := ⟨_, rfl⟩
  have b2 : Below w1.heap.size w1 w2 := by rw [← hw2]; exact (Below.refl _ _).alloc (Nat.le_refl _) _
  have P2 : Bx w2 w1.heap.size p0 p1 p2 p3 := by rw [← hw2]; exact Bx.new _ _ _ _ _ _
  have s2 : w2.heap.size = w1.heap.size + 1 := by rw [← hw2]; simp
  have b3 : Below w2.heap.size w2 (w2.alloc (.cells #[.int .i64 q0, .int .i64 q1, .int .i64 q2, .int .i64 q3] 25)) := (Below.refl _ _).alloc (Nat.le_refl _) _
  have P3 := hide (P2.below b3)
  have Q3 : Hid (Bx (w2.alloc (.cells #[.int .i64 q0, .int .i64 q1, .int .i64 q2, .int .i64 q3] 25)) (w1.heap.size + 1) q0 q1 q2 q3) := hide (by rw [← s2]; exact Bx.new _ _ _ _ _ _)
  have H3 := hide (laterB (laterB (unhide H1) b2) b3)
  have hw2' := hide hw2
  clear b2 b3 P2 s2 hw2 H1
  obtain ⟨o0, o1, o2, o3, hO⟩ : ∃ o0 o1 o2 o3, overOf (p0, p1, p2, p3) (q0, q1, q2, q3) = (o0, o1, o2, o3) := ⟨_, _, _, _, rfl⟩
  obtain ⟨i0, i1, i2, i3, hI⟩ : ∃ i0 i1 i2 i3, insideOf (p0, p1, p2, p3) (q0, q1, q2, q3) = (i0, i1, i2, i3) := ⟨_, _, _, _, rfl⟩
  obtain ⟨u0, u1, u2, u3, hU⟩ : ∃ u0 u1 u2 u3, outsideOf (p0, p1, p2, p3) (q0, q1, q2, q3) = (u0, u1, u2, u3) := ⟨_, _, _, _, rfl⟩
  obtain ⟨d0, d1, d2, d3, hD⟩ : ∃ d0 d1 d2 d3, addedOf (p0, p1, p2, p3) (q0, q1, q2, q3) = (d0, d1, d2, d3) := ⟨_, _, _, _, rfl⟩
  have hO' := hide hO
  have hI' := hide hI
  have hU' := hide hU
  have hD' := hide hD
  clear hO hI hU hD
  go_wp2_with fail
  rw [unhide hw2']
  clear hw2'
  generalize w2.alloc (.cells #[.int .i64 q0, .int .i64 q1, .int .i64 q2, .int .i64 q3] 25) = X at *
  generalize w1.heap.size + 1 = bq at *
  generalize w1.heap.size = bp at *
  refine (iov_any p0 p1 p2 p3 q0 q1 q2 q3 o0 o1 o2 o3 _ (unhide hO')).mono ?_
  rintro e x4 ⟨rfl, hb⟩
  have hal : Below x4.heap.size x4 (x4.alloc (.cells #[.int .i64 o0, .int .i64 o1, .int .i64 o2, .int .i64 o3] 25)) := (Below.refl _ _).alloc (Nat.le_refl _) _
  have P3 := hide (((unhide P3).below hb).below hal)
  have Q3 := hide (((unhide Q3).below hb).below hal)
  have O3 : Hid (Bx (x4.alloc (.cells #[.int .i64 o0, .int .i64 o1, .int .i64 o2, .int .i64 o3] 25)) x4.heap.size o0 o1 o2 o3) := hide (Bx.new _ _ _ _ _ _)
  have H4 := hide (laterB (laterB (unhide H3) hb) hal)
  clear hb hal H3
  obtain ⟨y4, hy4⟩ : ∃ y, x4.alloc (.cells #[.int .i64 o0, .int .i64 o1, .int .i64 o2, .int .i64 o3] 25) = y := ⟨_, rfl⟩
  obtain ⟨bo, hb4⟩ : ∃ n, x4.heap.size = n := ⟨_, rfl⟩
  rw [hy4] at P3
  rw [hy4] at Q3
  rw [hy4] at O3
  rw [hb4] at O3
  rw [hy4] at H4
  have pc0 := (unhide P3).c0
  have pc1 := (unhide P3).c1
  have pc2 := (unhide P3).c2
  have pc3 := (unhide P3).c3
  have qc0 := (unhide Q3).c0
  have qc1 := (unhide Q3).c1
  have qc2 := (unhide Q3).c2
  have qc3 := (unhide Q3).c3
  go_wp2_with fail
  refine (iin_any p0 p1 p2 p3 q0 q1 q2 q3 i0 i1 i2 i3 _ (unhide hI')).mono ?_
  rintro e x5 ⟨rfl, hb⟩
  have hal : Below x5.heap.size x5 (x5.alloc (.cells #[.int .i64 i0, .int .i64 i1, .int .i64 i2, .int .i64 i3] 25)) := (Below.refl _ _).alloc (Nat.le_refl _) _
  have P3 := hide (((unhide P3).below hb).below hal)
  have Q3 := hide (((unhide Q3).below hb).below hal)
  have O3 := hide (((unhide O3).below hb).below hal)
  have I3 : Hid (Bx (x5.alloc (.cells #[.int .i64 i0, .int .i64 i1, .int .i64 i2, .int .i64 i3] 25)) x5.heap.size i0 i1 i2 i3) := hide (Bx.new _ _ _ _ _ _)
  have H5 := hide (laterB (laterB (unhide H4) hb) hal)
  clear hb hal H4
  obtain ⟨y5, hy5⟩ : ∃ y, x5.alloc (.cells #[.int .i64 i0, .int .i64 i1, .int .i64 i2, .int .i64 i3] 25) = y := ⟨_, rfl⟩
  obtain ⟨bi, hb5⟩ : ∃ n, x5.heap.size = n := ⟨_, rfl⟩
  rw [hy5] at P3
  rw [hy5] at Q3
  rw [hy5] at O3
  rw [hy5] at I3
  rw [hb5] at I3
  rw [hy5] at H5
  have pc0 := (unhide P3).c0
  have pc1 := (unhide P3).c1
  have pc2 := (unhide P3).c2
  have pc3 := (unhide P3).c3
  have qc0 := (unhide Q3).c0
  have qc1 := (unhide Q3).c1
  have qc2 := (unhide Q3).c2
  have qc3 := (unhide Q3).c3
  go_wp2_with fail
  refine (iout_any p0 p1 p2 p3 q0 q1 q2 q3 u0 u1 u2 u3 _ (unhide hU')).mono ?_
  rintro e x6 ⟨rfl, hb⟩
  have hal : Below x6.heap.size x6 (x6.alloc (.cells #[.int .i64 u0, .int .i64 u1, .int .i64 u2, .int .i64 u3] 25)) := (Below.refl _ _).alloc (Nat.le_refl _) _
  have P3 := hide (((unhide P3).below hb).below hal)
  have Q3 := hide (((unhide Q3).below hb).below hal)
  have O3 := hide (((unhide O3).below hb).below hal)
  have I3 := hide (((unhide I3).below hb).below hal)
  have U3 : Hid (Bx (x6.alloc (.cells #[.int .i64 u0, .int .i64 u1, .int .i64 u2, .int .i64 u3] 25)) x6.heap.size u0 u1 u2 u3) := hide (Bx.new _ _ _ _ _ _)
  have H6 := hide (laterB (laterB (unhide H5) hb) hal)
  clear hb hal H5
  obtain ⟨y6, hy6⟩ : ∃ y, x6.alloc (.cells #[.int .i64 u0, .int .i64 u1, .int .i64 u2, .int .i64 u3] 25) = y := ⟨_, rfl⟩
  obtain ⟨bu, hb6⟩ : ∃ n, x6.heap.size = n := ⟨_, rfl⟩
  rw [hy6] at P3
  rw [hy6] at Q3
  rw [hy6] at O3
  rw [hy6] at I3
  rw [hy6] at U3
  rw [hb6] at U3
  rw [hy6] at H6
  have pc0 := (unhide P3).c0
  have pc1 := (unhide P3).c1
  have pc2 := (unhide P3).c2
  have pc3 := (unhide P3).c3
  have qc0 := (unhide Q3).c0
  have qc1 := (unhide Q3).c1
  have qc2 := (unhide Q3).c2
  have qc3 := (unhide Q3).c3
  go_wp2_with fail
  refine (iad_any p0 p1 p2 p3 q0 q1 q2 q3 d0 d1 d2 d3 _ (unhide hD')).mono ?_
  rintro e x7 ⟨rfl, hb⟩
  have hal : Below x7.heap.size x7 (x7.alloc (.cells #[.int .i64 d0, .int .i64 d1, .int .i64 d2, .int .i64 d3] 25)) := (Below.refl _ _).alloc (Nat.le_refl _) _
  have P3 := hide (((unhide P3).below hb).below hal)
  have Q3 := hide (((unhide Q3).below hb).below hal)
  have O3 := hide (((unhide O3).below hb).below hal)
  have I3 := hide (((unhide I3).below hb).below hal)
  have U3 := hide (((unhide U3).below hb).below hal)
  have D3 : Hid (Bx (x7.alloc (.cells #[.int .i64 d0, .int .i64 d1, .int .i64 d2, .int .i64 d3] 25)) x7.heap.size d0 d1 d2 d3) := hide (Bx.new _ _ _ _ _ _)
  have H7 := hide (laterB (laterB (unhide H6) hb) hal)
  clear hb hal H6
  obtain ⟨y7, hy7⟩ : ∃ y, x7.alloc (.cells #[.int .i64 d0, .int .i64 d1, .int .i64 d2, .int .i64 d3] 25) = y := ⟨_, rfl⟩
  obtain ⟨bd, hb7⟩ : ∃ n, x7.heap.size = n := ⟨_, rfl⟩
  rw [hy7] at P3
  rw [hy7] at Q3
  rw [hy7] at O3
  rw [hy7] at I3
  rw [hy7] at U3
  rw [hy7] at D3
  rw [hb7] at D3
  rw [hy7] at H7
  have pc0 := (unhide P3).c0
  have pc1 := (unhide P3).c1
  have pc2 := (unhide P3).c2
  have pc3 := (unhide P3).c3
  have qc0 := (unhide Q3).c0
  have qc1 := (unhide Q3).c1
  have qc2 := (unhide Q3).c2
  have qc3 := (unhide Q3).c3
  go_upto_region 8 with fail
  have hall : Hid (y7.cell? ⟨bp, 0, none⟩ = some (.int .i64 p0) ∧ y7.cell? ⟨bp, 1, none⟩ = some (.int .i64 p1) ∧ y7.cell? ⟨bp, 2, none⟩ = some (.int .i64 p2) ∧ y7.cell? ⟨bp, 3, none⟩ = some (.int .i64 p3) ∧ y7.cell? ⟨bq, 0, none⟩ = some (.int .i64 q0) ∧ y7.cell? ⟨bq, 1, none⟩ = some (.int .i64 q1) ∧ y7.cell? ⟨bq, 2, none⟩ = some (.int .i64 q2) ∧ y7.cell? ⟨bq, 3, none⟩ = some (.int .i64 q3) ∧ y7.cell? ⟨bo, 0, none⟩ = some (.int .i64 o0) ∧ y7.cell? ⟨bo, 1, none⟩ = some (.int .i64 o1) ∧ y7.cell? ⟨bo, 2, none⟩ = some (.int .i64 o2) ∧ y7.cell? ⟨bo, 3, none⟩ = some (.int .i64 o3) ∧ y7.cell? ⟨bi, 0, none⟩ = some (.int .i64 i0) ∧ y7.cell? ⟨bi, 1, none⟩ = some (.int .i64 i1) ∧ y7.cell? ⟨bi, 2, none⟩ = some (.int .i64 i2) ∧ y7.cell? ⟨bi, 3, none⟩ = some (.int .i64 i3) ∧ y7.cell? ⟨bu, 0, none⟩ = some (.int .i64 u0) ∧ y7.cell? ⟨bu, 1, none⟩ = some (.int .i64 u1) ∧ y7.cell? ⟨bu, 2, none⟩ = some (.int .i64 u2) ∧ y7.cell? ⟨bu, 3, none⟩ = some (.int .i64 u3) ∧ y7.cell? ⟨bd, 0, none⟩ = some (.int .i64 d0) ∧ y7.cell? ⟨bd, 1, none⟩ = some (.int .i64 d1) ∧ y7.cell? ⟨bd, 2, none⟩ = some (.int .i64 d2) ∧ y7.cell? ⟨bd, 3, none⟩ = some (.int .i64 d3) ∧ Below W.heap.size W y7) := hide ⟨(unhide P3).c0, (unhide P3).c1, (unhide P3).c2, (unhide P3).c3, (unhide Q3).c0, (unhide Q3).c1, (unhide Q3).c2, (unhide Q3).c3, (unhide O3).c0, (unhide O3).c1, (unhide O3).c2, (unhide O3).c3, (unhide I3).c0, (unhide I3).c1, (unhide I3).c2, (unhide I3).c3, (unhide U3).c0, (unhide U3).c1, (unhide U3).c2, (unhide U3).c3, (unhide D3).c0, (unhide D3).c1, (unhide D3).c2, (unhide D3).c3, unhide H7⟩
  clear pc0 pc1 pc2 pc3 qc0 qc1 qc2 qc3 P3 Q3 O3 I3 U3 D3 H7
  clear hy4 hy5 hy6 hy7 hb4 hb5 hb6 hb7
  have tq : ∀ v : Int, (v != v) = false := fun v => by simp
  go_cut [55] from 56 (fun s wx => s = .bool false ∧ Hid (SL W bp bq bo bi bu bd p0 p1 p2 p3 q0 q1 q2 q3 o0 o1 o2 o3 i0 i1 i2 i3 u0 u1 u2 u3 d0 d1 d2 d3 wx))
  case first =>
    go_region_held3 (fun w' => w'.cell? ⟨bp, 0, none⟩ = some (.int .i64 p0) ∧ w'.cell? ⟨bp, 1, none⟩ = some (.int .i64 p1) ∧ w'.cell? ⟨bp, 2, none⟩ = some (.int .i64 p2) ∧ w'.cell? ⟨bp, 3, none⟩ = some (.int .i64 p3) ∧ w'.cell? ⟨bq, 0, none⟩ = some (.int .i64 q0) ∧ w'.cell? ⟨bq, 1, none⟩ = some (.int .i64 q1) ∧ w'.cell? ⟨bq, 2, none⟩ = some (.int .i64 q2) ∧ w'.cell? ⟨bq, 3, none⟩ = some (.int .i64 q3) ∧ w'.cell? ⟨bo, 0, none⟩ = some (.int .i64 o0) ∧ w'.cell? ⟨bo, 1, none⟩ = some (.int .i64 o1) ∧ w'.cell? ⟨bo, 2, none⟩ = some (.int .i64 o2) ∧ w'.cell? ⟨bo, 3, none⟩ = some (.int .i64 o3) ∧ w'.cell? ⟨bi, 0, none⟩ = some (.int .i64 i0) ∧ w'.cell? ⟨bi, 1, none⟩ = some (.int .i64 i1) ∧ w'.cell? ⟨bi, 2, none⟩ = some (.int .i64 i2) ∧ w'.cell? ⟨bi, 3, none⟩ = some (.int .i64 i3) ∧ w'.cell? ⟨bu, 0, none⟩ = some (.int .i64 u0) ∧ w'.cell? ⟨bu, 1, none⟩ = some (.int .i64 u1) ∧ w'.cell? ⟨bu, 2, none⟩ = some (.int .i64 u2) ∧ w'.cell? ⟨bu, 3, none⟩ = some (.int .i64 u3) ∧ w'.cell? ⟨bd, 0, none⟩ = some (.int .i64 d0) ∧ w'.cell? ⟨bd, 1, none⟩ = some (.int .i64 d1) ∧ w'.cell? ⟨bd, 2, none⟩ = some (.int .i64 d2) ∧ w'.cell? ⟨bd, 3, none⟩ = some (.int .i64 d3) ∧ Below W.heap.size W w')
      (first | (with_reducible refine keepL ?_ hb; with_reducible assumption) | (with_reducible exact keepLd (unhide hall)))
      (first
        | (go_at_call 20; refine (sov_any p0 p1 p2 p3 q0 q1 q2 q3 o0 o1 o2 o3 _ (unhide hO')).mono ?_; rintro e w4 ⟨rfl, hb⟩)
        | (go_at_call 21; refine (sin_any p0 p1 p2 p3 q0 q1 q2 q3 i0 i1 i2 i3 _ (unhide hI')).mono ?_; rintro e w4 ⟨rfl, hb⟩)
        | (go_at_call 22; refine (sout_any p0 p1 p2 p3 q0 q1 q2 q3 u0 u1 u2 u3 _ (unhide hU')).mono ?_; rintro e w4 ⟨rfl, hb⟩)
        | (go_at_call 23; refine (sad_any p0 p1 p2 p3 q0 q1 q2 q3 d0 d1 d2 d3 _ (unhide hD')).mono ?_; rintro e w4 ⟨rfl, hb⟩))
    all_goals
      rename_i hH
      have hH' := hide hH
      clear hH
      go_wp2
      go_meet
      exact ⟨by simp, hide (unhide hH')⟩
  case rest =>
    obtain ⟨h55, A5⟩ := hcut
    subst h55
    clear hall
    have hdim : ∀ v : Int, Num v → 0 ≤ v ∧ v ≤ 255 := fun v h => h
    by_cases hp : Pix (p0, p1, p2, p3)
    · have hP : Hid (decide (Pix (p0, p1, p2, p3)) = true) := hide (by simpa using hp)
      by_cases hq : Pix (q0, q1, q2, q3)
      · have hQ : Hid (decide (Pix (q0, q1, q2, q3)) = true) := hide (by simpa using hq)
        obtain ⟨gO, gI, gU, gD, gF, g1, g2, ⟨x0, x1⟩, ⟨y0, y1⟩⟩ := lay_facts hp hq (unhide hO') (unhide hI') (unhide hU') (unhide hD')
        have fO : Hid (decide (Pix (o0, o1, o2, o3)) = true) := hide (by simpa using gO)
        have fI : Hid (decide (Pix (i0, i1, i2, i3)) = true) := hide (by simpa using gI)
        have fU : Hid (decide (Pix (u0, u1, u2, u3)) = true) := hide (by simpa using gU)
        have fD : Hid (decide (Pix (d0, d1, d2, d3)) = true) := hide (by simpa using gD)
        have f1 := hide g1
        have f2 := hide g2
        have bi0 := hdim _ gI.1.1
        have bu0 := hdim _ gU.1.1
        have bp0 := hdim _ hp.1.1
        have bi3 := hdim _ gI.1.2.2.2
        have bu3 := hdim _ gU.1.2.2.2
        have bp3 := hdim _ hp.1.2.2.2
        simp only at bi0 bu0 bp0 bi3 bu3 bp3
        have w1 : IntKind.i64.wrap (i0 + u0) = i0 + u0 := by rw [IntKind.wrap_i64]; omega
        have w2 : IntKind.i64.wrap (i0 + u0 - p0) = i0 + u0 - p0 := by rw [IntKind.wrap_i64]; omega
        have w3 : IntKind.i64.wrap (i3 + u3) = i3 + u3 := by rw [IntKind.wrap_i64]; omega
        have w4 : IntKind.i64.wrap (i3 + u3 - p3) = i3 + u3 - p3 := by rw [IntKind.wrap_i64]; omega
        have x0' : decide (-1 ≤ i0 + u0 - p0) = true := decide_eq_true x0
        have x1' : decide (i0 + u0 - p0 ≤ 1) = true := decide_eq_true x1
        have y0' : decide (-1 ≤ i3 + u3 - p3) = true := decide_eq_true y0
        have y1' : decide (i3 + u3 - p3 ≤ 1) = true := decide_eq_true y1
        have gF' := hide gF
        clear gO gI gU gD g1 g2 gF bi0 bu0 bp0 bi3 bu3 hp hq hdim x0 x1 y0 y1
        obtain ⟨pc0, pc1, pc2, pc3, qc0, qc1, qc2, qc3, oc0, oc1, oc2, oc3, ic0, ic1, ic2, ic3, uc0, uc1, uc2, uc3, dc0, dc1, dc2, dc3, hbel⟩ := unhide A5
        clear hbel
        go_wp2_with fail
        refine (spx_any p0 p1 p2 p3 true _ (unhide hP)).mono ?_
        rintro e z1 ⟨rfl, hb⟩
        have A6 : Hid (SL W bp bq bo bi bu bd p0 p1 p2 p3 q0 q1 q2 q3 o0 o1 o2 o3 i0 i1 i2 i3 u0 u1 u2 u3 d0 d1 d2 d3 z1) := hide (keepL (unhide A5) hb)
        clear hb A5
        clear pc0 pc1 pc2 pc3 qc0 qc1 qc2 qc3 oc0 oc1 oc2 oc3 ic0 ic1 ic2 ic3 uc0 uc1 uc2 uc3 dc0 dc1 dc2 dc3
        obtain ⟨pc0, pc1, pc2, pc3, qc0, qc1, qc2, qc3, oc0, oc1, oc2, oc3, ic0, ic1, ic2, ic3, uc0, uc1, uc2, uc3, dc0, dc1, dc2, dc3, hbel⟩ := unhide A6
        clear hbel
        go_wp2_with fail
        refine (spx_any q0 q1 q2 q3 true _ (unhide hQ)).mono ?_
        rintro e z2 ⟨rfl, hb⟩
        have A7 : Hid (SL W bp bq bo bi bu bd p0 p1 p2 p3 q0 q1 q2 q3 o0 o1 o2 o3 i0 i1 i2 i3 u0 u1 u2 u3 d0 d1 d2 d3 z2) := hide (keepL (unhide A6) hb)
        clear hb A6
        clear pc0 pc1 pc2 pc3 qc0 qc1 qc2 qc3 oc0 oc1 oc2 oc3 ic0 ic1 ic2 ic3 uc0 uc1 uc2 uc3 dc0 dc1 dc2 dc3
        obtain ⟨pc0, pc1, pc2, pc3, qc0, qc1, qc2, qc3, oc0, oc1, oc2, oc3, ic0, ic1, ic2, ic3, uc0, uc1, uc2, uc3, dc0, dc1, dc2, dc3, hbel⟩ := unhide A7
        clear hbel
        go_upto_region 14 with fail
        clear pc0 pc1 pc2 pc3 qc0 qc1 qc2 qc3 oc0 oc1 oc2 oc3 ic0 ic1 ic2 ic3 uc0 uc1 uc2 uc3 dc0 dc1 dc2 dc3
        by_cases h5 : p3 < 255
        · have h5' : decide (p3 < 255) = true := decide_eq_true h5
          clear h5
          refine wp_region_noPanic ?_
          refine wp_region_held_drew (S := (fun w' => w'.cell? ⟨bp, 0, none⟩ = some (.int .i64 p0) ∧ w'.cell? ⟨bp, 1, none⟩ = some (.int .i64 p1) ∧ w'.cell? ⟨bp, 2, none⟩ = some (.int .i64 p2) ∧ w'.cell? ⟨bp, 3, none⟩ = some (.int .i64 p3) ∧ w'.cell? ⟨bq, 0, none⟩ = some (.int .i64 q0) ∧ w'.cell? ⟨bq, 1, none⟩ = some (.int .i64 q1) ∧ w'.cell? ⟨bq, 2, none⟩ = some (.int .i64 q2) ∧ w'.cell? ⟨bq, 3, none⟩ = some (.int .i64 q3) ∧ w'.cell? ⟨bo, 0, none⟩ = some (.int .i64 o0) ∧ w'.cell? ⟨bo, 1, none⟩ = some (.int .i64 o1) ∧ w'.cell? ⟨bo, 2, none⟩ = some (.int .i64 o2) ∧ w'.cell? ⟨bo, 3, none⟩ = some (.int .i64 o3) ∧ w'.cell? ⟨bi, 0, none⟩ = some (.int .i64 i0) ∧ w'.cell? ⟨bi, 1, none⟩ = some (.int .i64 i1) ∧ w'.cell? ⟨bi, 2, none⟩ = some (.int .i64 i2) ∧ w'.cell? ⟨bi, 3, none⟩ = some (.int .i64 i3) ∧ w'.cell? ⟨bu, 0, none⟩ = some (.int .i64 u0) ∧ w'.cell? ⟨bu, 1, none⟩ = some (.int .i64 u1) ∧ w'.cell? ⟨bu, 2, none⟩ = some (.int .i64 u2) ∧ w'.cell? ⟨bu, 3, none⟩ = some (.int .i64 u3) ∧ w'.cell? ⟨bd, 0, none⟩ = some (.int .i64 d0) ∧ w'.cell? ⟨bd, 1, none⟩ = some (.int .i64 d1) ∧ w'.cell? ⟨bd, 2, none⟩ = some (.int .i64 d2) ∧ w'.cell? ⟨bd, 3, none⟩ = some (.int .i64 d3) ∧ Below W.heap.size W w')) (by kernel_rfl) ?_ (fun hH0 => ?_)
          · exact keepLd (unhide A7)
          refine wpAnyH_take (i := 0) (oi := { dst := some 98, op := Go.Op.load 25 (Go.Operand.tmp 5), type := 25, pos := _, after := #[], guard := none }) (v := ?_) rfl (by kernel_rfl) (by kernel_rfl) (by kernel_rfl) (fun _ _ _ h => h) (Or.inl ⟨by rfl, ?_⟩) hH0 ?_
          rotate_left
          · (intro w hSw; (try dsimp only at hSw); go_simp <;> with_reducible rfl)
          (try simp only [Act.put, List.setIfInBounds_toArray, List.set_cons_zero, List.set_cons_succ])
          refine wpAnyH_ready (rs := [1]) (by kernel_rfl) (by simp) ?_
          refine AllReadyH.cons (o := { dst := some 99, op := Go.Op.call { callee := Go.Callee.value (Go.Operand.func 25), args := #[Go.Operand.tmp 98], argTypes := #[25] }, type := 4, pos := _, after := #[{ on := 0, ground := Go.Ground.data }], guard := none }) rfl (fun K hK => ?_) AllReadyH.nil
          go_simp
          go_at_call 25
          refine (ipx_any o0 o1 o2 o3 true _ (unhide fO)).mono ?_
          rintro e wc1 ⟨rfl, hb1⟩
          go_wp2_with fail
          refine hK.out _ _ ?_ (fun hH1 => ?_)
          · exact keepL hH0 hb1
          clear hK K
          (try simp only [Act.put, List.setIfInBounds_toArray, List.set_cons_zero, List.set_cons_succ])
          refine wpAnyH_take (i := 2) (oi := { dst := some 100, op := Go.Op.move (Go.Operand.tmp 99), type := 4, pos := _, after := #[{ on := 1, ground := Go.Ground.data }, { on := 1, ground := Go.Ground.chain }], guard := none }) (v := ?_) rfl (by kernel_rfl) (by kernel_rfl) (by kernel_rfl) (fun _ _ _ h => h) (Or.inl ⟨by rfl, ?_⟩) hH1 ?_
          rotate_left
          · (intro w hSw; (try dsimp only at hSw); go_simp <;> with_reducible rfl)
          (try simp only [Act.put, List.setIfInBounds_toArray, List.set_cons_zero, List.set_cons_succ])
          refine wpAnyH_take (i := 3) (oi := { dst := some 101, op := Go.Op.load 25 (Go.Operand.tmp 6), type := 25, pos := _, after := #[{ on := 2, ground := Go.Ground.guard }], guard := some (2, true) }) (v := ?_) rfl (by kernel_rfl) (by kernel_rfl) (by kernel_rfl) (fun _ _ _ h => h) (Or.inl ⟨by rfl, ?_⟩) hH1 ?_
          rotate_left
          · (intro w hSw; (try dsimp only at hSw); go_simp <;> with_reducible rfl)
          (try simp only [Act.put, List.setIfInBounds_toArray, List.set_cons_zero, List.set_cons_succ])
          refine wpAnyH_ready (rs := [4]) (by kernel_rfl) (by simp) ?_
          refine AllReadyH.cons (o := { dst := some 102, op := Go.Op.call { callee := Go.Callee.value (Go.Operand.func 25), args := #[Go.Operand.tmp 101], argTypes := #[25] }, type := 4, pos := _, after := #[{ on := 3, ground := Go.Ground.data }, { on := 2, ground := Go.Ground.chain }, { on := 2, ground := Go.Ground.guard }], guard := some (2, true) }) rfl (fun K hK => ?_) AllReadyH.nil
          go_simp
          go_at_call 25
          refine (ipx_any i0 i1 i2 i3 true _ (unhide fI)).mono ?_
          rintro e wc2 ⟨rfl, hb2⟩
          go_wp2_with fail
          refine hK.out _ _ ?_ (fun hH2 => ?_)
          · exact keepL hH1 hb2
          clear hK K
          (try simp only [Act.put, List.setIfInBounds_toArray, List.set_cons_zero, List.set_cons_succ])
          refine wpAnyH_take (i := 5) (oi := { dst := some 103, op := Go.Op.pick (Go.Operand.tmp 100) (Go.Operand.tmp 102) (Go.Operand.const (Go.Value.bool false)), type := 4, pos := _, after := #[{ on := 2, ground := Go.Ground.data }, { on := 4, ground := Go.Ground.data }], guard := none }) (v := ?_) rfl (by kernel_rfl) (by kernel_rfl) (by kernel_rfl) (fun _ _ _ h => h) (Or.inl ⟨by rfl, ?_⟩) hH2 ?_
          rotate_left
          · (intro w hSw; (try dsimp only at hSw); go_simp <;> with_reducible rfl)
          (try simp only [Act.put, List.setIfInBounds_toArray, List.set_cons_zero, List.set_cons_succ])
          refine wpAnyH_take (i := 6) (oi := { dst := some 104, op := Go.Op.move (Go.Operand.tmp 103), type := 4, pos := _, after := #[{ on := 5, ground := Go.Ground.data }, { on := 4, ground := Go.Ground.chain }], guard := none }) (v := ?_) rfl (by kernel_rfl) (by kernel_rfl) (by kernel_rfl) (fun _ _ _ h => h) (Or.inl ⟨by rfl, ?_⟩) hH2 ?_
          rotate_left
          · (intro w hSw; (try dsimp only at hSw); go_simp <;> with_reducible rfl)
          (try simp only [Act.put, List.setIfInBounds_toArray, List.set_cons_zero, List.set_cons_succ])
          refine wpAnyH_take (i := 7) (oi := { dst := some 105, op := Go.Op.load 25 (Go.Operand.tmp 7), type := 25, pos := _, after := #[{ on := 6, ground := Go.Ground.guard }], guard := some (6, true) }) (v := ?_) rfl (by kernel_rfl) (by kernel_rfl) (by kernel_rfl) (fun _ _ _ h => h) (Or.inl ⟨by rfl, ?_⟩) hH2 ?_
          rotate_left
          · (intro w hSw; (try dsimp only at hSw); go_simp <;> with_reducible rfl)
          (try simp only [Act.put, List.setIfInBounds_toArray, List.set_cons_zero, List.set_cons_succ])
          refine wpAnyH_ready (rs := [8]) (by kernel_rfl) (by simp) ?_
          refine AllReadyH.cons (o := { dst := some 106, op := Go.Op.call { callee := Go.Callee.value (Go.Operand.func 25), args := #[Go.Operand.tmp 105], argTypes := #[25] }, type := 4, pos := _, after := #[{ on := 7, ground := Go.Ground.data }, { on := 6, ground := Go.Ground.chain }, { on := 6, ground := Go.Ground.guard }], guard := some (6, true) }) rfl (fun K hK => ?_) AllReadyH.nil
          go_simp
          go_at_call 25
          refine (ipx_any u0 u1 u2 u3 true _ (unhide fU)).mono ?_
          rintro e wc3 ⟨rfl, hb3⟩
          go_wp2_with fail
          refine hK.out _ _ ?_ (fun hH3 => ?_)
          · exact keepL hH2 hb3
          clear hK K
          (try simp only [Act.put, List.setIfInBounds_toArray, List.set_cons_zero, List.set_cons_succ])
          refine wpAnyH_take (i := 9) (oi := { dst := some 107, op := Go.Op.pick (Go.Operand.tmp 104) (Go.Operand.tmp 106) (Go.Operand.const (Go.Value.bool false)), type := 4, pos := _, after := #[{ on := 6, ground := Go.Ground.data }, { on := 8, ground := Go.Ground.data }], guard := none }) (v := ?_) rfl (by kernel_rfl) (by kernel_rfl) (by kernel_rfl) (fun _ _ _ h => h) (Or.inl ⟨by rfl, ?_⟩) hH3 ?_
          rotate_left
          · (intro w hSw; (try dsimp only at hSw); go_simp <;> with_reducible rfl)
          (try simp only [Act.put, List.setIfInBounds_toArray, List.set_cons_zero, List.set_cons_succ])
          refine wpAnyH_take (i := 10) (oi := { dst := some 108, op := Go.Op.move (Go.Operand.tmp 107), type := 4, pos := _, after := #[{ on := 9, ground := Go.Ground.data }, { on := 8, ground := Go.Ground.chain }], guard := none }) (v := ?_) rfl (by kernel_rfl) (by kernel_rfl) (by kernel_rfl) (fun _ _ _ h => h) (Or.inl ⟨by rfl, ?_⟩) hH3 ?_
          rotate_left
          · (intro w hSw; (try dsimp only at hSw); go_simp <;> with_reducible rfl)
          (try simp only [Act.put, List.setIfInBounds_toArray, List.set_cons_zero, List.set_cons_succ])
          refine wpAnyH_take (i := 11) (oi := { dst := some 109, op := Go.Op.load 25 (Go.Operand.tmp 8), type := 25, pos := _, after := #[{ on := 10, ground := Go.Ground.guard }], guard := some (10, true) }) (v := ?_) rfl (by kernel_rfl) (by kernel_rfl) (by kernel_rfl) (fun _ _ _ h => h) (Or.inl ⟨by rfl, ?_⟩) hH3 ?_
          rotate_left
          · (intro w hSw; (try dsimp only at hSw); go_simp <;> with_reducible rfl)
          (try simp only [Act.put, List.setIfInBounds_toArray, List.set_cons_zero, List.set_cons_succ])
          refine wpAnyH_ready (rs := [12]) (by kernel_rfl) (by simp) ?_
          refine AllReadyH.cons (o := { dst := some 110, op := Go.Op.call { callee := Go.Callee.value (Go.Operand.func 25), args := #[Go.Operand.tmp 109], argTypes := #[25] }, type := 4, pos := _, after := #[{ on := 11, ground := Go.Ground.data }, { on := 10, ground := Go.Ground.chain }, { on := 10, ground := Go.Ground.guard }], guard := some (10, true) }) rfl (fun K hK => ?_) AllReadyH.nil
          go_simp
          go_at_call 25
          refine (ipx_any d0 d1 d2 d3 true _ (unhide fD)).mono ?_
          rintro e wc4 ⟨rfl, hb4⟩
          go_wp2_with fail
          refine hK.out _ _ ?_ (fun hH4 => ?_)
          · exact keepL hH3 hb4
          clear hK K
          (try simp only [Act.put, List.setIfInBounds_toArray, List.set_cons_zero, List.set_cons_succ])
          refine wpAnyH_take (i := 13) (oi := { dst := some 111, op := Go.Op.pick (Go.Operand.tmp 108) (Go.Operand.tmp 110) (Go.Operand.const (Go.Value.bool false)), type := 4, pos := _, after := #[{ on := 10, ground := Go.Ground.data }, { on := 12, ground := Go.Ground.data }], guard := none }) (v := ?_) rfl (by kernel_rfl) (by kernel_rfl) (by kernel_rfl) (fun _ _ _ h => h) (Or.inl ⟨by rfl, ?_⟩) hH4 ?_
          rotate_left
          · (intro w hSw; (try dsimp only at hSw); go_simp <;> with_reducible rfl)
          (try simp only [Act.put, List.setIfInBounds_toArray, List.set_cons_zero, List.set_cons_succ])
          refine wpAnyH_take (i := 14) (oi := { dst := some 112, op := Go.Op.move (Go.Operand.tmp 111), type := 4, pos := _, after := #[{ on := 13, ground := Go.Ground.data }, { on := 12, ground := Go.Ground.chain }], guard := none }) (v := ?_) rfl (by kernel_rfl) (by kernel_rfl) (by kernel_rfl) (fun _ _ _ h => h) (Or.inl ⟨by rfl, ?_⟩) hH4 ?_
          rotate_left
          · (intro w hSw; (try dsimp only at hSw); go_simp <;> with_reducible rfl)
          (try simp only [Act.put, List.setIfInBounds_toArray, List.set_cons_zero, List.set_cons_succ])
          refine wpAnyH_take (i := 15) (oi := { dst := some 113, op := Go.Op.fieldAddr 25 (Go.Operand.tmp 3) 3, type := 0, pos := _, after := #[{ on := 14, ground := Go.Ground.guard }], guard := some (14, true) }) (v := ?_) rfl (by kernel_rfl) (by kernel_rfl) (by kernel_rfl) (fun _ _ _ h => h) (Or.inl ⟨by rfl, ?_⟩) hH4 ?_
          rotate_left
          · (intro w hSw; (try dsimp only at hSw); go_simp <;> with_reducible rfl)
          (try simp only [Act.put, List.setIfInBounds_toArray, List.set_cons_zero, List.set_cons_succ])
          refine wpAnyH_take (i := 16) (oi := { dst := some 114, op := Go.Op.load 2 (Go.Operand.tmp 113), type := 2, pos := _, after := #[{ on := 15, ground := Go.Ground.data }, { on := 14, ground := Go.Ground.guard }], guard := some (14, true) }) (v := ?_) rfl (by kernel_rfl) (by kernel_rfl) (by kernel_rfl) (fun _ _ _ h => h) (Or.inl ⟨by rfl, ?_⟩) hH4 ?_
          rotate_left
          · (intro w hSw; (try dsimp only at hSw); go_simp <;> with_reducible rfl)
          (try simp only [Act.put, List.setIfInBounds_toArray, List.set_cons_zero, List.set_cons_succ])
          refine wpAnyH_take (i := 17) (oi := { dst := some 115, op := Go.Op.binOp Go.BinOp.lss 2 (Go.Operand.tmp 114) (Go.Operand.const (Go.Value.int Go.IntKind.i64 255)) 2, type := 4, pos := _, after := #[{ on := 16, ground := Go.Ground.data }, { on := 14, ground := Go.Ground.guard }], guard := some (14, true) }) (v := ?_) rfl (by kernel_rfl) (by kernel_rfl) (by kernel_rfl) (fun _ _ _ h => h) (Or.inl ⟨by rfl, ?_⟩) hH4 ?_
          rotate_left
          · (intro w hSw; (try dsimp only at hSw); go_simp <;> with_reducible rfl)
          (try simp only [Act.put, List.setIfInBounds_toArray, List.set_cons_zero, List.set_cons_succ])
          refine wpAnyH_take (i := 18) (oi := { dst := some 116, op := Go.Op.move (Go.Operand.tmp 115), type := 4, pos := _, after := #[{ on := 17, ground := Go.Ground.data }, { on := 14, ground := Go.Ground.chain }, { on := 14, ground := Go.Ground.guard }], guard := some (14, true) }) (v := ?_) rfl (by kernel_rfl) (by kernel_rfl) (by kernel_rfl) (fun _ _ _ h => h) (Or.inl ⟨by rfl, ?_⟩) hH4 ?_
          rotate_left
          · (intro w hSw; (try dsimp only at hSw); go_simp <;> with_reducible rfl)
          (try simp only [Act.put, List.setIfInBounds_toArray, List.set_cons_zero, List.set_cons_succ])
          refine wpAnyH_take (i := 19) (oi := { dst := some 117, op := Go.Op.load 25 (Go.Operand.tmp 5), type := 25, pos := _, after := #[{ on := 18, ground := Go.Ground.guard }], guard := some (18, false) }) (v := undef) rfl (by kernel_rfl) (by kernel_rfl) (by kernel_rfl) (fun _ _ _ h => h) (Or.inr ⟨by rfl, rfl⟩) hH4 ?_
          (try simp only [Act.put, List.setIfInBounds_toArray, List.set_cons_zero, List.set_cons_succ])
          refine wpAnyH_take (i := 20) (oi := { dst := some 118, op := Go.Op.load 25 (Go.Operand.tmp 3), type := 25, pos := _, after := #[{ on := 18, ground := Go.Ground.guard }], guard := some (18, false) }) (v := undef) rfl (by kernel_rfl) (by kernel_rfl) (by kernel_rfl) (fun _ _ _ h => h) (Or.inr ⟨by rfl, rfl⟩) hH4 ?_
          (try simp only [Act.put, List.setIfInBounds_toArray, List.set_cons_zero, List.set_cons_succ])
          refine wpAnyH_take (i := 21) (oi := { dst := some 119, op := Go.Op.binOp Go.BinOp.eql 25 (Go.Operand.tmp 117) (Go.Operand.tmp 118) 25, type := 4, pos := _, after := #[{ on := 19, ground := Go.Ground.data }, { on := 20, ground := Go.Ground.data }, { on := 18, ground := Go.Ground.guard }], guard := some (18, false) }) (v := undef) rfl (by kernel_rfl) (by kernel_rfl) (by kernel_rfl) (fun _ _ _ h => h) (Or.inr ⟨by rfl, rfl⟩) hH4 ?_
          (try simp only [Act.put, List.setIfInBounds_toArray, List.set_cons_zero, List.set_cons_succ])
          refine wpAnyH_take (i := 22) (oi := { dst := some 120, op := Go.Op.pick (Go.Operand.tmp 116) (Go.Operand.const (Go.Value.bool true)) (Go.Operand.tmp 119), type := 4, pos := _, after := #[{ on := 18, ground := Go.Ground.data }, { on := 21, ground := Go.Ground.data }, { on := 14, ground := Go.Ground.guard }], guard := some (14, true) }) (v := ?_) rfl (by kernel_rfl) (by kernel_rfl) (by kernel_rfl) (fun _ _ _ h => h) (Or.inl ⟨by rfl, ?_⟩) hH4 ?_
          rotate_left
          · (intro w hSw; (try dsimp only at hSw); go_simp <;> with_reducible rfl)
          (try simp only [Act.put, List.setIfInBounds_toArray, List.set_cons_zero, List.set_cons_succ])
          refine wpAnyH_take (i := 23) (oi := { dst := some 121, op := Go.Op.pick (Go.Operand.tmp 112) (Go.Operand.tmp 120) (Go.Operand.const (Go.Value.bool false)), type := 4, pos := _, after := #[{ on := 14, ground := Go.Ground.data }, { on := 22, ground := Go.Ground.data }], guard := none }) (v := ?_) rfl (by kernel_rfl) (by kernel_rfl) (by kernel_rfl) (fun _ _ _ h => h) (Or.inl ⟨by rfl, ?_⟩) hH4 ?_
          rotate_left
          · (intro w hSw; (try dsimp only at hSw); go_simp <;> with_reducible rfl)
          (try simp only [Act.put, List.setIfInBounds_toArray, List.set_cons_zero, List.set_cons_succ])
          refine wpAnyH_take (i := 24) (oi := { dst := some 122, op := Go.Op.move (Go.Operand.tmp 121), type := 4, pos := _, after := #[{ on := 23, ground := Go.Ground.data }, { on := 18, ground := Go.Ground.chain }], guard := none }) (v := ?_) rfl (by kernel_rfl) (by kernel_rfl) (by kernel_rfl) (fun _ _ _ h => h) (Or.inl ⟨by rfl, ?_⟩) hH4 ?_
          rotate_left
          · (intro w hSw; (try dsimp only at hSw); go_simp <;> with_reducible rfl)
          (try simp only [Act.put, List.setIfInBounds_toArray, List.set_cons_zero, List.set_cons_succ])
          refine wpAnyH_take (i := 25) (oi := { dst := some 123, op := Go.Op.build 25 #[], type := 25, pos := _, after := #[{ on := 24, ground := Go.Ground.guard }], guard := some (24, true) }) (v := ?_) rfl (by kernel_rfl) (by kernel_rfl) (by kernel_rfl) (fun _ _ _ h => h) (Or.inl ⟨by rfl, ?_⟩) hH4 ?_
          rotate_left
          · (intro w hSw; (try dsimp only at hSw); go_simp <;> with_reducible rfl)
          (try simp only [Act.put, List.setIfInBounds_toArray, List.set_cons_zero, List.set_cons_succ])
          refine wpAnyH_take (i := 26) (oi := { dst := some 124, op := Go.Op.load 25 (Go.Operand.tmp 3), type := 25, pos := _, after := #[{ on := 24, ground := Go.Ground.guard }], guard := some (24, true) }) (v := ?_) rfl (by kernel_rfl) (by kernel_rfl) (by kernel_rfl) (fun _ _ _ h => h) (Or.inl ⟨by rfl, ?_⟩) hH4 ?_
          rotate_left
          · (intro w hSw; (try dsimp only at hSw); go_simp <;> with_reducible rfl)
          (try simp only [Act.put, List.setIfInBounds_toArray, List.set_cons_zero, List.set_cons_succ])
          refine wpAnyH_take (i := 28) (oi := { dst := some 126, op := Go.Op.load 25 (Go.Operand.tmp 3), type := 25, pos := _, after := #[{ on := 24, ground := Go.Ground.guard }], guard := some (24, true) }) (v := ?_) rfl (by kernel_rfl) (by kernel_rfl) (by kernel_rfl) (fun _ _ _ h => h) (Or.inl ⟨by rfl, ?_⟩) hH4 ?_
          rotate_left
          · (intro w hSw; (try dsimp only at hSw); go_simp <;> with_reducible rfl)
          (try simp only [Act.put, List.setIfInBounds_toArray, List.set_cons_zero, List.set_cons_succ])
          refine wpAnyH_ready (rs := [27]) (by kernel_rfl) (by simp) ?_
          refine AllReadyH.cons (o := { dst := some 125, op := Go.Op.call { callee := Go.Callee.value (Go.Operand.func 16), args := #[Go.Operand.tmp 123, Go.Operand.tmp 124], argTypes := #[25, 25] }, type := 25, pos := _, after := #[{ on := 25, ground := Go.Ground.data }, { on := 26, ground := Go.Ground.data }, { on := 24, ground := Go.Ground.chain }, { on := 24, ground := Go.Ground.guard }], guard := some (24, true) }) rfl (fun K hK => ?_) AllReadyH.nil
          go_simp
          go_at_call 16
          refine (iov_any 0 0 0 0 p0 p1 p2 p3 p0 p1 p2 p3 _ (unhide f1)).mono ?_
          rintro e wc5 ⟨rfl, hb5⟩
          go_wp2_with fail
          refine hK.out _ _ ?_ (fun hH5 => ?_)
          · exact keepL hH4 hb5
          clear hK K
          (try simp only [Act.put, List.setIfInBounds_toArray, List.set_cons_zero, List.set_cons_succ])
          refine wpAnyH_take (i := 29) (oi := { dst := some 127, op := Go.Op.binOp Go.BinOp.eql 25 (Go.Operand.tmp 125) (Go.Operand.tmp 126) 25, type := 4, pos := _, after := #[{ on := 27, ground := Go.Ground.data }, { on := 28, ground := Go.Ground.data }, { on := 24, ground := Go.Ground.guard }], guard := some (24, true) }) (v := ?_) rfl (by kernel_rfl) (by kernel_rfl) (by kernel_rfl) (fun _ _ _ h => h) (Or.inl ⟨by rfl, ?_⟩) hH5 ?_
          rotate_left
          · (intro w hSw; (try dsimp only at hSw); go_simp <;> with_reducible rfl)
          (try simp only [Act.put, List.setIfInBounds_toArray, List.set_cons_zero, List.set_cons_succ])
          refine wpAnyH_take (i := 30) (oi := { dst := some 128, op := Go.Op.pick (Go.Operand.tmp 122) (Go.Operand.tmp 127) (Go.Operand.const (Go.Value.bool false)), type := 4, pos := _, after := #[{ on := 24, ground := Go.Ground.data }, { on := 29, ground := Go.Ground.data }], guard := none }) (v := ?_) rfl (by kernel_rfl) (by kernel_rfl) (by kernel_rfl) (fun _ _ _ h => h) (Or.inl ⟨by rfl, ?_⟩) hH5 ?_
          rotate_left
          · (intro w hSw; (try dsimp only at hSw); go_simp <;> with_reducible rfl)
          (try simp only [Act.put, List.setIfInBounds_toArray, List.set_cons_zero, List.set_cons_succ])
          refine wpAnyH_take (i := 31) (oi := { dst := some 129, op := Go.Op.move (Go.Operand.tmp 128), type := 4, pos := _, after := #[{ on := 30, ground := Go.Ground.data }, { on := 27, ground := Go.Ground.chain }], guard := none }) (v := ?_) rfl (by kernel_rfl) (by kernel_rfl) (by kernel_rfl) (fun _ _ _ h => h) (Or.inl ⟨by rfl, ?_⟩) hH5 ?_
          rotate_left
          · (intro w hSw; (try dsimp only at hSw); go_simp <;> with_reducible rfl)
          (try simp only [Act.put, List.setIfInBounds_toArray, List.set_cons_zero, List.set_cons_succ])
          refine wpAnyH_take (i := 32) (oi := { dst := some 130, op := Go.Op.load 25 (Go.Operand.tmp 3), type := 25, pos := _, after := #[{ on := 31, ground := Go.Ground.guard }], guard := some (31, true) }) (v := ?_) rfl (by kernel_rfl) (by kernel_rfl) (by kernel_rfl) (fun _ _ _ h => h) (Or.inl ⟨by rfl, ?_⟩) hH5 ?_
          rotate_left
          · (intro w hSw; (try dsimp only at hSw); go_simp <;> with_reducible rfl)
          (try simp only [Act.put, List.setIfInBounds_toArray, List.set_cons_zero, List.set_cons_succ])
          refine wpAnyH_take (i := 33) (oi := { dst := some 131, op := Go.Op.build 25 #[], type := 25, pos := _, after := #[{ on := 31, ground := Go.Ground.guard }], guard := some (31, true) }) (v := ?_) rfl (by kernel_rfl) (by kernel_rfl) (by kernel_rfl) (fun _ _ _ h => h) (Or.inl ⟨by rfl, ?_⟩) hH5 ?_
          rotate_left
          · (intro w hSw; (try dsimp only at hSw); go_simp <;> with_reducible rfl)
          (try simp only [Act.put, List.setIfInBounds_toArray, List.set_cons_zero, List.set_cons_succ])
          refine wpAnyH_take (i := 35) (oi := { dst := some 133, op := Go.Op.load 25 (Go.Operand.tmp 3), type := 25, pos := _, after := #[{ on := 31, ground := Go.Ground.guard }], guard := some (31, true) }) (v := ?_) rfl (by kernel_rfl) (by kernel_rfl) (by kernel_rfl) (fun _ _ _ h => h) (Or.inl ⟨by rfl, ?_⟩) hH5 ?_
          rotate_left
          · (intro w hSw; (try dsimp only at hSw); go_simp <;> with_reducible rfl)
          (try simp only [Act.put, List.setIfInBounds_toArray, List.set_cons_zero, List.set_cons_succ])
          refine wpAnyH_ready (rs := [34]) (by kernel_rfl) (by simp) ?_
          refine AllReadyH.cons (o := { dst := some 132, op := Go.Op.call { callee := Go.Callee.value (Go.Operand.func 16), args := #[Go.Operand.tmp 130, Go.Operand.tmp 131], argTypes := #[25, 25] }, type := 25, pos := _, after := #[{ on := 32, ground := Go.Ground.data }, { on := 33, ground := Go.Ground.data }, { on := 31, ground := Go.Ground.chain }, { on := 31, ground := Go.Ground.guard }], guard := some (31, true) }) rfl (fun K hK => ?_) AllReadyH.nil
          go_simp
          go_at_call 16
          refine (iov_any p0 p1 p2 p3 0 0 0 0 p0 p1 p2 p3 _ (unhide f2)).mono ?_
          rintro e wc6 ⟨rfl, hb6⟩
          go_wp2_with fail
          refine hK.out _ _ ?_ (fun hH6 => ?_)
          · exact keepL hH5 hb6
          clear hK K
          (try simp only [Act.put, List.setIfInBounds_toArray, List.set_cons_zero, List.set_cons_succ])
          refine wpAnyH_take (i := 36) (oi := { dst := some 134, op := Go.Op.binOp Go.BinOp.eql 25 (Go.Operand.tmp 132) (Go.Operand.tmp 133) 25, type := 4, pos := _, after := #[{ on := 34, ground := Go.Ground.data }, { on := 35, ground := Go.Ground.data }, { on := 31, ground := Go.Ground.guard }], guard := some (31, true) }) (v := ?_) rfl (by kernel_rfl) (by kernel_rfl) (by kernel_rfl) (fun _ _ _ h => h) (Or.inl ⟨by rfl, ?_⟩) hH6 ?_
          rotate_left
          · (intro w hSw; (try dsimp only at hSw); go_simp <;> with_reducible rfl)
          (try simp only [Act.put, List.setIfInBounds_toArray, List.set_cons_zero, List.set_cons_succ])
          refine wpAnyH_take (i := 37) (oi := { dst := some 135, op := Go.Op.pick (Go.Operand.tmp 129) (Go.Operand.tmp 134) (Go.Operand.const (Go.Value.bool false)), type := 4, pos := _, after := #[{ on := 31, ground := Go.Ground.data }, { on := 36, ground := Go.Ground.data }], guard := none }) (v := ?_) rfl (by kernel_rfl) (by kernel_rfl) (by kernel_rfl) (fun _ _ _ h => h) (Or.inl ⟨by rfl, ?_⟩) hH6 ?_
          rotate_left
          · (intro w hSw; (try dsimp only at hSw); go_simp <;> with_reducible rfl)
          (try simp only [Act.put, List.setIfInBounds_toArray, List.set_cons_zero, List.set_cons_succ])
          refine wpAnyH_take (i := 38) (oi := { dst := some 136, op := Go.Op.move (Go.Operand.tmp 135), type := 4, pos := _, after := #[{ on := 37, ground := Go.Ground.data }, { on := 34, ground := Go.Ground.chain }], guard := none }) (v := ?_) rfl (by kernel_rfl) (by kernel_rfl) (by kernel_rfl) (fun _ _ _ h => h) (Or.inl ⟨by rfl, ?_⟩) hH6 ?_
          rotate_left
          · (intro w hSw; (try dsimp only at hSw); go_simp <;> with_reducible rfl)
          (try simp only [Act.put, List.setIfInBounds_toArray, List.set_cons_zero, List.set_cons_succ])
          refine wpAnyH_take (i := 39) (oi := { dst := some 137, op := Go.Op.move (Go.Operand.tmp 9), type := 2, pos := _, after := #[{ on := 38, ground := Go.Ground.guard }], guard := some (38, true) }) (v := ?_) rfl (by kernel_rfl) (by kernel_rfl) (by kernel_rfl) (fun _ _ _ h => h) (Or.inl ⟨by rfl, ?_⟩) hH6 ?_
          rotate_left
          · (intro w hSw; (try dsimp only at hSw); go_simp <;> with_reducible rfl)
          (try simp only [Act.put, List.setIfInBounds_toArray, List.set_cons_zero, List.set_cons_succ])
          refine wpAnyH_take (i := 40) (oi := { dst := some 138, op := Go.Op.binOp Go.BinOp.geq 2 (Go.Operand.tmp 137) (Go.Operand.const (Go.Value.int Go.IntKind.i64 (-1))) 2, type := 4, pos := _, after := #[{ on := 39, ground := Go.Ground.data }, { on := 38, ground := Go.Ground.guard }], guard := some (38, true) }) (v := ?_) rfl (by kernel_rfl) (by kernel_rfl) (by kernel_rfl) (fun _ _ _ h => h) (Or.inl ⟨by rfl, ?_⟩) hH6 ?_
          rotate_left
          · (intro w hSw; (try dsimp only at hSw); go_simp <;> with_reducible rfl)
          (try simp only [Act.put, List.setIfInBounds_toArray, List.set_cons_zero, List.set_cons_succ])
          refine wpAnyH_take (i := 41) (oi := { dst := some 139, op := Go.Op.pick (Go.Operand.tmp 136) (Go.Operand.tmp 138) (Go.Operand.const (Go.Value.bool false)), type := 4, pos := _, after := #[{ on := 38, ground := Go.Ground.data }, { on := 40, ground := Go.Ground.data }], guard := none }) (v := ?_) rfl (by kernel_rfl) (by kernel_rfl) (by kernel_rfl) (fun _ _ _ h => h) (Or.inl ⟨by rfl, ?_⟩) hH6 ?_
          rotate_left
          · (intro w hSw; (try dsimp only at hSw); go_simp <;> with_reducible rfl)
          (try simp only [Act.put, List.setIfInBounds_toArray, List.set_cons_zero, List.set_cons_succ])
          refine wpAnyH_take (i := 42) (oi := { dst := some 140, op := Go.Op.move (Go.Operand.tmp 139), type := 4, pos := _, after := #[{ on := 41, ground := Go.Ground.data }, { on := 38, ground := Go.Ground.chain }], guard := none }) (v := ?_) rfl (by kernel_rfl) (by kernel_rfl) (by kernel_rfl) (fun _ _ _ h => h) (Or.inl ⟨by rfl, ?_⟩) hH6 ?_
          rotate_left
          · (intro w hSw; (try dsimp only at hSw); go_simp <;> with_reducible rfl)
          (try simp only [Act.put, List.setIfInBounds_toArray, List.set_cons_zero, List.set_cons_succ])
          refine wpAnyH_take (i := 43) (oi := { dst := some 141, op := Go.Op.move (Go.Operand.tmp 9), type := 2, pos := _, after := #[{ on := 42, ground := Go.Ground.guard }], guard := some (42, true) }) (v := ?_) rfl (by kernel_rfl) (by kernel_rfl) (by kernel_rfl) (fun _ _ _ h => h) (Or.inl ⟨by rfl, ?_⟩) hH6 ?_
          rotate_left
          · (intro w hSw; (try dsimp only at hSw); go_simp <;> with_reducible rfl)
          (try simp only [Act.put, List.setIfInBounds_toArray, List.set_cons_zero, List.set_cons_succ])
          refine wpAnyH_take (i := 44) (oi := { dst := some 142, op := Go.Op.binOp Go.BinOp.leq 2 (Go.Operand.tmp 141) (Go.Operand.const (Go.Value.int Go.IntKind.i64 1)) 2, type := 4, pos := _, after := #[{ on := 43, ground := Go.Ground.data }, { on := 42, ground := Go.Ground.guard }], guard := some (42, true) }) (v := ?_) rfl (by kernel_rfl) (by kernel_rfl) (by kernel_rfl) (fun _ _ _ h => h) (Or.inl ⟨by rfl, ?_⟩) hH6 ?_
          rotate_left
          · (intro w hSw; (try dsimp only at hSw); go_simp <;> with_reducible rfl)
          (try simp only [Act.put, List.setIfInBounds_toArray, List.set_cons_zero, List.set_cons_succ])
          refine wpAnyH_take (i := 45) (oi := { dst := some 143, op := Go.Op.pick (Go.Operand.tmp 140) (Go.Operand.tmp 142) (Go.Operand.const (Go.Value.bool false)), type := 4, pos := _, after := #[{ on := 42, ground := Go.Ground.data }, { on := 44, ground := Go.Ground.data }], guard := none }) (v := ?_) rfl (by kernel_rfl) (by kernel_rfl) (by kernel_rfl) (fun _ _ _ h => h) (Or.inl ⟨by rfl, ?_⟩) hH6 ?_
          rotate_left
          · (intro w hSw; (try dsimp only at hSw); go_simp <;> with_reducible rfl)
          (try simp only [Act.put, List.setIfInBounds_toArray, List.set_cons_zero, List.set_cons_succ])
          refine wpAnyH_take (i := 46) (oi := { dst := some 144, op := Go.Op.move (Go.Operand.tmp 143), type := 4, pos := _, after := #[{ on := 45, ground := Go.Ground.data }, { on := 42, ground := Go.Ground.chain }], guard := none }) (v := ?_) rfl (by kernel_rfl) (by kernel_rfl) (by kernel_rfl) (fun _ _ _ h => h) (Or.inl ⟨by rfl, ?_⟩) hH6 ?_
          rotate_left
          · (intro w hSw; (try dsimp only at hSw); go_simp <;> with_reducible rfl)
          (try simp only [Act.put, List.setIfInBounds_toArray, List.set_cons_zero, List.set_cons_succ])
          refine wpAnyH_take (i := 47) (oi := { dst := some 145, op := Go.Op.move (Go.Operand.tmp 10), type := 2, pos := _, after := #[{ on := 46, ground := Go.Ground.guard }], guard := some (46, true) }) (v := ?_) rfl (by kernel_rfl) (by kernel_rfl) (by kernel_rfl) (fun _ _ _ h => h) (Or.inl ⟨by rfl, ?_⟩) hH6 ?_
          rotate_left
          · (intro w hSw; (try dsimp only at hSw); go_simp <;> with_reducible rfl)
          (try simp only [Act.put, List.setIfInBounds_toArray, List.set_cons_zero, List.set_cons_succ])
          refine wpAnyH_take (i := 48) (oi := { dst := some 146, op := Go.Op.binOp Go.BinOp.geq 2 (Go.Operand.tmp 145) (Go.Operand.const (Go.Value.int Go.IntKind.i64 (-1))) 2, type := 4, pos := _, after := #[{ on := 47, ground := Go.Ground.data }, { on := 46, ground := Go.Ground.guard }], guard := some (46, true) }) (v := ?_) rfl (by kernel_rfl) (by kernel_rfl) (by kernel_rfl) (fun _ _ _ h => h) (Or.inl ⟨by rfl, ?_⟩) hH6 ?_
          rotate_left
          · (intro w hSw; (try dsimp only at hSw); go_simp <;> with_reducible rfl)
          (try simp only [Act.put, List.setIfInBounds_toArray, List.set_cons_zero, List.set_cons_succ])
          refine wpAnyH_take (i := 49) (oi := { dst := some 147, op := Go.Op.pick (Go.Operand.tmp 144) (Go.Operand.tmp 146) (Go.Operand.const (Go.Value.bool false)), type := 4, pos := _, after := #[{ on := 46, ground := Go.Ground.data }, { on := 48, ground := Go.Ground.data }], guard := none }) (v := ?_) rfl (by kernel_rfl) (by kernel_rfl) (by kernel_rfl) (fun _ _ _ h => h) (Or.inl ⟨by rfl, ?_⟩) hH6 ?_
          rotate_left
          · (intro w hSw; (try dsimp only at hSw); go_simp <;> with_reducible rfl)
          (try simp only [Act.put, List.setIfInBounds_toArray, List.set_cons_zero, List.set_cons_succ])
          refine wpAnyH_take (i := 50) (oi := { dst := some 148, op := Go.Op.move (Go.Operand.tmp 147), type := 4, pos := _, after := #[{ on := 49, ground := Go.Ground.data }, { on := 46, ground := Go.Ground.chain }], guard := none }) (v := ?_) rfl (by kernel_rfl) (by kernel_rfl) (by kernel_rfl) (fun _ _ _ h => h) (Or.inl ⟨by rfl, ?_⟩) hH6 ?_
          rotate_left
          · (intro w hSw; (try dsimp only at hSw); go_simp <;> with_reducible rfl)
          (try simp only [Act.put, List.setIfInBounds_toArray, List.set_cons_zero, List.set_cons_succ])
          refine wpAnyH_take (i := 51) (oi := { dst := some 149, op := Go.Op.move (Go.Operand.tmp 10), type := 2, pos := _, after := #[{ on := 50, ground := Go.Ground.guard }], guard := some (50, true) }) (v := ?_) rfl (by kernel_rfl) (by kernel_rfl) (by kernel_rfl) (fun _ _ _ h => h) (Or.inl ⟨by rfl, ?_⟩) hH6 ?_
          rotate_left
          · (intro w hSw; (try dsimp only at hSw); go_simp <;> with_reducible rfl)
          (try simp only [Act.put, List.setIfInBounds_toArray, List.set_cons_zero, List.set_cons_succ])
          refine wpAnyH_take (i := 52) (oi := { dst := some 150, op := Go.Op.binOp Go.BinOp.leq 2 (Go.Operand.tmp 149) (Go.Operand.const (Go.Value.int Go.IntKind.i64 1)) 2, type := 4, pos := _, after := #[{ on := 51, ground := Go.Ground.data }, { on := 50, ground := Go.Ground.guard }], guard := some (50, true) }) (v := ?_) rfl (by kernel_rfl) (by kernel_rfl) (by kernel_rfl) (fun _ _ _ h => h) (Or.inl ⟨by rfl, ?_⟩) hH6 ?_
          rotate_left
          · (intro w hSw; (try dsimp only at hSw); go_simp <;> with_reducible rfl)
          (try simp only [Act.put, List.setIfInBounds_toArray, List.set_cons_zero, List.set_cons_succ])
          refine wpAnyH_take (i := 53) (oi := { dst := some 151, op := Go.Op.pick (Go.Operand.tmp 148) (Go.Operand.tmp 150) (Go.Operand.const (Go.Value.bool false)), type := 4, pos := _, after := #[{ on := 50, ground := Go.Ground.data }, { on := 52, ground := Go.Ground.data }], guard := none }) (v := ?_) rfl (by kernel_rfl) (by kernel_rfl) (by kernel_rfl) (fun _ _ _ h => h) (Or.inl ⟨by rfl, ?_⟩) hH6 ?_
          rotate_left
          · (intro w hSw; (try dsimp only at hSw); go_simp <;> with_reducible rfl)
          (try simp only [Act.put, List.setIfInBounds_toArray, List.set_cons_zero, List.set_cons_succ])
          refine wpAnyH_take (i := 54) (oi := { dst := some 2, op := Go.Op.assign (Go.Operand.tmp 151), type := 4, pos := _, after := #[{ on := 53, ground := Go.Ground.data }, { on := 50, ground := Go.Ground.chain }, { on := 0, ground := Go.Ground.phase }, { on := 1, ground := Go.Ground.phase }, { on := 2, ground := Go.Ground.phase }, { on := 3, ground := Go.Ground.phase }, { on := 4, ground := Go.Ground.phase }, { on := 5, ground := Go.Ground.phase }, { on := 6, ground := Go.Ground.phase }, { on := 7, ground := Go.Ground.phase }, { on := 8, ground := Go.Ground.phase }, { on := 9, ground := Go.Ground.phase }, { on := 10, ground := Go.Ground.phase }, { on := 11, ground := Go.Ground.phase }, { on := 12, ground := Go.Ground.phase }, { on := 13, ground := Go.Ground.phase }, { on := 14, ground := Go.Ground.phase }, { on := 15, ground := Go.Ground.phase }, { on := 16, ground := Go.Ground.phase }, { on := 17, ground := Go.Ground.phase }, { on := 18, ground := Go.Ground.phase }, { on := 19, ground := Go.Ground.phase }, { on := 20, ground := Go.Ground.phase }, { on := 21, ground := Go.Ground.phase }, { on := 22, ground := Go.Ground.phase }, { on := 23, ground := Go.Ground.phase }, { on := 24, ground := Go.Ground.phase }, { on := 25, ground := Go.Ground.phase }, { on := 26, ground := Go.Ground.phase }, { on := 27, ground := Go.Ground.phase }, { on := 28, ground := Go.Ground.phase }, { on := 29, ground := Go.Ground.phase }, { on := 30, ground := Go.Ground.phase }, { on := 31, ground := Go.Ground.phase }, { on := 32, ground := Go.Ground.phase }, { on := 33, ground := Go.Ground.phase }, { on := 34, ground := Go.Ground.phase }, { on := 35, ground := Go.Ground.phase }, { on := 36, ground := Go.Ground.phase }, { on := 37, ground := Go.Ground.phase }, { on := 38, ground := Go.Ground.phase }, { on := 39, ground := Go.Ground.phase }, { on := 40, ground := Go.Ground.phase }, { on := 41, ground := Go.Ground.phase }, { on := 42, ground := Go.Ground.phase }, { on := 43, ground := Go.Ground.phase }, { on := 44, ground := Go.Ground.phase }, { on := 45, ground := Go.Ground.phase }, { on := 46, ground := Go.Ground.phase }, { on := 47, ground := Go.Ground.phase }, { on := 48, ground := Go.Ground.phase }, { on := 49, ground := Go.Ground.phase }, { on := 50, ground := Go.Ground.phase }, { on := 51, ground := Go.Ground.phase }, { on := 52, ground := Go.Ground.phase }, { on := 53, ground := Go.Ground.phase }], guard := none }) (v := ?_) rfl (by kernel_rfl) (by kernel_rfl) (by kernel_rfl) (fun _ _ _ h => h) (Or.inl ⟨by rfl, ?_⟩) hH6 ?_
          rotate_left
          · (intro w hSw; (try dsimp only at hSw); go_simp <;> with_reducible rfl)
          (try simp only [Act.put, List.setIfInBounds_toArray, List.set_cons_zero, List.set_cons_succ])
          refine wpAnyH_done (by kernel_rfl) ?_ _
          refine NoPanic.normal ?_
          have hF := hide (show Below W.heap.size W _ from (show SL W bp bq bo bi bu bd p0 p1 p2 p3 q0 q1 q2 q3 o0 o1 o2 o3 i0 i1 i2 i3 u0 u1 u2 u3 d0 d1 d2 d3 _ from hH6).2.2.2.2.2.2.2.2.2.2.2.2.2.2.2.2.2.2.2.2.2.2.2.2)
          clear hH0 hH1 hH2 hH3 hH4 hH5 hH6
          go_wp2
          go_ret
          exact ⟨rfl, unhide hF⟩
        · have h5' : decide (p3 < 255) = false := decide_eq_false h5
          have heq := unhide gF' (by omega)
          injection heq with e0 heq
          injection heq with e1 heq
          injection heq with e2 e3
          have e0' : (o0 == p0) = true := by rw [e0]; simp
          have e1' : (o1 == p1) = true := by rw [e1]; simp
          have e2' : (o2 == p2) = true := by rw [e2]; simp
          have e3' : (o3 == p3) = true := by rw [e3]; simp
          clear h5 e0 e1 e2 e3
          refine wp_region_noPanic ?_
          refine wp_region_held_drew (S := (fun w' => w'.cell? ⟨bp, 0, none⟩ = some (.int .i64 p0) ∧ w'.cell? ⟨bp, 1, none⟩ = some (.int .i64 p1) ∧ w'.cell? ⟨bp, 2, none⟩ = some (.int .i64 p2) ∧ w'.cell? ⟨bp, 3, none⟩ = some (.int .i64 p3) ∧ w'.cell? ⟨bq, 0, none⟩ = some (.int .i64 q0) ∧ w'.cell? ⟨bq, 1, none⟩ = some (.int .i64 q1) ∧ w'.cell? ⟨bq, 2, none⟩ = some (.int .i64 q2) ∧ w'.cell? ⟨bq, 3, none⟩ = some (.int .i64 q3) ∧ w'.cell? ⟨bo, 0, none⟩ = some (.int .i64 o0) ∧ w'.cell? ⟨bo, 1, none⟩ = some (.int .i64 o1) ∧ w'.cell? ⟨bo, 2, none⟩ = some (.int .i64 o2) ∧ w'.cell? ⟨bo, 3, none⟩ = some (.int .i64 o3) ∧ w'.cell? ⟨bi, 0, none⟩ = some (.int .i64 i0) ∧ w'.cell? ⟨bi, 1, none⟩ = some (.int .i64 i1) ∧ w'.cell? ⟨bi, 2, none⟩ = some (.int .i64 i2) ∧ w'.cell? ⟨bi, 3, none⟩ = some (.int .i64 i3) ∧ w'.cell? ⟨bu, 0, none⟩ = some (.int .i64 u0) ∧ w'.cell? ⟨bu, 1, none⟩ = some (.int .i64 u1) ∧ w'.cell? ⟨bu, 2, none⟩ = some (.int .i64 u2) ∧ w'.cell? ⟨bu, 3, none⟩ = some (.int .i64 u3) ∧ w'.cell? ⟨bd, 0, none⟩ = some (.int .i64 d0) ∧ w'.cell? ⟨bd, 1, none⟩ = some (.int .i64 d1) ∧ w'.cell? ⟨bd, 2, none⟩ = some (.int .i64 d2) ∧ w'.cell? ⟨bd, 3, none⟩ = some (.int .i64 d3) ∧ Below W.heap.size W w')) (by kernel_rfl) ?_ (fun hH0 => ?_)
          · exact keepLd (unhide A7)
          refine wpAnyH_take (i := 0) (oi := { dst := some 98, op := Go.Op.load 25 (Go.Operand.tmp 5), type := 25, pos := _, after := #[], guard := none }) (v := ?_) rfl (by kernel_rfl) (by kernel_rfl) (by kernel_rfl) (fun _ _ _ h => h) (Or.inl ⟨by rfl, ?_⟩) hH0 ?_
          rotate_left
          · (intro w hSw; (try dsimp only at hSw); go_simp <;> with_reducible rfl)
          (try simp only [Act.put, List.setIfInBounds_toArray, List.set_cons_zero, List.set_cons_succ])
          refine wpAnyH_ready (rs := [1]) (by kernel_rfl) (by simp) ?_
          refine AllReadyH.cons (o := { dst := some 99, op := Go.Op.call { callee := Go.Callee.value (Go.Operand.func 25), args := #[Go.Operand.tmp 98], argTypes := #[25] }, type := 4, pos := _, after := #[{ on := 0, ground := Go.Ground.data }], guard := none }) rfl (fun K hK => ?_) AllReadyH.nil
          go_simp
          go_at_call 25
          refine (ipx_any o0 o1 o2 o3 true _ (unhide fO)).mono ?_
          rintro e wc1 ⟨rfl, hb1⟩
          go_wp2_with fail
          refine hK.out _ _ ?_ (fun hH1 => ?_)
          · exact keepL hH0 hb1
          clear hK K
          (try simp only [Act.put, List.setIfInBounds_toArray, List.set_cons_zero, List.set_cons_succ])
          refine wpAnyH_take (i := 2) (oi := { dst := some 100, op := Go.Op.move (Go.Operand.tmp 99), type := 4, pos := _, after := #[{ on := 1, ground := Go.Ground.data }, { on := 1, ground := Go.Ground.chain }], guard := none }) (v := ?_) rfl (by kernel_rfl) (by kernel_rfl) (by kernel_rfl) (fun _ _ _ h => h) (Or.inl ⟨by rfl, ?_⟩) hH1 ?_
          rotate_left
          · (intro w hSw; (try dsimp only at hSw); go_simp <;> with_reducible rfl)
          (try simp only [Act.put, List.setIfInBounds_toArray, List.set_cons_zero, List.set_cons_succ])
          refine wpAnyH_take (i := 3) (oi := { dst := some 101, op := Go.Op.load 25 (Go.Operand.tmp 6), type := 25, pos := _, after := #[{ on := 2, ground := Go.Ground.guard }], guard := some (2, true) }) (v := ?_) rfl (by kernel_rfl) (by kernel_rfl) (by kernel_rfl) (fun _ _ _ h => h) (Or.inl ⟨by rfl, ?_⟩) hH1 ?_
          rotate_left
          · (intro w hSw; (try dsimp only at hSw); go_simp <;> with_reducible rfl)
          (try simp only [Act.put, List.setIfInBounds_toArray, List.set_cons_zero, List.set_cons_succ])
          refine wpAnyH_ready (rs := [4]) (by kernel_rfl) (by simp) ?_
          refine AllReadyH.cons (o := { dst := some 102, op := Go.Op.call { callee := Go.Callee.value (Go.Operand.func 25), args := #[Go.Operand.tmp 101], argTypes := #[25] }, type := 4, pos := _, after := #[{ on := 3, ground := Go.Ground.data }, { on := 2, ground := Go.Ground.chain }, { on := 2, ground := Go.Ground.guard }], guard := some (2, true) }) rfl (fun K hK => ?_) AllReadyH.nil
          go_simp
          go_at_call 25
          refine (ipx_any i0 i1 i2 i3 true _ (unhide fI)).mono ?_
          rintro e wc2 ⟨rfl, hb2⟩
          go_wp2_with fail
          refine hK.out _ _ ?_ (fun hH2 => ?_)
          · exact keepL hH1 hb2
          clear hK K
          (try simp only [Act.put, List.setIfInBounds_toArray, List.set_cons_zero, List.set_cons_succ])
          refine wpAnyH_take (i := 5) (oi := { dst := some 103, op := Go.Op.pick (Go.Operand.tmp 100) (Go.Operand.tmp 102) (Go.Operand.const (Go.Value.bool false)), type := 4, pos := _, after := #[{ on := 2, ground := Go.Ground.data }, { on := 4, ground := Go.Ground.data }], guard := none }) (v := ?_) rfl (by kernel_rfl) (by kernel_rfl) (by kernel_rfl) (fun _ _ _ h => h) (Or.inl ⟨by rfl, ?_⟩) hH2 ?_
          rotate_left
          · (intro w hSw; (try dsimp only at hSw); go_simp <;> with_reducible rfl)
          (try simp only [Act.put, List.setIfInBounds_toArray, List.set_cons_zero, List.set_cons_succ])
          refine wpAnyH_take (i := 6) (oi := { dst := some 104, op := Go.Op.move (Go.Operand.tmp 103), type := 4, pos := _, after := #[{ on := 5, ground := Go.Ground.data }, { on := 4, ground := Go.Ground.chain }], guard := none }) (v := ?_) rfl (by kernel_rfl) (by kernel_rfl) (by kernel_rfl) (fun _ _ _ h => h) (Or.inl ⟨by rfl, ?_⟩) hH2 ?_
          rotate_left
          · (intro w hSw; (try dsimp only at hSw); go_simp <;> with_reducible rfl)
          (try simp only [Act.put, List.setIfInBounds_toArray, List.set_cons_zero, List.set_cons_succ])
          refine wpAnyH_take (i := 7) (oi := { dst := some 105, op := Go.Op.load 25 (Go.Operand.tmp 7), type := 25, pos := _, after := #[{ on := 6, ground := Go.Ground.guard }], guard := some (6, true) }) (v := ?_) rfl (by kernel_rfl) (by kernel_rfl) (by kernel_rfl) (fun _ _ _ h => h) (Or.inl ⟨by rfl, ?_⟩) hH2 ?_
          rotate_left
          · (intro w hSw; (try dsimp only at hSw); go_simp <;> with_reducible rfl)
          (try simp only [Act.put, List.setIfInBounds_toArray, List.set_cons_zero, List.set_cons_succ])
          refine wpAnyH_ready (rs := [8]) (by kernel_rfl) (by simp) ?_
          refine AllReadyH.cons (o := { dst := some 106, op := Go.Op.call { callee := Go.Callee.value (Go.Operand.func 25), args := #[Go.Operand.tmp 105], argTypes := #[25] }, type := 4, pos := _, after := #[{ on := 7, ground := Go.Ground.data }, { on := 6, ground := Go.Ground.chain }, { on := 6, ground := Go.Ground.guard }], guard := some (6, true) }) rfl (fun K hK => ?_) AllReadyH.nil
          go_simp
          go_at_call 25
          refine (ipx_any u0 u1 u2 u3 true _ (unhide fU)).mono ?_
          rintro e wc3 ⟨rfl, hb3⟩
          go_wp2_with fail
          refine hK.out _ _ ?_ (fun hH3 => ?_)
          · exact keepL hH2 hb3
          clear hK K
          (try simp only [Act.put, List.setIfInBounds_toArray, List.set_cons_zero, List.set_cons_succ])
          refine wpAnyH_take (i := 9) (oi := { dst := some 107, op := Go.Op.pick (Go.Operand.tmp 104) (Go.Operand.tmp 106) (Go.Operand.const (Go.Value.bool false)), type := 4, pos := _, after := #[{ on := 6, ground := Go.Ground.data }, { on := 8, ground := Go.Ground.data }], guard := none }) (v := ?_) rfl (by kernel_rfl) (by kernel_rfl) (by kernel_rfl) (fun _ _ _ h => h) (Or.inl ⟨by rfl, ?_⟩) hH3 ?_
          rotate_left
          · (intro w hSw; (try dsimp only at hSw); go_simp <;> with_reducible rfl)
          (try simp only [Act.put, List.setIfInBounds_toArray, List.set_cons_zero, List.set_cons_succ])
          refine wpAnyH_take (i := 10) (oi := { dst := some 108, op := Go.Op.move (Go.Operand.tmp 107), type := 4, pos := _, after := #[{ on := 9, ground := Go.Ground.data }, { on := 8, ground := Go.Ground.chain }], guard := none }) (v := ?_) rfl (by kernel_rfl) (by kernel_rfl) (by kernel_rfl) (fun _ _ _ h => h) (Or.inl ⟨by rfl, ?_⟩) hH3 ?_
          rotate_left
          · (intro w hSw; (try dsimp only at hSw); go_simp <;> with_reducible rfl)
          (try simp only [Act.put, List.setIfInBounds_toArray, List.set_cons_zero, List.set_cons_succ])
          refine wpAnyH_take (i := 11) (oi := { dst := some 109, op := Go.Op.load 25 (Go.Operand.tmp 8), type := 25, pos := _, after := #[{ on := 10, ground := Go.Ground.guard }], guard := some (10, true) }) (v := ?_) rfl (by kernel_rfl) (by kernel_rfl) (by kernel_rfl) (fun _ _ _ h => h) (Or.inl ⟨by rfl, ?_⟩) hH3 ?_
          rotate_left
          · (intro w hSw; (try dsimp only at hSw); go_simp <;> with_reducible rfl)
          (try simp only [Act.put, List.setIfInBounds_toArray, List.set_cons_zero, List.set_cons_succ])
          refine wpAnyH_ready (rs := [12]) (by kernel_rfl) (by simp) ?_
          refine AllReadyH.cons (o := { dst := some 110, op := Go.Op.call { callee := Go.Callee.value (Go.Operand.func 25), args := #[Go.Operand.tmp 109], argTypes := #[25] }, type := 4, pos := _, after := #[{ on := 11, ground := Go.Ground.data }, { on := 10, ground := Go.Ground.chain }, { on := 10, ground := Go.Ground.guard }], guard := some (10, true) }) rfl (fun K hK => ?_) AllReadyH.nil
          go_simp
          go_at_call 25
          refine (ipx_any d0 d1 d2 d3 true _ (unhide fD)).mono ?_
          rintro e wc4 ⟨rfl, hb4⟩
          go_wp2_with fail
          refine hK.out _ _ ?_ (fun hH4 => ?_)
          · exact keepL hH3 hb4
          clear hK K
          (try simp only [Act.put, List.setIfInBounds_toArray, List.set_cons_zero, List.set_cons_succ])
          refine wpAnyH_take (i := 13) (oi := { dst := some 111, op := Go.Op.pick (Go.Operand.tmp 108) (Go.Operand.tmp 110) (Go.Operand.const (Go.Value.bool false)), type := 4, pos := _, after := #[{ on := 10, ground := Go.Ground.data }, { on := 12, ground := Go.Ground.data }], guard := none }) (v := ?_) rfl (by kernel_rfl) (by kernel_rfl) (by kernel_rfl) (fun _ _ _ h => h) (Or.inl ⟨by rfl, ?_⟩) hH4 ?_
          rotate_left
          · (intro w hSw; (try dsimp only at hSw); go_simp <;> with_reducible rfl)
          (try simp only [Act.put, List.setIfInBounds_toArray, List.set_cons_zero, List.set_cons_succ])
          refine wpAnyH_take (i := 14) (oi := { dst := some 112, op := Go.Op.move (Go.Operand.tmp 111), type := 4, pos := _, after := #[{ on := 13, ground := Go.Ground.data }, { on := 12, ground := Go.Ground.chain }], guard := none }) (v := ?_) rfl (by kernel_rfl) (by kernel_rfl) (by kernel_rfl) (fun _ _ _ h => h) (Or.inl ⟨by rfl, ?_⟩) hH4 ?_
          rotate_left
          · (intro w hSw; (try dsimp only at hSw); go_simp <;> with_reducible rfl)
          (try simp only [Act.put, List.setIfInBounds_toArray, List.set_cons_zero, List.set_cons_succ])
          refine wpAnyH_take (i := 15) (oi := { dst := some 113, op := Go.Op.fieldAddr 25 (Go.Operand.tmp 3) 3, type := 0, pos := _, after := #[{ on := 14, ground := Go.Ground.guard }], guard := some (14, true) }) (v := ?_) rfl (by kernel_rfl) (by kernel_rfl) (by kernel_rfl) (fun _ _ _ h => h) (Or.inl ⟨by rfl, ?_⟩) hH4 ?_
          rotate_left
          · (intro w hSw; (try dsimp only at hSw); go_simp <;> with_reducible rfl)
          (try simp only [Act.put, List.setIfInBounds_toArray, List.set_cons_zero, List.set_cons_succ])
          refine wpAnyH_take (i := 16) (oi := { dst := some 114, op := Go.Op.load 2 (Go.Operand.tmp 113), type := 2, pos := _, after := #[{ on := 15, ground := Go.Ground.data }, { on := 14, ground := Go.Ground.guard }], guard := some (14, true) }) (v := ?_) rfl (by kernel_rfl) (by kernel_rfl) (by kernel_rfl) (fun _ _ _ h => h) (Or.inl ⟨by rfl, ?_⟩) hH4 ?_
          rotate_left
          · (intro w hSw; (try dsimp only at hSw); go_simp <;> with_reducible rfl)
          (try simp only [Act.put, List.setIfInBounds_toArray, List.set_cons_zero, List.set_cons_succ])
          refine wpAnyH_take (i := 17) (oi := { dst := some 115, op := Go.Op.binOp Go.BinOp.lss 2 (Go.Operand.tmp 114) (Go.Operand.const (Go.Value.int Go.IntKind.i64 255)) 2, type := 4, pos := _, after := #[{ on := 16, ground := Go.Ground.data }, { on := 14, ground := Go.Ground.guard }], guard := some (14, true) }) (v := ?_) rfl (by kernel_rfl) (by kernel_rfl) (by kernel_rfl) (fun _ _ _ h => h) (Or.inl ⟨by rfl, ?_⟩) hH4 ?_
          rotate_left
          · (intro w hSw; (try dsimp only at hSw); go_simp <;> with_reducible rfl)
          (try simp only [Act.put, List.setIfInBounds_toArray, List.set_cons_zero, List.set_cons_succ])
          refine wpAnyH_take (i := 18) (oi := { dst := some 116, op := Go.Op.move (Go.Operand.tmp 115), type := 4, pos := _, after := #[{ on := 17, ground := Go.Ground.data }, { on := 14, ground := Go.Ground.chain }, { on := 14, ground := Go.Ground.guard }], guard := some (14, true) }) (v := ?_) rfl (by kernel_rfl) (by kernel_rfl) (by kernel_rfl) (fun _ _ _ h => h) (Or.inl ⟨by rfl, ?_⟩) hH4 ?_
          rotate_left
          · (intro w hSw; (try dsimp only at hSw); go_simp <;> with_reducible rfl)
          (try simp only [Act.put, List.setIfInBounds_toArray, List.set_cons_zero, List.set_cons_succ])
          refine wpAnyH_take (i := 19) (oi := { dst := some 117, op := Go.Op.load 25 (Go.Operand.tmp 5), type := 25, pos := _, after := #[{ on := 18, ground := Go.Ground.guard }], guard := some (18, false) }) (v := ?_) rfl (by kernel_rfl) (by kernel_rfl) (by kernel_rfl) (fun _ _ _ h => h) (Or.inl ⟨by rfl, ?_⟩) hH4 ?_
          rotate_left
          · (intro w hSw; (try dsimp only at hSw); go_simp <;> with_reducible rfl)
          (try simp only [Act.put, List.setIfInBounds_toArray, List.set_cons_zero, List.set_cons_succ])
          refine wpAnyH_take (i := 20) (oi := { dst := some 118, op := Go.Op.load 25 (Go.Operand.tmp 3), type := 25, pos := _, after := #[{ on := 18, ground := Go.Ground.guard }], guard := some (18, false) }) (v := ?_) rfl (by kernel_rfl) (by kernel_rfl) (by kernel_rfl) (fun _ _ _ h => h) (Or.inl ⟨by rfl, ?_⟩) hH4 ?_
          rotate_left
          · (intro w hSw; (try dsimp only at hSw); go_simp <;> with_reducible rfl)
          (try simp only [Act.put, List.setIfInBounds_toArray, List.set_cons_zero, List.set_cons_succ])
          refine wpAnyH_take (i := 21) (oi := { dst := some 119, op := Go.Op.binOp Go.BinOp.eql 25 (Go.Operand.tmp 117) (Go.Operand.tmp 118) 25, type := 4, pos := _, after := #[{ on := 19, ground := Go.Ground.data }, { on := 20, ground := Go.Ground.data }, { on := 18, ground := Go.Ground.guard }], guard := some (18, false) }) (v := ?_) rfl (by kernel_rfl) (by kernel_rfl) (by kernel_rfl) (fun _ _ _ h => h) (Or.inl ⟨by rfl, ?_⟩) hH4 ?_
          rotate_left
          · (intro w hSw; (try dsimp only at hSw); go_simp <;> with_reducible rfl)
          (try simp only [Act.put, List.setIfInBounds_toArray, List.set_cons_zero, List.set_cons_succ])
          refine wpAnyH_take (i := 22) (oi := { dst := some 120, op := Go.Op.pick (Go.Operand.tmp 116) (Go.Operand.const (Go.Value.bool true)) (Go.Operand.tmp 119), type := 4, pos := _, after := #[{ on := 18, ground := Go.Ground.data }, { on := 21, ground := Go.Ground.data }, { on := 14, ground := Go.Ground.guard }], guard := some (14, true) }) (v := ?_) rfl (by kernel_rfl) (by kernel_rfl) (by kernel_rfl) (fun _ _ _ h => h) (Or.inl ⟨by rfl, ?_⟩) hH4 ?_
          rotate_left
          · (intro w hSw; (try dsimp only at hSw); go_simp <;> with_reducible rfl)
          (try simp only [Act.put, List.setIfInBounds_toArray, List.set_cons_zero, List.set_cons_succ])
          refine wpAnyH_take (i := 23) (oi := { dst := some 121, op := Go.Op.pick (Go.Operand.tmp 112) (Go.Operand.tmp 120) (Go.Operand.const (Go.Value.bool false)), type := 4, pos := _, after := #[{ on := 14, ground := Go.Ground.data }, { on := 22, ground := Go.Ground.data }], guard := none }) (v := ?_) rfl (by kernel_rfl) (by kernel_rfl) (by kernel_rfl) (fun _ _ _ h => h) (Or.inl ⟨by rfl, ?_⟩) hH4 ?_
          rotate_left
          · (intro w hSw; (try dsimp only at hSw); go_simp <;> with_reducible rfl)
          (try simp only [Act.put, List.setIfInBounds_toArray, List.set_cons_zero, List.set_cons_succ])
          refine wpAnyH_take (i := 24) (oi := { dst := some 122, op := Go.Op.move (Go.Operand.tmp 121), type := 4, pos := _, after := #[{ on := 23, ground := Go.Ground.data }, { on := 18, ground := Go.Ground.chain }], guard := none }) (v := ?_) rfl (by kernel_rfl) (by kernel_rfl) (by kernel_rfl) (fun _ _ _ h => h) (Or.inl ⟨by rfl, ?_⟩) hH4 ?_
          rotate_left
          · (intro w hSw; (try dsimp only at hSw); go_simp <;> with_reducible rfl)
          (try simp only [Act.put, List.setIfInBounds_toArray, List.set_cons_zero, List.set_cons_succ])
          refine wpAnyH_take (i := 25) (oi := { dst := some 123, op := Go.Op.build 25 #[], type := 25, pos := _, after := #[{ on := 24, ground := Go.Ground.guard }], guard := some (24, true) }) (v := ?_) rfl (by kernel_rfl) (by kernel_rfl) (by kernel_rfl) (fun _ _ _ h => h) (Or.inl ⟨by rfl, ?_⟩) hH4 ?_
          rotate_left
          · (intro w hSw; (try dsimp only at hSw); go_simp <;> with_reducible rfl)
          (try simp only [Act.put, List.setIfInBounds_toArray, List.set_cons_zero, List.set_cons_succ])
          refine wpAnyH_take (i := 26) (oi := { dst := some 124, op := Go.Op.load 25 (Go.Operand.tmp 3), type := 25, pos := _, after := #[{ on := 24, ground := Go.Ground.guard }], guard := some (24, true) }) (v := ?_) rfl (by kernel_rfl) (by kernel_rfl) (by kernel_rfl) (fun _ _ _ h => h) (Or.inl ⟨by rfl, ?_⟩) hH4 ?_
          rotate_left
          · (intro w hSw; (try dsimp only at hSw); go_simp <;> with_reducible rfl)
          (try simp only [Act.put, List.setIfInBounds_toArray, List.set_cons_zero, List.set_cons_succ])
          refine wpAnyH_take (i := 28) (oi := { dst := some 126, op := Go.Op.load 25 (Go.Operand.tmp 3), type := 25, pos := _, after := #[{ on := 24, ground := Go.Ground.guard }], guard := some (24, true) }) (v := ?_) rfl (by kernel_rfl) (by kernel_rfl) (by kernel_rfl) (fun _ _ _ h => h) (Or.inl ⟨by rfl, ?_⟩) hH4 ?_
          rotate_left
          · (intro w hSw; (try dsimp only at hSw); go_simp <;> with_reducible rfl)
          (try simp only [Act.put, List.setIfInBounds_toArray, List.set_cons_zero, List.set_cons_succ])
          refine wpAnyH_ready (rs := [27]) (by kernel_rfl) (by simp) ?_
          refine AllReadyH.cons (o := { dst := some 125, op := Go.Op.call { callee := Go.Callee.value (Go.Operand.func 16), args := #[Go.Operand.tmp 123, Go.Operand.tmp 124], argTypes := #[25, 25] }, type := 25, pos := _, after := #[{ on := 25, ground := Go.Ground.data }, { on := 26, ground := Go.Ground.data }, { on := 24, ground := Go.Ground.chain }, { on := 24, ground := Go.Ground.guard }], guard := some (24, true) }) rfl (fun K hK => ?_) AllReadyH.nil
          go_simp
          go_at_call 16
          refine (iov_any 0 0 0 0 p0 p1 p2 p3 p0 p1 p2 p3 _ (unhide f1)).mono ?_
          rintro e wc5 ⟨rfl, hb5⟩
          go_wp2_with fail
          refine hK.out _ _ ?_ (fun hH5 => ?_)
          · exact keepL hH4 hb5
          clear hK K
          (try simp only [Act.put, List.setIfInBounds_toArray, List.set_cons_zero, List.set_cons_succ])
          refine wpAnyH_take (i := 29) (oi := { dst := some 127, op := Go.Op.binOp Go.BinOp.eql 25 (Go.Operand.tmp 125) (Go.Operand.tmp 126) 25, type := 4, pos := _, after := #[{ on := 27, ground := Go.Ground.data }, { on := 28, ground := Go.Ground.data }, { on := 24, ground := Go.Ground.guard }], guard := some (24, true) }) (v := ?_) rfl (by kernel_rfl) (by kernel_rfl) (by kernel_rfl) (fun _ _ _ h => h) (Or.inl ⟨by rfl, ?_⟩) hH5 ?_
          rotate_left
          · (intro w hSw; (try dsimp only at hSw); go_simp <;> with_reducible rfl)
          (try simp only [Act.put, List.setIfInBounds_toArray, List.set_cons_zero, List.set_cons_succ])
          refine wpAnyH_take (i := 30) (oi := { dst := some 128, op := Go.Op.pick (Go.Operand.tmp 122) (Go.Operand.tmp 127) (Go.Operand.const (Go.Value.bool false)), type := 4, pos := _, after := #[{ on := 24, ground := Go.Ground.data }, { on := 29, ground := Go.Ground.data }], guard := none }) (v := ?_) rfl (by kernel_rfl) (by kernel_rfl) (by kernel_rfl) (fun _ _ _ h => h) (Or.inl ⟨by rfl, ?_⟩) hH5 ?_
          rotate_left
          · (intro w hSw; (try dsimp only at hSw); go_simp <;> with_reducible rfl)
          (try simp only [Act.put, List.setIfInBounds_toArray, List.set_cons_zero, List.set_cons_succ])
          refine wpAnyH_take (i := 31) (oi := { dst := some 129, op := Go.Op.move (Go.Operand.tmp 128), type := 4, pos := _, after := #[{ on := 30, ground := Go.Ground.data }, { on := 27, ground := Go.Ground.chain }], guard := none }) (v := ?_) rfl (by kernel_rfl) (by kernel_rfl) (by kernel_rfl) (fun _ _ _ h => h) (Or.inl ⟨by rfl, ?_⟩) hH5 ?_
          rotate_left
          · (intro w hSw; (try dsimp only at hSw); go_simp <;> with_reducible rfl)
          (try simp only [Act.put, List.setIfInBounds_toArray, List.set_cons_zero, List.set_cons_succ])
          refine wpAnyH_take (i := 32) (oi := { dst := some 130, op := Go.Op.load 25 (Go.Operand.tmp 3), type := 25, pos := _, after := #[{ on := 31, ground := Go.Ground.guard }], guard := some (31, true) }) (v := ?_) rfl (by kernel_rfl) (by kernel_rfl) (by kernel_rfl) (fun _ _ _ h => h) (Or.inl ⟨by rfl, ?_⟩) hH5 ?_
          rotate_left
          · (intro w hSw; (try dsimp only at hSw); go_simp <;> with_reducible rfl)
          (try simp only [Act.put, List.setIfInBounds_toArray, List.set_cons_zero, List.set_cons_succ])
          refine wpAnyH_take (i := 33) (oi := { dst := some 131, op := Go.Op.build 25 #[], type := 25, pos := _, after := #[{ on := 31, ground := Go.Ground.guard }], guard := some (31, true) }) (v := ?_) rfl (by kernel_rfl) (by kernel_rfl) (by kernel_rfl) (fun _ _ _ h => h) (Or.inl ⟨by rfl, ?_⟩) hH5 ?_
          rotate_left
          · (intro w hSw; (try dsimp only at hSw); go_simp <;> with_reducible rfl)
          (try simp only [Act.put, List.setIfInBounds_toArray, List.set_cons_zero, List.set_cons_succ])
          refine wpAnyH_take (i := 35) (oi := { dst := some 133, op := Go.Op.load 25 (Go.Operand.tmp 3), type := 25, pos := _, after := #[{ on := 31, ground := Go.Ground.guard }], guard := some (31, true) }) (v := ?_) rfl (by kernel_rfl) (by kernel_rfl) (by kernel_rfl) (fun _ _ _ h => h) (Or.inl ⟨by rfl, ?_⟩) hH5 ?_
          rotate_left
          · (intro w hSw; (try dsimp only at hSw); go_simp <;> with_reducible rfl)
          (try simp only [Act.put, List.setIfInBounds_toArray, List.set_cons_zero, List.set_cons_succ])
          refine wpAnyH_ready (rs := [34]) (by kernel_rfl) (by simp) ?_
          refine AllReadyH.cons (o := { dst := some 132, op := Go.Op.call { callee := Go.Callee.value (Go.Operand.func 16), args := #[Go.Operand.tmp 130, Go.Operand.tmp 131], argTypes := #[25, 25] }, type := 25, pos := _, after := #[{ on := 32, ground := Go.Ground.data }, { on := 33, ground := Go.Ground.data }, { on := 31, ground := Go.Ground.chain }, { on := 31, ground := Go.Ground.guard }], guard := some (31, true) }) rfl (fun K hK => ?_) AllReadyH.nil
          go_simp
          go_at_call 16
          refine (iov_any p0 p1 p2 p3 0 0 0 0 p0 p1 p2 p3 _ (unhide f2)).mono ?_
          rintro e wc6 ⟨rfl, hb6⟩
          go_wp2_with fail
          refine hK.out _ _ ?_ (fun hH6 => ?_)
          · exact keepL hH5 hb6
          clear hK K
          (try simp only [Act.put, List.setIfInBounds_toArray, List.set_cons_zero, List.set_cons_succ])
          refine wpAnyH_take (i := 36) (oi := { dst := some 134, op := Go.Op.binOp Go.BinOp.eql 25 (Go.Operand.tmp 132) (Go.Operand.tmp 133) 25, type := 4, pos := _, after := #[{ on := 34, ground := Go.Ground.data }, { on := 35, ground := Go.Ground.data }, { on := 31, ground := Go.Ground.guard }], guard := some (31, true) }) (v := ?_) rfl (by kernel_rfl) (by kernel_rfl) (by kernel_rfl) (fun _ _ _ h => h) (Or.inl ⟨by rfl, ?_⟩) hH6 ?_
          rotate_left
          · (intro w hSw; (try dsimp only at hSw); go_simp <;> with_reducible rfl)
          (try simp only [Act.put, List.setIfInBounds_toArray, List.set_cons_zero, List.set_cons_succ])
          refine wpAnyH_take (i := 37) (oi := { dst := some 135, op := Go.Op.pick (Go.Operand.tmp 129) (Go.Operand.tmp 134) (Go.Operand.const (Go.Value.bool false)), type := 4, pos := _, after := #[{ on := 31, ground := Go.Ground.data }, { on := 36, ground := Go.Ground.data }], guard := none }) (v := ?_) rfl (by kernel_rfl) (by kernel_rfl) (by kernel_rfl) (fun _ _ _ h => h) (Or.inl ⟨by rfl, ?_⟩) hH6 ?_
          rotate_left
          · (intro w hSw; (try dsimp only at hSw); go_simp <;> with_reducible rfl)
          (try simp only [Act.put, List.setIfInBounds_toArray, List.set_cons_zero, List.set_cons_succ])
          refine wpAnyH_take (i := 38) (oi := { dst := some 136, op := Go.Op.move (Go.Operand.tmp 135), type := 4, pos := _, after := #[{ on := 37, ground := Go.Ground.data }, { on := 34, ground := Go.Ground.chain }], guard := none }) (v := ?_) rfl (by kernel_rfl) (by kernel_rfl) (by kernel_rfl) (fun _ _ _ h => h) (Or.inl ⟨by rfl, ?_⟩) hH6 ?_
          rotate_left
          · (intro w hSw; (try dsimp only at hSw); go_simp <;> with_reducible rfl)
          (try simp only [Act.put, List.setIfInBounds_toArray, List.set_cons_zero, List.set_cons_succ])
          refine wpAnyH_take (i := 39) (oi := { dst := some 137, op := Go.Op.move (Go.Operand.tmp 9), type := 2, pos := _, after := #[{ on := 38, ground := Go.Ground.guard }], guard := some (38, true) }) (v := ?_) rfl (by kernel_rfl) (by kernel_rfl) (by kernel_rfl) (fun _ _ _ h => h) (Or.inl ⟨by rfl, ?_⟩) hH6 ?_
          rotate_left
          · (intro w hSw; (try dsimp only at hSw); go_simp <;> with_reducible rfl)
          (try simp only [Act.put, List.setIfInBounds_toArray, List.set_cons_zero, List.set_cons_succ])
          refine wpAnyH_take (i := 40) (oi := { dst := some 138, op := Go.Op.binOp Go.BinOp.geq 2 (Go.Operand.tmp 137) (Go.Operand.const (Go.Value.int Go.IntKind.i64 (-1))) 2, type := 4, pos := _, after := #[{ on := 39, ground := Go.Ground.data }, { on := 38, ground := Go.Ground.guard }], guard := some (38, true) }) (v := ?_) rfl (by kernel_rfl) (by kernel_rfl) (by kernel_rfl) (fun _ _ _ h => h) (Or.inl ⟨by rfl, ?_⟩) hH6 ?_
          rotate_left
          · (intro w hSw; (try dsimp only at hSw); go_simp <;> with_reducible rfl)
          (try simp only [Act.put, List.setIfInBounds_toArray, List.set_cons_zero, List.set_cons_succ])
          refine wpAnyH_take (i := 41) (oi := { dst := some 139, op := Go.Op.pick (Go.Operand.tmp 136) (Go.Operand.tmp 138) (Go.Operand.const (Go.Value.bool false)), type := 4, pos := _, after := #[{ on := 38, ground := Go.Ground.data }, { on := 40, ground := Go.Ground.data }], guard := none }) (v := ?_) rfl (by kernel_rfl) (by kernel_rfl) (by kernel_rfl) (fun _ _ _ h => h) (Or.inl ⟨by rfl, ?_⟩) hH6 ?_
          rotate_left
          · (intro w hSw; (try dsimp only at hSw); go_simp <;> with_reducible rfl)
          (try simp only [Act.put, List.setIfInBounds_toArray, List.set_cons_zero, List.set_cons_succ])
          refine wpAnyH_take (i := 42) (oi := { dst := some 140, op := Go.Op.move (Go.Operand.tmp 139), type := 4, pos := _, after := #[{ on := 41, ground := Go.Ground.data }, { on := 38, ground := Go.Ground.chain }], guard := none }) (v := ?_) rfl (by kernel_rfl) (by kernel_rfl) (by kernel_rfl) (fun _ _ _ h => h) (Or.inl ⟨by rfl, ?_⟩) hH6 ?_
          rotate_left
          · (intro w hSw; (try dsimp only at hSw); go_simp <;> with_reducible rfl)
          (try simp only [Act.put, List.setIfInBounds_toArray, List.set_cons_zero, List.set_cons_succ])
          refine wpAnyH_take (i := 43) (oi := { dst := some 141, op := Go.Op.move (Go.Operand.tmp 9), type := 2, pos := _, after := #[{ on := 42, ground := Go.Ground.guard }], guard := some (42, true) }) (v := ?_) rfl (by kernel_rfl) (by kernel_rfl) (by kernel_rfl) (fun _ _ _ h => h) (Or.inl ⟨by rfl, ?_⟩) hH6 ?_
          rotate_left
          · (intro w hSw; (try dsimp only at hSw); go_simp <;> with_reducible rfl)
          (try simp only [Act.put, List.setIfInBounds_toArray, List.set_cons_zero, List.set_cons_succ])
          refine wpAnyH_take (i := 44) (oi := { dst := some 142, op := Go.Op.binOp Go.BinOp.leq 2 (Go.Operand.tmp 141) (Go.Operand.const (Go.Value.int Go.IntKind.i64 1)) 2, type := 4, pos := _, after := #[{ on := 43, ground := Go.Ground.data }, { on := 42, ground := Go.Ground.guard }], guard := some (42, true) }) (v := ?_) rfl (by kernel_rfl) (by kernel_rfl) (by kernel_rfl) (fun _ _ _ h => h) (Or.inl ⟨by rfl, ?_⟩) hH6 ?_
          rotate_left
          · (intro w hSw; (try dsimp only at hSw); go_simp <;> with_reducible rfl)
          (try simp only [Act.put, List.setIfInBounds_toArray, List.set_cons_zero, List.set_cons_succ])
          refine wpAnyH_take (i := 45) (oi := { dst := some 143, op := Go.Op.pick (Go.Operand.tmp 140) (Go.Operand.tmp 142) (Go.Operand.const (Go.Value.bool false)), type := 4, pos := _, after := #[{ on := 42, ground := Go.Ground.data }, { on := 44, ground := Go.Ground.data }], guard := none }) (v := ?_) rfl (by kernel_rfl) (by kernel_rfl) (by kernel_rfl) (fun _ _ _ h => h) (Or.inl ⟨by rfl, ?_⟩) hH6 ?_
          rotate_left
          · (intro w hSw; (try dsimp only at hSw); go_simp <;> with_reducible rfl)
          (try simp only [Act.put, List.setIfInBounds_toArray, List.set_cons_zero, List.set_cons_succ])
          refine wpAnyH_take (i := 46) (oi := { dst := some 144, op := Go.Op.move (Go.Operand.tmp 143), type := 4, pos := _, after := #[{ on := 45, ground := Go.Ground.data }, { on := 42, ground := Go.Ground.chain }], guard := none }) (v := ?_) rfl (by kernel_rfl) (by kernel_rfl) (by kernel_rfl) (fun _ _ _ h => h) (Or.inl ⟨by rfl, ?_⟩) hH6 ?_
          rotate_left
          · (intro w hSw; (try dsimp only at hSw); go_simp <;> with_reducible rfl)
          (try simp only [Act.put, List.setIfInBounds_toArray, List.set_cons_zero, List.set_cons_succ])
          refine wpAnyH_take (i := 47) (oi := { dst := some 145, op := Go.Op.move (Go.Operand.tmp 10), type := 2, pos := _, after := #[{ on := 46, ground := Go.Ground.guard }], guard := some (46, true) }) (v := ?_) rfl (by kernel_rfl) (by kernel_rfl) (by kernel_rfl) (fun _ _ _ h => h) (Or.inl ⟨by rfl, ?_⟩) hH6 ?_
          rotate_left
          · (intro w hSw; (try dsimp only at hSw); go_simp <;> with_reducible rfl)
          (try simp only [Act.put, List.setIfInBounds_toArray, List.set_cons_zero, List.set_cons_succ])
          refine wpAnyH_take (i := 48) (oi := { dst := some 146, op := Go.Op.binOp Go.BinOp.geq 2 (Go.Operand.tmp 145) (Go.Operand.const (Go.Value.int Go.IntKind.i64 (-1))) 2, type := 4, pos := _, after := #[{ on := 47, ground := Go.Ground.data }, { on := 46, ground := Go.Ground.guard }], guard := some (46, true) }) (v := ?_) rfl (by kernel_rfl) (by kernel_rfl) (by kernel_rfl) (fun _ _ _ h => h) (Or.inl ⟨by rfl, ?_⟩) hH6 ?_
          rotate_left
          · (intro w hSw; (try dsimp only at hSw); go_simp <;> with_reducible rfl)
          (try simp only [Act.put, List.setIfInBounds_toArray, List.set_cons_zero, List.set_cons_succ])
          refine wpAnyH_take (i := 49) (oi := { dst := some 147, op := Go.Op.pick (Go.Operand.tmp 144) (Go.Operand.tmp 146) (Go.Operand.const (Go.Value.bool false)), type := 4, pos := _, after := #[{ on := 46, ground := Go.Ground.data }, { on := 48, ground := Go.Ground.data }], guard := none }) (v := ?_) rfl (by kernel_rfl) (by kernel_rfl) (by kernel_rfl) (fun _ _ _ h => h) (Or.inl ⟨by rfl, ?_⟩) hH6 ?_
          rotate_left
          · (intro w hSw; (try dsimp only at hSw); go_simp <;> with_reducible rfl)
          (try simp only [Act.put, List.setIfInBounds_toArray, List.set_cons_zero, List.set_cons_succ])
          refine wpAnyH_take (i := 50) (oi := { dst := some 148, op := Go.Op.move (Go.Operand.tmp 147), type := 4, pos := _, after := #[{ on := 49, ground := Go.Ground.data }, { on := 46, ground := Go.Ground.chain }], guard := none }) (v := ?_) rfl (by kernel_rfl) (by kernel_rfl) (by kernel_rfl) (fun _ _ _ h => h) (Or.inl ⟨by rfl, ?_⟩) hH6 ?_
          rotate_left
          · (intro w hSw; (try dsimp only at hSw); go_simp <;> with_reducible rfl)
          (try simp only [Act.put, List.setIfInBounds_toArray, List.set_cons_zero, List.set_cons_succ])
          refine wpAnyH_take (i := 51) (oi := { dst := some 149, op := Go.Op.move (Go.Operand.tmp 10), type := 2, pos := _, after := #[{ on := 50, ground := Go.Ground.guard }], guard := some (50, true) }) (v := ?_) rfl (by kernel_rfl) (by kernel_rfl) (by kernel_rfl) (fun _ _ _ h => h) (Or.inl ⟨by rfl, ?_⟩) hH6 ?_
          rotate_left
          · (intro w hSw; (try dsimp only at hSw); go_simp <;> with_reducible rfl)
          (try simp only [Act.put, List.setIfInBounds_toArray, List.set_cons_zero, List.set_cons_succ])
          refine wpAnyH_take (i := 52) (oi := { dst := some 150, op := Go.Op.binOp Go.BinOp.leq 2 (Go.Operand.tmp 149) (Go.Operand.const (Go.Value.int Go.IntKind.i64 1)) 2, type := 4, pos := _, after := #[{ on := 51, ground := Go.Ground.data }, { on := 50, ground := Go.Ground.guard }], guard := some (50, true) }) (v := ?_) rfl (by kernel_rfl) (by kernel_rfl) (by kernel_rfl) (fun _ _ _ h => h) (Or.inl ⟨by rfl, ?_⟩) hH6 ?_
          rotate_left
          · (intro w hSw; (try dsimp only at hSw); go_simp <;> with_reducible rfl)
          (try simp only [Act.put, List.setIfInBounds_toArray, List.set_cons_zero, List.set_cons_succ])
          refine wpAnyH_take (i := 53) (oi := { dst := some 151, op := Go.Op.pick (Go.Operand.tmp 148) (Go.Operand.tmp 150) (Go.Operand.const (Go.Value.bool false)), type := 4, pos := _, after := #[{ on := 50, ground := Go.Ground.data }, { on := 52, ground := Go.Ground.data }], guard := none }) (v := ?_) rfl (by kernel_rfl) (by kernel_rfl) (by kernel_rfl) (fun _ _ _ h => h) (Or.inl ⟨by rfl, ?_⟩) hH6 ?_
          rotate_left
          · (intro w hSw; (try dsimp only at hSw); go_simp <;> with_reducible rfl)
          (try simp only [Act.put, List.setIfInBounds_toArray, List.set_cons_zero, List.set_cons_succ])
          refine wpAnyH_take (i := 54) (oi := { dst := some 2, op := Go.Op.assign (Go.Operand.tmp 151), type := 4, pos := _, after := #[{ on := 53, ground := Go.Ground.data }, { on := 50, ground := Go.Ground.chain }, { on := 0, ground := Go.Ground.phase }, { on := 1, ground := Go.Ground.phase }, { on := 2, ground := Go.Ground.phase }, { on := 3, ground := Go.Ground.phase }, { on := 4, ground := Go.Ground.phase }, { on := 5, ground := Go.Ground.phase }, { on := 6, ground := Go.Ground.phase }, { on := 7, ground := Go.Ground.phase }, { on := 8, ground := Go.Ground.phase }, { on := 9, ground := Go.Ground.phase }, { on := 10, ground := Go.Ground.phase }, { on := 11, ground := Go.Ground.phase }, { on := 12, ground := Go.Ground.phase }, { on := 13, ground := Go.Ground.phase }, { on := 14, ground := Go.Ground.phase }, { on := 15, ground := Go.Ground.phase }, { on := 16, ground := Go.Ground.phase }, { on := 17, ground := Go.Ground.phase }, { on := 18, ground := Go.Ground.phase }, { on := 19, ground := Go.Ground.phase }, { on := 20, ground := Go.Ground.phase }, { on := 21, ground := Go.Ground.phase }, { on := 22, ground := Go.Ground.phase }, { on := 23, ground := Go.Ground.phase }, { on := 24, ground := Go.Ground.phase }, { on := 25, ground := Go.Ground.phase }, { on := 26, ground := Go.Ground.phase }, { on := 27, ground := Go.Ground.phase }, { on := 28, ground := Go.Ground.phase }, { on := 29, ground := Go.Ground.phase }, { on := 30, ground := Go.Ground.phase }, { on := 31, ground := Go.Ground.phase }, { on := 32, ground := Go.Ground.phase }, { on := 33, ground := Go.Ground.phase }, { on := 34, ground := Go.Ground.phase }, { on := 35, ground := Go.Ground.phase }, { on := 36, ground := Go.Ground.phase }, { on := 37, ground := Go.Ground.phase }, { on := 38, ground := Go.Ground.phase }, { on := 39, ground := Go.Ground.phase }, { on := 40, ground := Go.Ground.phase }, { on := 41, ground := Go.Ground.phase }, { on := 42, ground := Go.Ground.phase }, { on := 43, ground := Go.Ground.phase }, { on := 44, ground := Go.Ground.phase }, { on := 45, ground := Go.Ground.phase }, { on := 46, ground := Go.Ground.phase }, { on := 47, ground := Go.Ground.phase }, { on := 48, ground := Go.Ground.phase }, { on := 49, ground := Go.Ground.phase }, { on := 50, ground := Go.Ground.phase }, { on := 51, ground := Go.Ground.phase }, { on := 52, ground := Go.Ground.phase }, { on := 53, ground := Go.Ground.phase }], guard := none }) (v := ?_) rfl (by kernel_rfl) (by kernel_rfl) (by kernel_rfl) (fun _ _ _ h => h) (Or.inl ⟨by rfl, ?_⟩) hH6 ?_
          rotate_left
          · (intro w hSw; (try dsimp only at hSw); go_simp <;> with_reducible rfl)
          (try simp only [Act.put, List.setIfInBounds_toArray, List.set_cons_zero, List.set_cons_succ])
          refine wpAnyH_done (by kernel_rfl) ?_ _
          refine NoPanic.normal ?_
          have hF := hide (show Below W.heap.size W _ from (show SL W bp bq bo bi bu bd p0 p1 p2 p3 q0 q1 q2 q3 o0 o1 o2 o3 i0 i1 i2 i3 u0 u1 u2 u3 d0 d1 d2 d3 _ from hH6).2.2.2.2.2.2.2.2.2.2.2.2.2.2.2.2.2.2.2.2.2.2.2.2)
          clear hH0 hH1 hH2 hH3 hH4 hH5 hH6
          go_wp2
          go_ret
          exact ⟨rfl, unhide hF⟩
      · have hQ : Hid (decide (Pix (q0, q1, q2, q3)) = false) := hide (by simpa using hq)
        obtain ⟨⟨z00, z01, z02, z03⟩, ⟨z10, z11, z12, z13⟩, ⟨z20, z21, z22, z23⟩, ⟨z30, z31, z32, z33⟩⟩ := lay_none (fun h => hq h.2) (unhide hO') (unhide hI') (unhide hU') (unhide hD')
        clear hp hq hdim
        obtain ⟨pc0, pc1, pc2, pc3, qc0, qc1, qc2, qc3, oc0, oc1, oc2, oc3, ic0, ic1, ic2, ic3, uc0, uc1, uc2, uc3, dc0, dc1, dc2, dc3, hbel⟩ := unhide A5
        clear hbel
        go_wp2_with fail
        refine (spx_any p0 p1 p2 p3 true _ (unhide hP)).mono ?_
        rintro e z1 ⟨rfl, hb⟩
        have A6 : Hid (SL W bp bq bo bi bu bd p0 p1 p2 p3 q0 q1 q2 q3 o0 o1 o2 o3 i0 i1 i2 i3 u0 u1 u2 u3 d0 d1 d2 d3 z1) := hide (keepL (unhide A5) hb)
        clear hb A5
        clear pc0 pc1 pc2 pc3 qc0 qc1 qc2 qc3 oc0 oc1 oc2 oc3 ic0 ic1 ic2 ic3 uc0 uc1 uc2 uc3 dc0 dc1 dc2 dc3
        obtain ⟨pc0, pc1, pc2, pc3, qc0, qc1, qc2, qc3, oc0, oc1, oc2, oc3, ic0, ic1, ic2, ic3, uc0, uc1, uc2, uc3, dc0, dc1, dc2, dc3, hbel⟩ := unhide A6
        clear hbel
        go_wp2_with fail
        refine (spx_any q0 q1 q2 q3 false _ (unhide hQ)).mono ?_
        rintro e z2 ⟨rfl, hb⟩
        have A7 : Hid (SL W bp bq bo bi bu bd p0 p1 p2 p3 q0 q1 q2 q3 o0 o1 o2 o3 i0 i1 i2 i3 u0 u1 u2 u3 d0 d1 d2 d3 z2) := hide (keepL (unhide A6) hb)
        clear hb A6
        clear pc0 pc1 pc2 pc3 qc0 qc1 qc2 qc3 oc0 oc1 oc2 oc3 ic0 ic1 ic2 ic3 uc0 uc1 uc2 uc3 dc0 dc1 dc2 dc3
        obtain ⟨pc0, pc1, pc2, pc3, qc0, qc1, qc2, qc3, oc0, oc1, oc2, oc3, ic0, ic1, ic2, ic3, uc0, uc1, uc2, uc3, dc0, dc1, dc2, dc3, hbel⟩ := unhide A7
        clear hbel
        have hF := hide (show Below W.heap.size W z2 from (unhide A7).2.2.2.2.2.2.2.2.2.2.2.2.2.2.2.2.2.2.2.2.2.2.2.2)
        clear A7
        go_wp2
        go_ret
        exact ⟨rfl, unhide hF⟩
    · have hP : Hid (decide (Pix (p0, p1, p2, p3)) = false) := hide (by simpa using hp)
      obtain ⟨⟨z00, z01, z02, z03⟩, ⟨z10, z11, z12, z13⟩, ⟨z20, z21, z22, z23⟩, ⟨z30, z31, z32, z33⟩⟩ := lay_none (fun h => hp h.1) (unhide hO') (unhide hI') (unhide hU') (unhide hD')
      clear hp hdim
      obtain ⟨pc0, pc1, pc2, pc3, qc0, qc1, qc2, qc3, oc0, oc1, oc2, oc3, ic0, ic1, ic2, ic3, uc0, uc1, uc2, uc3, dc0, dc1, dc2, dc3, hbel⟩ := unhide A5
      clear hbel
      go_wp2_with fail
      refine (spx_any p0 p1 p2 p3 false _ (unhide hP)).mono ?_
      rintro e z2 ⟨rfl, hb⟩
      have A7 : Hid (SL W bp bq bo bi bu bd p0 p1 p2 p3 q0 q1 q2 q3 o0 o1 o2 o3 i0 i1 i2 i3 u0 u1 u2 u3 d0 d1 d2 d3 z2) := hide (keepL (unhide A5) hb)
      clear hb A5
      clear pc0 pc1 pc2 pc3 qc0 qc1 qc2 qc3 oc0 oc1 oc2 oc3 ic0 ic1 ic2 ic3 uc0 uc1 uc2 uc3 dc0 dc1 dc2 dc3
      obtain ⟨pc0, pc1, pc2, pc3, qc0, qc1, qc2, qc3, oc0, oc1, oc2, oc3, ic0, ic1, ic2, ic3, uc0, uc1, uc2, uc3, dc0, dc1, dc2, dc3, hbel⟩ := unhide A7
      clear hbel
      have hF := hide (show Below W.heap.size W z2 from (unhide A7).2.2.2.2.2.2.2.2.2.2.2.2.2.2.2.2.2.2.2.2.2.2.2.2)
      clear A7
      go_wp2
      go_ret
      exact ⟨rfl, unhide hF⟩
end Go.Proofs.Yteabmbggljpmoaa
