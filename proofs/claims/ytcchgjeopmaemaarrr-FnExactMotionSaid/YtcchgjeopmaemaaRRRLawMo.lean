/-
  For every two pictures and every number of a block Motion of the program answers as its model does, and the pictures read behind the call as they read before; no conditions.
-/
import Derived.Test.YtcchgjeopmaemaaRRRMo5
import Derived.Test.YtcchgjeopmaemaaRRRLawPc
namespace Go.Proofs.YtcchgjeopmaemaaRRR
open Go.RowKit
set_option linter.unusedVariables false
set_option linter.unusedSimpArgs false

set_option maxHeartbeats 3200000 in
theorem lawMo {W0 : World} (W H : Int) (a : Option Addr) (ca : Nat) (l : List Int) (hl0 : l.length ≤ maxLen) (ha : Ins W0 a l) (U V : Int) (b : Option Addr) (cb : Nat) (m : List Int) (hm0 : m.length ≤ maxLen) (hb : Ins W0 b m) (n : Int) :
    Calls Try.prog 7 #[pcv W H a l.length ca, pcv U V b m.length cb, .int .i64 n] W0 fun e w' => e = .returned (.bool true) ∧ Below W0.heap.size W0 w' := by
  have ha' := hide ha
  have hb' := hide hb
  have hl1 := hide hl0
  have hm1 := hide hm0
  have b1 : Below W0.heap.size W0 (W0.alloc (.cells #[.int .i64 W, .int .i64 H, .slice a l.length ca] 32)) := (Below.refl _ _).alloc (Nat.le_refl _) _
  have p1 := P3.new W0 32 W H (.slice a l.length ca)
  have z1 := Deep.nblk_alloc W0 (.cells #[.int .i64 W, .int .i64 H, .slice a l.length ca] 32)
  clear ha hb hl0 hm0
  go_enter Try.func7, Try.ntmps7
  go_wp2_with fail
  generalize W0.alloc (.cells #[.int .i64 W, .int .i64 H, .slice a l.length ca] 32) = w1 at *
  have b2 := laterB b1 ((Below.refl w1.heap.size w1).alloc (Nat.le_refl _) (.cells #[.int .i64 U, .int .i64 V, .slice b m.length cb] 32))
  have p2 := p1.later ((Below.refl w1.heap.size w1).alloc (Nat.le_refl _) (.cells #[.int .i64 U, .int .i64 V, .slice b m.length cb] 32))
  have q2 := P3.new w1 32 U V (.slice b m.length cb)
  rw [z1] at q2
  generalize w1.alloc (.cells #[.int .i64 U, .int .i64 V, .slice b m.length cb] 32) = w2 at *
  have P := hide p2
  have Q := hide q2
  have Hb := hide b2
  clear b1 p1 z1 b2 p2 q2 w1
  refine (szp_any W H a l.length ca 1048576 _ (unhide hl1) (by omega) (by omega)).mono ?_
  rintro e w3 ⟨r, rfl, hr, k3⟩
  have P := hide ((unhide P).later k3)
  have Q := hide ((unhide Q).later k3)
  have Hb := hide (laterB (unhide Hb) k3)
  clear k3
  rcases hr with rfl | ⟨hr0, hr1, hr2⟩
  · go_wp2
    go_ret
    exact ⟨rfl, unhide Hb⟩
  have hr3 : decide (r < 0) = false := decide_eq_false (by omega)
  have hl : l.length ≤ 1048576 := by omega
  clear hr2
  obtain ⟨c0, c1, c2⟩ := (unhide P).cells
  obtain ⟨d0, d1, d2⟩ := (unhide Q).cells
  go_wp2_with fail
  refine (szp_any U V b m.length cb r _ (unhide hm1) hr0 hr1).mono ?_
  rintro e w4 ⟨s, rfl, hs, k4⟩
  have P := hide ((unhide P).later k4)
  have Q := hide ((unhide Q).later k4)
  have Hb := hide (laterB (unhide Hb) k4)
  clear k4 c0 c1 c2 d0 d1 d2
  rcases hs with rfl | ⟨hs0, hs1, hs2⟩
  · go_wp2
    go_ret
    exact ⟨rfl, unhide Hb⟩
  have hs3 : decide (s < 0) = false := decide_eq_false (by omega)
  have hm : m.length ≤ 1048576 := by omega
  clear hs2 hs1 hr1
  obtain ⟨B0, hB0⟩ : ∃ B0, W0.heap.size = B0 := ⟨_, rfl⟩
  obtain ⟨B1, hB1⟩ : ∃ B1, B0 + 1 = B1 := ⟨_, rfl⟩
  rw [hB0, hB1] at Q
  rw [hB0] at P
  go_wp2_with fail
  clear hB0 hB1
  have hall : Hid (w4.cell? ⟨B0, 0, none⟩ = some (.int .i64 W) ∧ w4.cell? ⟨B0, 1, none⟩ = some (.int .i64 H) ∧ w4.cell? ⟨B0, 2, none⟩ = some (.slice a l.length ca) ∧ w4.cell? ⟨B1, 0, none⟩ = some (.int .i64 U) ∧ w4.cell? ⟨B1, 1, none⟩ = some (.int .i64 V) ∧ w4.cell? ⟨B1, 2, none⟩ = some (.slice b m.length cb) ∧ Below w4.heap.size w4 w4) := hide ⟨(unhide P).cells.1, (unhide P).cells.2.1, (unhide P).cells.2.2, (unhide Q).cells.1, (unhide Q).cells.2.1, (unhide Q).cells.2.2, Below.refl _ _⟩
  have c19a := hide (show ∀ w', Below w4.heap.size w4 w' → Calls Try.prog 19 #[pcv W H a l.length ca] w' _ from fun w' h => top_any W H a ca l w' hl ((unhide ha').below (laterB (unhide Hb) h)))
  have c19b := hide (show ∀ w', Below w4.heap.size w4 w' → Calls Try.prog 19 #[pcv U V b m.length cb] w' _ from fun w' h => top_any U V b cb m w' hm ((unhide hb').below (laterB (unhide Hb) h)))
  have c26 := hide (show ∀ w' BA BB, Below w4.heap.size w4 w' → OwnI w' 0 BA l.length l.length l → OwnI w' 0 BB m.length m.length m → Calls Try.prog 26 #[pcv W H (some ⟨BA, 0, none⟩) l.length l.length, pcv U V (some ⟨BB, 0, none⟩) m.length m.length, .int .i64 n] w' _ from fun w' BA BB h h1 h2 => smotion_any W H U V _ _ _ _ l m n w' (unhide hl1) (unhide hm1) (ins_own h1) (ins_own h2))
  go_region_held3 (fun w' => w'.cell? ⟨B0, 0, none⟩ = some (.int .i64 W) ∧ w'.cell? ⟨B0, 1, none⟩ = some (.int .i64 H) ∧ w'.cell? ⟨B0, 2, none⟩ = some (.slice a l.length ca) ∧ w'.cell? ⟨B1, 0, none⟩ = some (.int .i64 U) ∧ w'.cell? ⟨B1, 1, none⟩ = some (.int .i64 V) ∧ w'.cell? ⟨B1, 2, none⟩ = some (.slice b m.length cb) ∧ Below w4.heap.size w4 w')
    (first | with_reducible exact hS7 | with_reducible exact hS6 | with_reducible exact hS5 | exact keep6d (unhide hall))
    ((first
      | (go_at_call 19
         with_reducible refine (unhide c19a _ (Below.refl _ _).drew).mono ?_
         rintro e w5 ⟨BA, rfl, q5, n5, k5⟩
         have hS5 := keep6 (keep6d (unhide hall)) k5
         have nA := hide (own_mono n5 (Nat.zero_le _))
         clear n5 k5 q5)
      | (go_at_call 19
         with_reducible refine (unhide c19b _ hS5.2.2.2.2.2.2).mono ?_
         rintro e w6 ⟨BB, rfl, q6, n6, k6⟩
         have hS6 := keep6 hS5 k6
         have nA6 := hide (ownsRow_below (unhide nA) k6)
         have nB := hide (own_mono n6 (Nat.zero_le _))
         clear n6 k6 q6)
      | (go_at_call 26
         with_reducible refine (unhide c26 _ _ _ hS6.2.2.2.2.2.2 (unhide nA6) (unhide nB)).mono ?_
         rintro e w7 ⟨x, y, rfl, hAns, k7⟩
         have hS7 := keep6 hS6 k7
         have hA1 := hide hAns
         clear k7 hAns)))
  have k8 := hS7.2.2.2.2.2.2
  have P := hide ((unhide P).later k8)
  have Q := hide ((unhide Q).later k8)
  have Hb := hide (laterB (unhide Hb) k8)
  clear k8 hS5 hS6 hS7 hall c19a c19b c26
  obtain ⟨c0, c1, c2⟩ := (unhide P).cells
  go_wp2_with fail
  refine (top_any W H a ca l _ hl ((unhide ha').below (unhide Hb))).mono ?_
  rintro e w9 ⟨BX, rfl, q9, n9, k9⟩
  have P := hide ((unhide P).later k9)
  have Q := hide ((unhide Q).later k9)
  have Hb := hide (laterB (unhide Hb) k9)
  have nX := hide (own_mono n9 (Nat.zero_le _))
  clear c0 c1 c2 k9 n9 q9
  go_upto_region 10 with fail
  have X := P3.new w9 35 W H (.slice (some ⟨BX, 0, none⟩) l.length l.length)
  have k10 : Below w9.heap.size w9 (w9.alloc (.cells #[.int .i64 W, .int .i64 H, .slice (some ⟨BX, 0, none⟩) l.length l.length] 35)) := (Below.refl _ _).alloc (Nat.le_refl _) _
  generalize w9.alloc (.cells #[.int .i64 W, .int .i64 H, .slice (some ⟨BX, 0, none⟩) l.length l.length] 35) = wA at *
  have P := hide ((unhide P).later k10)
  have Q := hide ((unhide Q).later k10)
  have Hb := hide (laterB (unhide Hb) k10)
  have nX := hide (ownsRow_below (unhide nX) k10)
  have X := hide X
  clear k10
  generalize w9.heap.size = X0 at *
  obtain ⟨d0, d1, d2⟩ := (unhide Q).cells
  go_wp2_with fail
  refine (top_any U V b cb m _ hm ((unhide hb').below (unhide Hb))).mono ?_
  rintro e wB ⟨BY, rfl, qB, nB2, kB⟩
  have P := hide ((unhide P).later kB)
  have Q := hide ((unhide Q).later kB)
  have X := hide ((unhide X).later kB)
  have Hb := hide (laterB (unhide Hb) kB)
  have nX := hide (ownsRow_below (unhide nX) kB)
  have nY := hide (own_mono nB2 (Nat.zero_le _))
  clear d0 d1 d2 kB nB2 qB
  go_upto_region 11 with fail
  have Y := P3.new wB 35 U V (.slice (some ⟨BY, 0, none⟩) m.length m.length)
  have k11 : Below wB.heap.size wB (wB.alloc (.cells #[.int .i64 U, .int .i64 V, .slice (some ⟨BY, 0, none⟩) m.length m.length] 35)) := (Below.refl _ _).alloc (Nat.le_refl _) _
  generalize wB.alloc (.cells #[.int .i64 U, .int .i64 V, .slice (some ⟨BY, 0, none⟩) m.length m.length] 35) = wC at *
  have P := hide ((unhide P).later k11)
  have Q := hide ((unhide Q).later k11)
  have X := hide ((unhide X).later k11)
  have Hb := hide (laterB (unhide Hb) k11)
  have nX := hide (ownsRow_below (unhide nX) k11)
  have nY := hide (ownsRow_below (unhide nY) k11)
  have Y := hide Y
  clear k11
  generalize wB.heap.size = Y0 at *
  obtain ⟨x0, x1, x2⟩ := (unhide X).cells
  obtain ⟨y0, y1, y2⟩ := (unhide Y).cells
  go_wp2_with fail
  refine (imotion_any W H U V _ _ _ _ l m n _ (unhide hl1) (unhide hm1) (ins_own (unhide nX)) (ins_own (unhide nY))).mono ?_
  rintro e wD ⟨x', y', rfl, hAns, kD⟩
  obtain ⟨hx, hy⟩ := (unhide hA1).uniq hAns
  subst hx hy
  have P := hide ((unhide P).later kD)
  have Q := hide ((unhide Q).later kD)
  have X := hide ((unhide X).later kD)
  have Y := hide ((unhide Y).later kD)
  have Hb := hide (laterB (unhide Hb) kD)
  have nX := hide (ownsRow_below (unhide nX) kD)
  have nY := hide (ownsRow_below (unhide nY) kD)
  have ex : (x != x) = false := by simp
  have ey : (y != y) = false := by simp
  clear x0 x1 x2 y0 y1 y2 kD hAns hA1
  go_upto_region 14 with fail
  have hall : Hid (wD.cell? ⟨X0, 0, none⟩ = some (.int .i64 W) ∧ wD.cell? ⟨X0, 1, none⟩ = some (.int .i64 H) ∧ wD.cell? ⟨X0, 2, none⟩ = some (.slice (some ⟨BX, 0, none⟩) l.length l.length) ∧ wD.cell? ⟨B0, 0, none⟩ = some (.int .i64 W) ∧ wD.cell? ⟨B0, 1, none⟩ = some (.int .i64 H) ∧ wD.cell? ⟨B0, 2, none⟩ = some (.slice a l.length ca) ∧ Below wD.heap.size wD wD) := hide ⟨(unhide X).cells.1, (unhide X).cells.2.1, (unhide X).cells.2.2, (unhide P).cells.1, (unhide P).cells.2.1, (unhide P).cells.2.2, Below.refl _ _⟩
  have c19 := hide (show ∀ w', Below wD.heap.size wD w' → Calls Try.prog 19 #[pcv W H a l.length ca] w' _ from fun w' h => top_any W H a ca l w' hl ((unhide ha').below (laterB (unhide Hb) h)))
  have c21 := hide (show ∀ w' B, Below wD.heap.size wD w' → OwnI w' 0 B l.length l.length l → Calls Try.prog 21 #[pcv W H (some ⟨BX, 0, none⟩) l.length l.length, pcv W H (some ⟨B, 0, none⟩) l.length l.length] w' _ from fun w' B h h1 => eqp_any W H _ _ _ _ l w' hl (ins_own (ownsRow_below (unhide nX) h)) (ins_own h1))
  go_region_held3 (fun w' => w'.cell? ⟨X0, 0, none⟩ = some (.int .i64 W) ∧ w'.cell? ⟨X0, 1, none⟩ = some (.int .i64 H) ∧ w'.cell? ⟨X0, 2, none⟩ = some (.slice (some ⟨BX, 0, none⟩) l.length l.length) ∧ w'.cell? ⟨B0, 0, none⟩ = some (.int .i64 W) ∧ w'.cell? ⟨B0, 1, none⟩ = some (.int .i64 H) ∧ w'.cell? ⟨B0, 2, none⟩ = some (.slice a l.length ca) ∧ Below wD.heap.size wD w')
    (first | with_reducible exact hS8 | with_reducible exact hS7 | exact keep6d (unhide hall))
    ((first
      | (go_at_call 19
         refine (unhide c19 _ (Below.refl _ _).drew).mono ?_
         rintro e wE ⟨BE, rfl, qE, nE, kE⟩
         have hS7 := keep6 (keep6d (unhide hall)) kE
         have nE' := hide (own_mono nE (Nat.zero_le _))
         clear nE kE qE)
      | (go_at_call 21
         refine (unhide c21 _ _ hS7.2.2.2.2.2.2 (unhide nE')).mono ?_
         rintro e wF ⟨rfl, kF⟩
         have hS8 := keep6 hS7 kF
         clear kF)))
  have k8 := hS8.2.2.2.2.2.2
  have Q := hide ((unhide Q).later k8)
  have Y := hide ((unhide Y).later k8)
  have Hb := hide (laterB (unhide Hb) k8)
  have nY := hide (ownsRow_below (unhide nY) k8)
  clear k8 hS7 hS8 hall c19 c21
  go_upto_region 16 with fail
  have hall : Hid (wF.cell? ⟨Y0, 0, none⟩ = some (.int .i64 U) ∧ wF.cell? ⟨Y0, 1, none⟩ = some (.int .i64 V) ∧ wF.cell? ⟨Y0, 2, none⟩ = some (.slice (some ⟨BY, 0, none⟩) m.length m.length) ∧ wF.cell? ⟨B1, 0, none⟩ = some (.int .i64 U) ∧ wF.cell? ⟨B1, 1, none⟩ = some (.int .i64 V) ∧ wF.cell? ⟨B1, 2, none⟩ = some (.slice b m.length cb) ∧ Below wF.heap.size wF wF) := hide ⟨(unhide Y).cells.1, (unhide Y).cells.2.1, (unhide Y).cells.2.2, (unhide Q).cells.1, (unhide Q).cells.2.1, (unhide Q).cells.2.2, Below.refl _ _⟩
  have c19 := hide (show ∀ w', Below wF.heap.size wF w' → Calls Try.prog 19 #[pcv U V b m.length cb] w' _ from fun w' h => top_any U V b cb m w' hm ((unhide hb').below (laterB (unhide Hb) h)))
  have c21 := hide (show ∀ w' B, Below wF.heap.size wF w' → OwnI w' 0 B m.length m.length m → Calls Try.prog 21 #[pcv U V (some ⟨BY, 0, none⟩) m.length m.length, pcv U V (some ⟨B, 0, none⟩) m.length m.length] w' _ from fun w' B h h1 => eqp_any U V _ _ _ _ m w' hm (ins_own (ownsRow_below (unhide nY) h)) (ins_own h1))
  go_region_held3 (fun w' => w'.cell? ⟨Y0, 0, none⟩ = some (.int .i64 U) ∧ w'.cell? ⟨Y0, 1, none⟩ = some (.int .i64 V) ∧ w'.cell? ⟨Y0, 2, none⟩ = some (.slice (some ⟨BY, 0, none⟩) m.length m.length) ∧ w'.cell? ⟨B1, 0, none⟩ = some (.int .i64 U) ∧ w'.cell? ⟨B1, 1, none⟩ = some (.int .i64 V) ∧ w'.cell? ⟨B1, 2, none⟩ = some (.slice b m.length cb) ∧ Below wF.heap.size wF w')
    (first | with_reducible exact hS8 | with_reducible exact hS7 | exact keep6d (unhide hall))
    ((first
      | (go_at_call 19
         refine (unhide c19 _ (Below.refl _ _).drew).mono ?_
         rintro e wG ⟨BG, rfl, qG, nG, kG⟩
         have hS7 := keep6 (keep6d (unhide hall)) kG
         have nG' := hide (own_mono nG (Nat.zero_le _))
         clear nG kG qG)
      | (go_at_call 21
         refine (unhide c21 _ _ hS7.2.2.2.2.2.2 (unhide nG')).mono ?_
         rintro e wH ⟨rfl, kH⟩
         have hS8 := keep6 hS7 kH
         clear kH)))
  have Hb := hide (laterB (unhide Hb) hS8.2.2.2.2.2.2)
  clear hS7 hS8 hall c19 c21
  go_wp2
  go_ret
  exact ⟨rfl, unhide Hb⟩

end Go.Proofs.YtcchgjeopmaemaaRRR
