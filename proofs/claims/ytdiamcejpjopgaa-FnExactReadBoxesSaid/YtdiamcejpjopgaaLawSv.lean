/-
  The walk of the law on SaveBoxes, for every list of bytes, over the model's reader.
-/
import Derived.Test.YtdiamcejpjopgaaRdB
namespace Go.Proofs.Ytdiamcejpjopgaa
open Go.RowKit
set_option linter.unusedVariables false
set_option linter.unusedSimpArgs false

/-- a copy of bytes, as it lies behind the call -/
theorem copy_row {w' : World} {H B : Nat} {zs : List Int} (h : w'.ownsRow H 5 1 (.slice (some ⟨B, 0, none⟩) zs.length zs.length) zs.length (zs.map u8)) (hz : ∀ z ∈ zs, 0 ≤ z ∧ z ≤ 255) : Row true B (B + 1) w' (some ⟨B, 0, none⟩) zs ∧ B < w'.heap.size :=
  ⟨row_of_own h hz, (h.lt B rfl).2⟩

set_option maxRecDepth 100000 in
set_option maxHeartbeats 1600000 in
theorem lawSave (hsp : SpC 0) (a : Option Addr) (cap : Nat) (zs : List Int) (hm : zs.length ≤ maxLen) (w : World) (hr : Row false 0 w.heap.size w a zs) :
    Calls Try.prog 8 #[.slice a zs.length cap] w fun e w' => e = .returned (.bool true) ∧ Below w.heap.size w w' := by
  have hr' := hide hr
  have hbd := hide hr.bd
  have hsp' := hide hsp
  clear hr hsp
  unfold maxLen at hm
  by_cases hbig : (1048576 : Int) < (zs.length : Int)
  · go_enter Try.func8, Try.ntmps8
    go_wp2
    go_ret
    exact ⟨rfl, Below.refl _ _⟩
  · have hl : zs.length ≤ 1048576 := by omega
    have hbd0 := rdTop_bd zs
    obtain ⟨l, hl0⟩ : ∃ l, (rdTop zs).1 = l := ⟨_, rfl⟩
    rw [hl0] at hbd0
    have hl0' := hide hl0
    have hll : l.length ≤ 1048576 := by have := hbd0.1; omega
    have hsm := hide hbd0.small
    have hek := hbd0.endK
    clear hbd0 hl0
    go_enter Try.func8, Try.ntmps8
    go_wp2_with fail
    refine (tob_any a cap zs _ hl (unhide hr')).mono ?_
    rintro e w1 ⟨B1, rfl, hB1, own1, b1⟩
    obtain ⟨r1, lt1⟩ := copy_row own1 (unhide hbd)
    have r1' := hide (r1.read.mono (Nat.zero_le _) (show B1 + 1 ≤ w1.heap.size by omega))
    have b1' := hide b1
    have z1 := b1.size
    clear own1 r1 b1 lt1
    go_wp2_with fail
    refine (ssave_any (unhide hsp') _ zs.length zs _ hl (Nat.le_refl _) (by omega) (unhide r1')).mono ?_
    rintro e w2 ⟨v2, L2, rfl, own2, e2, b2⟩
    obtain ⟨a2, cap2, A2, rfl, x2, _⟩ := own2.out (e2.trans (unhide hl0'))
    have z2 := b2.size
    have B2 := hide ((unhide b1').trans (b2.mono z1))
    have X2 := hide (x2.read.mono (Nat.zero_le _) (Nat.le_refl _))
    clear own2 e2 b2 x2 r1' b1'
    have hr2 := hide (((unhide hr').below (unhide B2) (Nat.le_refl _)).mono (Nat.le_refl _) (unhide B2).size)
    go_wp2_with fail
    refine (tob_any a cap zs _ hl (unhide hr2)).mono ?_
    rintro e w3 ⟨B3, rfl, hB3, own3, b3⟩
    obtain ⟨r3, lt3⟩ := copy_row own3 (unhide hbd)
    have z3 := b3.size
    have R3 := hide r3
    have B3' := hide ((unhide B2).trans (b3.mono (by omega)))
    have X3 := hide ((unhide X2).below b3 (Nat.le_refl _))
    clear own3 r3 b3 X2 hr2 B2
    go_wp2_with fail
    refine (isave_any _ zs.length zs _ hl (Nat.le_refl _) (by omega) ((unhide R3).read.mono (Nat.zero_le _) lt3)).mono ?_
    rintro e w4 ⟨v4, L4, rfl, own4, e4, b4⟩
    obtain ⟨a4, cap4, A4, rfl, x4, d4⟩ := own4.out (e4.trans (unhide hl0'))
    have z4 := b4.size
    have D4 := hide d4
    have Y4 := hide x4
    have B4 := hide ((unhide B3').trans (b4.mono (by omega)))
    have X4 := hide ((unhide X3).below b4 (by omega))
    have R4 := hide ((unhide R3).below b4 (by omega))
    clear own4 e4 b4 x4 d4 X3 R3 B3'
    go_wp2_with fail
    refine (eqs_any _ _ _ _ A4 A2 l _ hll (unhide hsm) ((unhide Y4).read.mono (Nat.zero_le _) (Nat.le_refl _)) ((unhide X4).mono (Nat.le_refl _) (by omega))).mono ?_
    rintro e w5 ⟨rfl, b5⟩
    have z5 := b5.size
    have B5 := hide ((unhide B4).trans (b5.mono (by omega)))
    have X5 := hide ((unhide X4).below b5 (by omega))
    have R5 := hide ((unhide R4).below b5 (by omega))
    have Y5 := hide ((unhide Y4).below b5 (by omega))
    clear b5 X4 R4 Y4 B4
    have hr5 := hide (((unhide hr').below (unhide B5) (Nat.le_refl _)).mono (Nat.le_refl _) (unhide B5).size)
    go_wp2_with fail
    refine (tob_any a cap zs _ hl (unhide hr5)).mono ?_
    rintro e w6 ⟨B6, rfl, hB6, own6, b6⟩
    obtain ⟨r6, lt6⟩ := copy_row own6 (unhide hbd)
    have z6 := b6.size
    have Z6 := hide (r6.read.mono (Nat.zero_le _) (show B6 + 1 ≤ w6.heap.size by omega))
    have B6' := hide ((unhide B5).trans (b6.mono (by omega)))
    have X6 := hide ((unhide X5).below b6 (by omega))
    have R6 := hide ((unhide R5).below b6 (by omega))
    have Y6 := hide ((unhide Y5).below b6 (by omega))
    clear b6 X5 R5 Y5 B5 own6 r6 lt6 hr5
    go_wp2_with fail
    refine (eqb_any _ _ _ _ zs _ (by omega) ((unhide R6).read.mono (Nat.zero_le _) (by omega)) (unhide Z6)).mono ?_
    rintro e w7 ⟨rfl, nq, e7⟩
    have b7 : Below w6.heap.size w6 w7 := by rw [e7]; exact below_drewN (Below.refl _ _) nq
    have z7 := b7.size
    have B7 := hide ((unhide B6').trans (b7.mono (by omega)))
    have X7 := hide ((unhide X6).below b7 (by omega))
    have R7 := hide ((unhide R6).below b7 (by omega))
    have Y7 := hide ((unhide Y6).below b7 (by omega))
    clear b7 e7 X6 R6 Y6 B6' Z6
    go_wp2_with fail
    refine (markb_any B3 (B3 + 1) _ _ zs 1 _ hl (by omega) (by omega) (unhide R7)).mono ?_
    rintro e w8 ⟨rfl, _, o8⟩
    have z8 := o8.size
    have B8 := hide ((unhide B7).trans (o8.below (B := w.heap.size) (by omega) (fun k hk hS => by have := hS.2.1; omega)))
    have X8 := hide ((unhide X7).same (o8.same (by omega) (fun b _ hb hS => by have := hS.2.1; omega)))
    have Y8 := hide ((unhide Y7).same (o8.same (by omega) (fun b hb _ hS => by have := hS.2.2; omega)))
    have hk8 : ¬ (1 : Int) + (zs.length : Int) < 0 := by omega
    clear o8 X7 R7 Y7 B7
    go_wp2_with fail
    refine (eqs_any _ _ _ _ A4 A2 l _ hll (unhide hsm) ((unhide Y8).read.mono (Nat.zero_le _) (by omega)) ((unhide X8).mono (Nat.le_refl _) (by omega))).mono ?_
    rintro e w9 ⟨rfl, b9⟩
    have z9 := b9.size
    have B9 := hide ((unhide B8).trans (b9.mono (by omega)))
    have X9 := hide ((unhide X8).below b9 (by omega))
    have Y9 := hide ((unhide Y8).below b9 (by omega))
    clear b9 X8 Y8 B8
    go_wp2_with fail
    refine (markx_any w3.heap.size w4.heap.size _ _ A4 l 1 _ hll (unhide hsm) (by omega) hek (by omega) (unhide Y9) (unhide D4)).mono ?_
    rintro e w10 ⟨rfl, y10, o10⟩
    have z10 := o10.size
    have B10 := hide ((unhide B9).trans (o10.below (B := w.heap.size) (by omega) (fun k hk hS => by have := hS.1; omega)))
    have X10 := hide ((unhide X9).same (o10.same (by omega) (fun b _ hb hS => by have := hS.1; omega)))
    have Y10 := hide y10
    clear o10 y10 X9 Y9 B9
    go_wp2_with fail
    refine (heldx_any _ _ A4 l 1 _ hll (unhide hsm) (by omega) hek ((unhide Y10).read.mono (Nat.zero_le _) (by omega))).mono ?_
    rintro e w11 ⟨rfl, b11⟩
    have z11 := b11.size
    have B11 := hide ((unhide B10).trans (b11.mono (by omega)))
    have X11 := hide ((unhide X10).below b11 (by omega))
    have Y11 := hide ((unhide Y10).below b11 (by omega))
    have hk11 : ¬ ((endK 1 l : Nat) : Int) < 0 := by omega
    have hr11 := hide (((unhide hr').below (unhide B11) (Nat.le_refl _)).mono (Nat.le_refl _) (unhide B11).size)
    clear b11 X10 Y10 B10
    go_wp2_with fail
    refine (tob_any a cap zs _ hl (unhide hr11)).mono ?_
    rintro e w12 ⟨B12, rfl, hB12, own12, b12⟩
    obtain ⟨r12, lt12⟩ := copy_row own12 (unhide hbd)
    have z12 := b12.size
    have R12 := hide (r12.read.mono (Nat.zero_le _) (show B12 + 1 ≤ w12.heap.size by omega))
    have B12' := hide ((unhide B11).trans (b12.mono (by omega)))
    have X12 := hide ((unhide X11).below b12 (by omega))
    have Y12 := hide ((unhide Y11).below b12 (by omega))
    clear own12 r12 lt12 b12 X11 Y11 B11 hr11
    go_wp2_with fail
    refine (isave_any _ zs.length zs _ hl (Nat.le_refl _) (by omega) (unhide R12)).mono ?_
    rintro e w13 ⟨v13, L13, rfl, own13, e13, b13⟩
    obtain ⟨a13, cap13, A13, rfl, x13, _⟩ := own13.out (e13.trans (unhide hl0'))
    have z13 := b13.size
    have U13 := hide (x13.read.mono (Nat.zero_le _) (Nat.le_refl _))
    have B13 := hide ((unhide B12').trans (b13.mono (by omega)))
    have X13 := hide ((unhide X12).below b13 (by omega))
    have Y13 := hide ((unhide Y12).below b13 (by omega))
    clear own13 e13 x13 b13 X12 Y12 B12' R12
    go_wp2_with fail
    refine (eqs_any _ _ _ _ A13 A2 l _ hll (unhide hsm) (unhide U13) ((unhide X13).mono (Nat.le_refl _) (by omega))).mono ?_
    rintro e w14 ⟨rfl, b14⟩
    have z14 := b14.size
    have B14 := hide ((unhide B13).trans (b14.mono (by omega)))
    have Y14 := hide ((unhide Y13).below b14 (by omega))
    clear b14 X13 Y13 B13 U13
    go_wp2_with fail
    refine (heldx_any _ _ A4 l 1 _ hll (unhide hsm) (by omega) hek ((unhide Y14).read.mono (Nat.zero_le _) (by omega))).mono ?_
    rintro e w15 ⟨rfl, b15⟩
    have B15 := hide ((unhide B14).trans (b15.mono (by omega)))
    clear b15 Y14 B14
    go_wp2
    go_ret
    exact ⟨rfl, unhide B15⟩
end Go.Proofs.Ytdiamcejpjopgaa
