/-
  The walk of the law on ReadBoxes, for every list of bytes, over the model's reader.
-/
import Derived.Test.YtdiamcejpjopgaaLawSv
namespace Go.Proofs.Ytdiamcejpjopgaa
open Go.RowKit
set_option linter.unusedVariables false
set_option linter.unusedSimpArgs false

set_option maxHeartbeats 800000 in
theorem eqf_any (c p : Int) (w : World) :
    Calls Try.prog 32 #[.agg #[.int .i64 c, .int .i64 p], .agg #[.int .i64 c, .int .i64 p]] w fun e w' => e = .returned (.bool true) ∧ Below w.heap.size w w' := by
  have hcc : (c != c) = false := by simp
  have hpp : (p != p) = false := by simp
  go_enter Try.func32, Try.ntmps32
  go_wp2
  go_ret
  exact ⟨rfl, ((Below.refl _ _).alloc (Nat.le_refl _) _).alloc (by simp) _⟩
/-- a fault in a block of its own -/
def Flt (w : World) (g : Nat) (c p : Int) : Prop := w.cell? ⟨g, 0, none⟩ = some (.int .i64 c) ∧ w.cell? ⟨g, 1, none⟩ = some (.int .i64 p)
theorem Flt.below {w w' : World} {g B : Nat} {c p : Int} (h : Flt w g c p) (hb : Below B w w') (hg : g < B) : Flt w' g c p :=
  ⟨by rw [World.cell?_of_block (a := ⟨g, 0, none⟩) (hb.block g hg)]; exact h.1, by rw [World.cell?_of_block (a := ⟨g, 1, none⟩) (hb.block g hg)]; exact h.2⟩
theorem Flt.only {S : Nat → Prop} {w w' : World} {g : Nat} {c p : Int} (h : Flt w g c p) (ho : Only S w w') (hg : g < w.heap.size) (hS : ¬ S g) : Flt w' g c p :=
  ⟨by rw [World.cell?_of_block (a := ⟨g, 0, none⟩) (ho.2.2.2.2 g hg hS)]; exact h.1, by rw [World.cell?_of_block (a := ⟨g, 1, none⟩) (ho.2.2.2.2 g hg hS)]; exact h.2⟩
theorem new29 (w : World) (c p : Int) : Below w.heap.size w (w.alloc (.cells #[.int .i64 c, .int .i64 p] 29)) ∧ (w.alloc (.cells #[.int .i64 c, .int .i64 p] 29)).heap.size = w.heap.size + 1 ∧ Flt (w.alloc (.cells #[.int .i64 c, .int .i64 p] 29)) w.heap.size c p := by
  have hb := heap_alloc_new w (.cells #[.int .i64 c, .int .i64 p] 29)
  refine ⟨(Below.refl _ _).alloc (Nat.le_refl _) _, by simp, ?_, ?_⟩
  · rw [cell_of_row _ _ _ _ _ _ hb]; rfl
  · rw [cell_of_row _ _ _ _ _ _ hb]; rfl

set_option maxRecDepth 100000 in
set_option maxHeartbeats 1600000 in
theorem lawRead (hsp : SpC 0) (a : Option Addr) (cap : Nat) (zs : List Int) (hm : zs.length ≤ maxLen) (w : World) (hr : Row false 0 w.heap.size w a zs) :
    Calls Try.prog 7 #[.slice a zs.length cap] w fun e w' => e = .returned (.bool true) ∧ Below w.heap.size w w' := by
  have hr' := hide hr
  have hbd := hide hr.bd
  have hsp' := hide hsp
  clear hr hsp
  unfold maxLen at hm
  by_cases hbig : (1048576 : Int) < (zs.length : Int)
  · go_enter Try.func7, Try.ntmps7
    go_wp2
    go_ret
    exact ⟨rfl, Below.refl _ _⟩
  · have hl : zs.length ≤ 1048576 := by omega
    have hbd0 := rdBoxes_bd zs
    obtain ⟨l, hl0⟩ : ∃ l, rdBoxes zs = l := ⟨_, rfl⟩
    rw [hl0] at hbd0
    have hl0' := hide hl0
    have hll : l.length ≤ 1048576 := by have := hbd0.1; omega
    have hsm := hide hbd0.small
    have hek := hbd0.endK
    obtain ⟨c, hc⟩ : ∃ c, (rdTop zs).2.1 = c := ⟨_, rfl⟩
    obtain ⟨p, hp⟩ : ∃ p, (rdTop zs).2.2 = p := ⟨_, rfl⟩
    have hc' := hide hc
    have hp' := hide hp
    clear hbd0 hl0 hc hp
    go_enter Try.func7, Try.ntmps7
    go_wp2_with fail
    refine (tob_any a cap zs _ hl (unhide hr')).mono ?_
    rintro e w1 ⟨B1, rfl, hB1, own1, b1⟩
    obtain ⟨r1, lt1⟩ := copy_row own1 (unhide hbd)
    have r1' := hide (r1.read.mono (Nat.zero_le _) (show B1 + 1 ≤ w1.heap.size by omega))
    have b1' := hide b1
    have z1 := b1.size
    clear own1 r1 b1 lt1
    go_wp2_with fail
    refine (sread_any (unhide hsp') _ zs.length zs _ hl (Nat.le_refl _) (by omega) (unhide r1')).mono ?_
    rintro e u2 ⟨v2, L2, rfl, own2, e2, b2⟩
    rw [unhide hc', unhide hp']
    obtain ⟨a2, cap2, A2, rfl, x2, _⟩ := own2.out (e2.trans (unhide hl0'))
    have z2 := b2.size
    have B2 := hide ((unhide b1').trans (b2.mono z1))
    have X2 := hide (x2.read.mono (Nat.zero_le _) (Nat.le_refl _))
    clear own2 e2 b2 x2 r1' b1'
    have hn := new29 u2 c p
    go_wp2_with fail
    generalize u2.alloc (.cells #[.int .i64 c, .int .i64 p] 29) = w2 at hn ⊢
    obtain ⟨ba, za, F2⟩ := hn
    have F2' := hide F2
    have B2' := hide ((unhide B2).trans (ba.mono (by omega)))
    have X2' := hide (((unhide X2).below ba (Nat.le_refl _)).mono (Nat.le_refl _) (show u2.heap.size ≤ w2.heap.size by omega))
    have hg2 : u2.heap.size < w2.heap.size := by omega
    have hr2 := hide (((unhide hr').below (unhide B2') (Nat.le_refl _)).mono (Nat.le_refl _) (unhide B2').size)
    clear ba F2 X2 B2
    refine (tob_any a cap zs _ hl (unhide hr2)).mono ?_
    rintro e w3 ⟨B3, rfl, hB3, own3, b3⟩
    obtain ⟨r3, lt3⟩ := copy_row own3 (unhide hbd)
    have z3 := b3.size
    have R3 := hide r3
    have B3' := hide ((unhide B2').trans (b3.mono (by omega)))
    have F3 := hide ((unhide F2').below b3 hg2)
    have X3 := hide ((unhide X2').below b3 (Nat.le_refl _))
    clear own3 r3 b3 X2' hr2 B2' F2'
    go_wp2_with fail
    refine (iread_any _ zs.length zs _ hl (Nat.le_refl _) (by omega) ((unhide R3).read.mono (Nat.zero_le _) lt3)).mono ?_
    rintro e u4 ⟨v4, L4, rfl, own4, e4, b4⟩
    rw [unhide hc', unhide hp']
    obtain ⟨a4, cap4, A4, rfl, x4, d4⟩ := own4.out (e4.trans (unhide hl0'))
    have z4 := b4.size
    have D4 := hide d4
    have y4 := hide x4
    have b4' := hide ((unhide B3').trans (b4.mono (by omega)))
    have x4' := hide ((unhide X3).below b4 (by omega))
    have r4 := hide ((unhide R3).below b4 (by omega))
    have f4 := hide ((unhide F3).below b4 (by omega))
    clear own4 e4 b4 x4 d4 X3 R3 B3' F3
    have hn := new29 u4 c p
    go_wp2_with fail
    generalize u4.alloc (.cells #[.int .i64 c, .int .i64 p] 29) = w4 at hn ⊢
    obtain ⟨ba, za, F4⟩ := hn
    have G4 := hide F4
    have Y4 := hide (((unhide y4).below ba (Nat.le_refl _)).mono (Nat.le_refl _) (show u4.heap.size ≤ w4.heap.size by omega))
    have B4 := hide ((unhide b4').trans (ba.mono (by omega)))
    have X4 := hide ((unhide x4').below ba (by omega))
    have R4 := hide ((unhide r4).below ba (by omega))
    have F4' := hide ((unhide f4).below ba (by omega))
    have hg4 : u4.heap.size < w4.heap.size := by omega
    have hg4' : w3.heap.size ≤ u4.heap.size := by omega
    clear ba F4 y4 b4' x4' r4 f4
    refine (eqs_any _ _ _ _ A4 A2 l _ hll (unhide hsm) ((unhide Y4).read.mono (Nat.zero_le _) (Nat.le_refl _)) ((unhide X4).mono (Nat.le_refl _) (by omega))).mono ?_
    rintro e u5 ⟨rfl, b5⟩
    have t5 := b5.size
    obtain ⟨ca, cb⟩ := (unhide G4).below b5 hg4
    obtain ⟨cc, cd⟩ := (unhide F4').below b5 (by omega)
    go_wp2_with fail
    refine (eqf_any c p _).mono ?_
    rintro e w5 ⟨rfl, q5⟩
    have b5 := b5.trans (q5.mono t5)
    have z5 := b5.size
    have B5 := hide ((unhide B4).trans (b5.mono (by omega)))
    have X5 := hide ((unhide X4).below b5 (by omega))
    have R5 := hide ((unhide R4).below b5 (by omega))
    have Y5 := hide ((unhide Y4).below b5 (by omega))
    have F5 := hide ((unhide F4').below b5 (by omega))
    have G5 := hide ((unhide G4).below b5 (by omega))
    clear b5 q5 t5 ca cb cc cd X4 R4 Y4 B4 F4' G4
    have hr5 := hide (((unhide hr').below (unhide B5) (Nat.le_refl _)).mono (Nat.le_refl _) (unhide B5).size)
    go_wp2_with fail
    refine (tob_any a cap zs _ hl (unhide hr5)).mono ?_
    rintro e w6 ⟨B6, rfl, hB6, own6, b6⟩
    obtain ⟨r6, lt6⟩ := copy_row own6 (unhide hbd)
    have z6 := b6.size
    have Z6 := hide (r6.read.mono (Nat.zero_le _) (show B6 + 1 ≤ w6.heap.size by omega))
    have B6' := hide ((unhide B5).trans (b6.mono (by omega)))
    have X6 := hide ((unhide X5).below b6 (by omega))
    have R6 := hide ((unhide R5).below b6 (by omega))
    have F6 := hide ((unhide F5).below b6 (by omega))
    have G6 := hide ((unhide G5).below b6 (by omega))
    have Y6 := hide ((unhide Y5).below b6 (by omega))
    clear b6 X5 R5 Y5 B5 own6 r6 lt6 hr5 F5 G5
    go_wp2_with fail
    refine (eqb_any _ _ _ _ zs _ (by omega) ((unhide R6).read.mono (Nat.zero_le _) (by omega)) (unhide Z6)).mono ?_
    rintro e w7 ⟨rfl, nq, e7⟩
    have b7 : Below w6.heap.size w6 w7 := by rw [e7]; exact below_drewN (Below.refl _ _) nq
    have z7 := b7.size
    have B7 := hide ((unhide B6').trans (b7.mono (by omega)))
    have X7 := hide ((unhide X6).below b7 (by omega))
    have R7 := hide ((unhide R6).below b7 (by omega))
    have F7 := hide ((unhide F6).below b7 (by omega))
    have G7 := hide ((unhide G6).below b7 (by omega))
    have Y7 := hide ((unhide Y6).below b7 (by omega))
    clear b7 e7 X6 R6 Y6 B6' Z6 F6 G6
    go_wp2_with fail
    refine (markb_any B3 (B3 + 1) _ _ zs 1 _ hl (by omega) (by omega) (unhide R7)).mono ?_
    rintro e w8 ⟨rfl, _, o8⟩
    have z8 := o8.size
    have B8 := hide ((unhide B7).trans (o8.below (B := w.heap.size) (by omega) (fun k hk hS => by have := hS.2.1; omega)))
    have X8 := hide ((unhide X7).same (o8.same (by omega) (fun b _ hb hS => by have := hS.2.1; omega)))
    have F8 := hide ((unhide F7).only o8 (by omega) (fun hS => by have := hS.2.1; omega))
    have G8 := hide ((unhide G7).only o8 (by omega) (fun hS => by have := hS.2.2; omega))
    have Y8 := hide ((unhide Y7).same (o8.same (by omega) (fun b hb _ hS => by have := hS.2.2; omega)))
    have hk8 : ¬ (1 : Int) + (zs.length : Int) < 0 := by omega
    clear o8 X7 R7 Y7 B7 F7 G7
    go_wp2_with fail
    refine (eqs_any _ _ _ _ A4 A2 l _ hll (unhide hsm) ((unhide Y8).read.mono (Nat.zero_le _) (by omega)) ((unhide X8).mono (Nat.le_refl _) (by omega))).mono ?_
    rintro e u9 ⟨rfl, b9⟩
    have t9 := b9.size
    obtain ⟨ca, cb⟩ := (unhide G8).below b9 (by omega)
    obtain ⟨cc, cd⟩ := (unhide F8).below b9 (by omega)
    go_wp2_with fail
    refine (eqf_any c p _).mono ?_
    rintro e w9 ⟨rfl, q9⟩
    have b9 := b9.trans (q9.mono t9)
    have z9 := b9.size
    have B9 := hide ((unhide B8).trans (b9.mono (by omega)))
    have X9 := hide ((unhide X8).below b9 (by omega))
    have Y9 := hide ((unhide Y8).below b9 (by omega))
    have F9 := hide ((unhide F8).below b9 (by omega))
    clear b9 q9 t9 ca cb cc cd X8 Y8 B8 F8 G8
    go_wp2_with fail
    refine (markx_any w3.heap.size w4.heap.size _ _ A4 l 1 _ hll (unhide hsm) (by omega) hek (by omega) (unhide Y9) (unhide D4)).mono ?_
    rintro e w10 ⟨rfl, y10, o10⟩
    have z10 := o10.size
    have B10 := hide ((unhide B9).trans (o10.below (B := w.heap.size) (by omega) (fun k hk hS => by have := hS.1; omega)))
    have X10 := hide ((unhide X9).same (o10.same (by omega) (fun b _ hb hS => by have := hS.1; omega)))
    have F10 := hide ((unhide F9).only o10 (by omega) (fun hS => by have := hS.1; omega))
    have Y10 := hide y10
    clear o10 y10 X9 Y9 B9 F9
    go_wp2_with fail
    refine (heldx_any _ _ A4 l 1 _ hll (unhide hsm) (by omega) hek ((unhide Y10).read.mono (Nat.zero_le _) (by omega))).mono ?_
    rintro e w11 ⟨rfl, b11⟩
    have z11 := b11.size
    have B11 := hide ((unhide B10).trans (b11.mono (by omega)))
    have X11 := hide ((unhide X10).below b11 (by omega))
    have F11 := hide ((unhide F10).below b11 (by omega))
    have Y11 := hide ((unhide Y10).below b11 (by omega))
    have hk11 : ¬ ((endK 1 l : Nat) : Int) < 0 := by omega
    have hr11 := hide (((unhide hr').below (unhide B11) (Nat.le_refl _)).mono (Nat.le_refl _) (unhide B11).size)
    clear b11 X10 Y10 B10 F10
    go_wp2_with fail
    refine (tob_any a cap zs _ hl (unhide hr11)).mono ?_
    rintro e w12 ⟨B12, rfl, hB12, own12, b12⟩
    obtain ⟨r12, lt12⟩ := copy_row own12 (unhide hbd)
    have z12 := b12.size
    have R12 := hide (r12.read.mono (Nat.zero_le _) (show B12 + 1 ≤ w12.heap.size by omega))
    have B12' := hide ((unhide B11).trans (b12.mono (by omega)))
    have X12 := hide ((unhide X11).below b12 (by omega))
    have F12 := hide ((unhide F11).below b12 (by omega))
    have Y12 := hide ((unhide Y11).below b12 (by omega))
    clear own12 r12 lt12 b12 X11 Y11 B11 hr11 F11
    go_wp2_with fail
    refine (iread_any _ zs.length zs _ hl (Nat.le_refl _) (by omega) (unhide R12)).mono ?_
    rintro e u13 ⟨v13, L13, rfl, own13, e13, b13⟩
    rw [unhide hc', unhide hp']
    obtain ⟨a13, cap13, A13, rfl, x13, _⟩ := own13.out (e13.trans (unhide hl0'))
    have z13 := b13.size
    have U13 := hide (x13.read.mono (Nat.zero_le _) (Nat.le_refl _))
    have B13 := hide ((unhide B12').trans (b13.mono (by omega)))
    have X13 := hide ((unhide X12).below b13 (by omega))
    have Y13 := hide ((unhide Y12).below b13 (by omega))
    have f13 := hide ((unhide F12).below b13 (by omega))
    clear own13 e13 x13 b13 X12 Y12 B12' R12 F12
    have hn := new29 u13 c p
    go_wp2_with fail
    generalize u13.alloc (.cells #[.int .i64 c, .int .i64 p] 29) = w13 at hn ⊢
    obtain ⟨ba, za, F13⟩ := hn
    have H13 := hide F13
    have U13' := hide (((unhide U13).below ba (Nat.le_refl _)).mono (Nat.le_refl _) (show u13.heap.size ≤ w13.heap.size by omega))
    have B13' := hide ((unhide B13).trans (ba.mono (by omega)))
    have X13' := hide ((unhide X13).below ba (by omega))
    have Y13' := hide ((unhide Y13).below ba (by omega))
    have f13' := hide ((unhide f13).below ba (by omega))
    have hg13 : u13.heap.size < w13.heap.size := by omega
    clear ba F13 U13 B13 X13 Y13 f13
    refine (eqs_any _ _ _ _ A13 A2 l _ hll (unhide hsm) (unhide U13') ((unhide X13').mono (Nat.le_refl _) (by omega))).mono ?_
    rintro e u14 ⟨rfl, b14⟩
    have t14 := b14.size
    obtain ⟨ca, cb⟩ := (unhide H13).below b14 hg13
    obtain ⟨cc, cd⟩ := (unhide f13').below b14 (by omega)
    go_wp2_with fail
    refine (eqf_any c p _).mono ?_
    rintro e w14 ⟨rfl, q14⟩
    have b14 := b14.trans (q14.mono t14)
    have z14 := b14.size
    have B14 := hide ((unhide B13').trans (b14.mono (by omega)))
    have Y14 := hide ((unhide Y13').below b14 (by omega))
    clear b14 q14 t14 ca cb cc cd X13' Y13' B13' U13' H13 f13'
    go_wp2_with fail
    refine (heldx_any _ _ A4 l 1 _ hll (unhide hsm) (by omega) hek ((unhide Y14).read.mono (Nat.zero_le _) (by omega))).mono ?_
    rintro e w15 ⟨rfl, b15⟩
    have B15 := hide ((unhide B14).trans (b15.mono (by omega)))
    clear b15 Y14 B14
    go_wp2
    go_ret
    exact ⟨rfl, unhide B15⟩
end Go.Proofs.Ytdiamcejpjopgaa
