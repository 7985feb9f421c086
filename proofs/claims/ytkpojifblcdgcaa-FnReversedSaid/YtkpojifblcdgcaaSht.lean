/-
  The program's track of frames that are asked for one by one, with each of its two closures; answers are new memory, nothing that was there is written.
-/
import Derived.Test.YtkpojifblcdgcaaITk
namespace Go.Proofs.Ytkpojifblcdgcaa.Y
open Go.RowKit
open Go.Proofs.Ytkpojifblcdgcaa
set_option linter.unusedVariables false
set_option linter.unusedSimpArgs false

set_option maxHeartbeats 3200000 in
theorem shotB_any (a : Option Addr) (cap : Nat) (l : List Kl) (n P : Nat) (w : World) (hn : n ≤ 2000) (hT : TOk l) (hcn : clen l = n) (hk : Kls w a l) (hP : P < w.heap.size) (p0 : w.cell? ⟨P, 0, none⟩ = some (.slice a l.length cap)) (p1 : w.cell? ⟨P, 1, none⟩ = some (.int .i64 (clen l))) :
    Calls Try.prog 17 #[.int .i64 (n : Nat), .func (.func 28) #[] #[.pointer (some ⟨P, 0, none⟩)]] w fun e w' => EdR w w' (asTr (revP l n)) e := by
  have hF := hide (fun (k : Nat) (C : Kl) (W : World) (hkn : k < n) (hf : frK l (clen l - 1 - (k : Nat)) = C) (hb : Below w.heap.size w W) => bck_any k P a cap l C W hT (by omega) (hk.below hb) (Nat.lt_of_lt_of_le hP hb.size) (cell_later hb p0) (cell_later hb p1) hf)
  have hbd := hide (fun c hc => (revP_ok hT.2.1 (n := n) (by omega) c hc).bd)
  clear hT hk hP p0 p1 hcn
  obtain ⟨R, hR⟩ : ∃ R, asTr (revP l n) = R := ⟨_, rfl⟩
  rw [hR]
  have hR' := hide hR
  clear hR
  have h0 : Hid (Go.Proofs.Ytkpojifblcdgcaa.Own (w.alloc (.cells #[] 40)) w.heap.size w.heap.size 0 0 (revP l 0)) := hide (Go.Proofs.Ytkpojifblcdgcaa.own_lit0 w (Nat.le_refl _))
  have hb0 := hide ((Below.refl w.heap.size w).alloc (Nat.le_refl _) (.cells #[] 40))
  go_enter Try.func17, Try.ntmps17
  go_wp2
  go_loopw [6, 10] (fun z y wr => ∃ k g c : Nat, k ≤ n ∧ y = .int .i64 (k : Nat) ∧ z = .slice (some ⟨g, 0, none⟩) k c ∧ w.heap.size ≤ g ∧ Hid (Go.Proofs.Ytkpojifblcdgcaa.Own wr w.heap.size g k c (revP l k)) ∧ Hid (Below w.heap.size w wr)) (fun _ y _ => n - (intOf y).toNat)
  case atStart => exact ⟨0, w.heap.size, 0, by omega, rfl, rfl, Nat.le_refl _, h0, hb0⟩
  case round =>
    clear h0 hb0
    obtain ⟨k, g, c, hk, rfl, rfl, hg, ho, hw⟩ := hrel
    by_cases hlt : k < n
    · have hltI : decide ((k : Int) < (n : Int)) = true := by simp; omega
      obtain ⟨C, hC⟩ : ∃ C, frK l (clen l - 1 - (k : Nat)) = C := ⟨_, rfl⟩
      have hcl := hide ((unhide hF) k C wr (by omega) hC (unhide hw))
      have hsn := hide (show revP l (k + 1) = revP l k ++ [(C.1, C.2.1, C.2.2)] by rw [revP_succ, hC])
      clear hC
      have hws := (unhide hw).size
      go_wp2_with fail
      refine (unhide hcl).mono ?_
      rintro e w1 ⟨rfl, hb⟩
      have hb1 := hide hb
      have ho1 := hide (ownsRow_below (unhide ho) hb)
      have hg1 := own_lt (unhide ho1)
      have hs1 := hb.size
      clear hb hcl
      go_wp2_with (at_builtin; refine Go.Proofs.Ytkpojifblcdgcaa.wpList_kN Try.underlying41 (B := w.heap.size) (g := g) (n := k) (cap := c) (L := revP l k) rfl _ _ rfl rfl (unhide ho1) (hX := by first | exact Below.refl w1.heap.size w1 | exact below_drewN (Below.refl w1.heap.size w1) _) hg1 w1.heap.size (by first | rfl | simp) rfl (by omega) (by omega) (by omega) ?_)
      intro g' cap' w' hown' hbel' hg' hlt'
      have hnew := hide (show Go.Proofs.Ytkpojifblcdgcaa.Own w' w.heap.size g' (k + 1) cap' (revP l (k + 1)) by rw [unhide hsn]; exact hown')
      have hwn := hide ((laterB (unhide hw) (unhide hb1)).trans hbel')
      clear hown' hbel' ho1 hb1 hw ho
      go_wp2
      go_roundw
      case rel => exact ⟨k + 1, g', cap', by omega, by go_num, by rfl, hg', hnew, hwn⟩
      case measure => simp [intOf]; omega
    · have hke : k = n := by omega
      have hltI : decide ((k : Int) < (n : Int)) = false := by simp; omega
      have hws := (unhide hw).size
      subst hke
      have hi := itk_any (some ⟨g, 0, none⟩) c (revP l k) wr (by rw [revP_len]; omega) (unhide hbd) (kls_own (unhide ho))
      rw [revP_len] at hi
      have hi' := hide hi
      rw [unhide hR'] at hi'
      clear hi hbd
      go_wp2_with fail
      refine (unhide hi').mono ?_
      rintro e w1 ⟨g1, c1, rfl, hg1, ho1, hb1⟩
      have hfin := hide (edR_from ⟨g1, c1, rfl, hg1, ho1, hb1⟩ (unhide hw) : EdR w w1 R (.returned (.tuple #[.slice (some ⟨g1, 0, none⟩) (outL R).length c1, .bool R.isSome])))
      clear ho1 hb1 hi' ho
      go_wp2
      exact bodyPost_ret (v := .tuple #[.slice (some ⟨g1, 0, none⟩) (outL R).length c1, .bool R.isSome]) (by simp [results, Try.results17, go_sem]) rfl (unhide hfin)

end Go.Proofs.Ytkpojifblcdgcaa.Y
