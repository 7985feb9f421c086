/-
  What is missing, whatever the lists are, and whether nothing is: the program's functions and their contracts.
-/
import Derived.Test.YtfbifffmieimoaaIMs
namespace Go.Proofs.Ytfbifffmieimoaa.Rl
open Go.RowKit
open Go.Proofs.Ytfbifffmieimoaa
set_option linter.unusedVariables false
set_option linter.unusedSimpArgs false

set_option maxHeartbeats 1600000 in
theorem imiss_any (a b : Option Addr) (ca cb : Nat) (l m : List Kl) (w : World) (hl : l.length ≤ maxLen) (hm : m.length ≤ maxLen) (hk : Kls w a l) (hj : Kls w b m) :
    Calls Try.prog 14 #[.slice a l.length ca, .slice b m.length cb] w fun e w' => ∃ g c, e = .returned (.slice (some ⟨g, 0, none⟩) (missOf l m).length c) ∧ Own w' w.heap.size g (missOf l m).length c (missOf l m) ∧ Below w.heap.size w w' := by
  by_cases hL : RsOk l
  · by_cases hM : RsOk m
    · have e : missOf l m = missing l m := by unfold missOf; rw [if_pos ⟨hL, hM⟩]
      rw [e]
      exact imiss_ok a b ca cb l m w hL hM hk hj
    · have e : missOf l m = [] := by unfold missOf; rw [if_neg (fun h => hM h.2)]
      rw [e]
      have hk' := hide hk
      have hj' := hide hj
      have hL' := hide hL
      have hM' := hide hM
      clear hk hj hL hM e
      go_enter Try.func14, Try.ntmps14
      go_wp2_with fail
      refine (ireels_any a ca l true _ hl (unhide hk') (by simpa using unhide hL')).mono ?_
      rintro e w1 ⟨rfl, k1⟩
      have k1' := hide k1
      have hj1 := hide ((unhide hj').below k1)
      clear k1
      go_wp2_with fail
      refine (ireels_any b cb m false _ hm (unhide hj1) (by simpa using unhide hM')).mono ?_
      rintro e w2 ⟨rfl, k2⟩
      have B2 := hide (laterB (unhide k1') k2)
      clear k1' k2 hj1
      go_wp2
      go_ret
      exact ⟨_, _, rfl, own_lit0 w2 (unhide B2).size, (unhide B2).alloc (unhide B2).size _⟩
  · have e : missOf l m = [] := by unfold missOf; rw [if_neg (fun h => hL h.1)]
    rw [e]
    have hk' := hide hk
    have hj' := hide hj
    have hL' := hide hL
    clear hk hj hL e
    go_enter Try.func14, Try.ntmps14
    go_wp2_with fail
    refine (ireels_any a ca l false _ hl (unhide hk') (by simpa using unhide hL')).mono ?_
    rintro e w1 ⟨rfl, k1⟩
    have k1' := hide k1
    clear k1
    go_wp2
    go_ret
    exact ⟨_, _, rfl, own_lit0 w1 (unhide k1').size, (unhide k1').alloc (unhide k1').size _⟩

/-- are both lists of reels, and is nothing missing? -/
def covOf (l m : List Kl) : Bool := decide (RsOk l) && decide (RsOk m) && decide (missing l m = [])
theorem cov_zero (l : List Kl) (v : Bool) (h : decide (l = []) = v) : ((l.length : Int) == 0) = v := by
  subst h
  cases l with
  | nil => simp
  | cons x l => simp; omega

set_option maxHeartbeats 1600000 in
theorem icov_any (a b : Option Addr) (ca cb : Nat) (l m : List Kl) (w : World) (hl : l.length ≤ maxLen) (hm : m.length ≤ maxLen) (hk : Kls w a l) (hj : Kls w b m) :
    Calls Try.prog 13 #[.slice a l.length ca, .slice b m.length cb] w fun e w' => e = .returned (.bool (covOf l m)) ∧ Below w.heap.size w w' := by
  have hk' := hide hk
  have hj' := hide hj
  clear hk hj
  by_cases hL : RsOk l
  · have hLd : decide (RsOk l) = true := by simpa using hL
    by_cases hM : RsOk m
    · have hMd : decide (RsOk m) = true := by simpa using hM
      have e : covOf l m = decide (missing l m = []) := by unfold covOf; rw [hLd, hMd]; rfl
      rw [e]
      obtain ⟨v, hv⟩ : ∃ v, decide (missing l m = []) = v := ⟨_, rfl⟩
      have hz := cov_zero (missing l m) v hv
      rw [hv]
      have hL' := hide hL
      have hM' := hide hM
      clear hL hM e hv
      go_enter Try.func13, Try.ntmps13
      go_wp2_with fail
      refine (ireels_any a ca l true _ hl (unhide hk') hLd).mono ?_
      rintro e w1 ⟨rfl, k1⟩
      have k1' := hide k1
      have hj1 := hide ((unhide hj').below k1)
      have hk1 := hide ((unhide hk').below k1)
      clear k1
      go_wp2_with fail
      refine (ireels_any b cb m true _ hm (unhide hj1) hMd).mono ?_
      rintro e w2 ⟨rfl, k2⟩
      have B2 := hide (laterB (unhide k1') k2)
      have hj2 := hide ((unhide hj1).below k2)
      have hk2 := hide ((unhide hk1).below k2)
      clear k1' k2 hj1 hk1
      go_wp2_with fail
      refine (imiss_ok a b ca cb l m _ (unhide hL') (unhide hM') (unhide hk2) (unhide hj2)).mono ?_
      rintro e w3 ⟨g, c, rfl, _, k3⟩
      have B3 := hide (laterB (unhide B2) k3)
      clear k3 B2 hj2 hk2 hLd hMd
      go_wp2
      go_ret
      exact ⟨rfl, unhide B3⟩
    · have hMd : decide (RsOk m) = false := by simpa using hM
      have e : covOf l m = false := by unfold covOf; rw [hLd, hMd]; rfl
      rw [e]
      clear hL hM e
      go_enter Try.func13, Try.ntmps13
      go_wp2_with fail
      refine (ireels_any a ca l true _ hl (unhide hk') hLd).mono ?_
      rintro e w1 ⟨rfl, k1⟩
      have k1' := hide k1
      have hj1 := hide ((unhide hj').below k1)
      clear k1
      go_wp2_with fail
      refine (ireels_any b cb m false _ hm (unhide hj1) hMd).mono ?_
      rintro e w2 ⟨rfl, k2⟩
      have B2 := hide (laterB (unhide k1') k2)
      clear k1' k2 hj1 hLd hMd
      go_wp2
      go_ret
      exact ⟨rfl, unhide B2⟩
  · have hLd : decide (RsOk l) = false := by simpa using hL
    have e : covOf l m = false := by unfold covOf; rw [hLd]; rfl
    rw [e]
    clear hL e
    go_enter Try.func13, Try.ntmps13
    go_wp2_with fail
    refine (ireels_any a ca l false _ hl (unhide hk') hLd).mono ?_
    rintro e w1 ⟨rfl, k1⟩
    have k1' := hide k1
    clear k1 hLd
    go_wp2
    go_ret
    exact ⟨rfl, unhide k1'⟩
end Go.Proofs.Ytfbifffmieimoaa.Rl
