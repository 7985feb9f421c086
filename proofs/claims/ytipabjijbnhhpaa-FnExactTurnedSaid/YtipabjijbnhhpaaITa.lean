/-
  Contracts of the program: what is made, joined and held against the limits; a frame of a track; nothing that was there is written.
-/
import Derived.Test.YtipabjijbnhhpaaSEd
import Derived.Test.YtipabjijbnhhpaaOpn
import Derived.Test.YtipabjijbnhhpaaJn2
import Derived.Test.YtipabjijbnhhpaaPt2
namespace Go.Proofs.Ytipabjijbnhhpaa
open Go.RowKit
set_option linter.unusedVariables false
set_option linter.unusedSimpArgs false

set_option maxHeartbeats 1600000 in
theorem itk_any (a : Option Addr) (cap : Nat) (l : List Kl) (w : World) (hl : l.length ≤ 100000) (hA : AOk l) (hk : Kls w a l) :
    Calls Try.prog 32 #[.slice a l.length cap] w fun e w' => EdR w w' (if TOk (join l) then some (join l) else none) e := by
  have hJ := hide (ijoin_any a cap l w hl hA hk)
  have hjl := hide (len_join l)
  have hl' := hide hl
  clear hk hA hl
  obtain ⟨R, hR⟩ : ∃ R, (if TOk (join l) then some (join l) else none) = R := ⟨_, rfl⟩
  rw [hR]
  have hR' := hide hR
  clear hR
  go_enter Try.func32, Try.ntmps32
  go_wp2_with fail
  refine (unhide hJ).mono ?_
  rintro e w1 ⟨g, c, rfl, hg, ho, hb⟩
  have ho' := hide ho
  have hb' := hide hb
  clear ho hb hJ
  by_cases hT : TOk (join l)
  · have hr : R = some (join l) := by rw [← unhide hR']; exact if_pos hT
    subst hr
    have hd := hide (decide_eq_true hT)
    clear hT
    go_wp2_with fail
    refine (itrack_any (some ⟨g, 0, none⟩) c (join l) true _ (by have := unhide hjl; have := unhide hl'; unfold maxLen; omega) (kls_own (unhide ho')) (unhide hd)).mono ?_
    rintro e w2 ⟨rfl, k2⟩
    have k2' := hide k2
    clear k2
    go_wp2
    refine bodyPost_ret (v := .tuple #[.slice (some ⟨g, 0, none⟩) (join l).length c, .bool true]) (by simp [results, Try.results32, go_sem]) rfl ?_
    exact ⟨g, c, rfl, hg, ownsRow_below (unhide ho') (unhide k2'), laterB (unhide hb') (unhide k2')⟩
  · have hr : R = none := by rw [← unhide hR']; exact if_neg hT
    subst hr
    have hd := hide (decide_eq_false hT)
    clear hT
    go_wp2_with fail
    refine (itrack_any (some ⟨g, 0, none⟩) c (join l) false _ (by have := unhide hjl; have := unhide hl'; unfold maxLen; omega) (kls_own (unhide ho')) (unhide hd)).mono ?_
    rintro e w2 ⟨rfl, k2⟩
    have k2' := hide (laterB (unhide hb') k2)
    clear k2
    go_wp2
    exact bodyPost_ret (v := .tuple #[.slice (some ⟨w2.heap.size, 0, none⟩) 0 0, .bool false]) (by simp [results, Try.results32, go_sem]) rfl (edR_none rfl (unhide k2'))

end Go.Proofs.Ytipabjijbnhhpaa
