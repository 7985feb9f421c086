/-
  Contract of the program's FrameAt; nothing that was there is written.
-/
import Derived.Test.YtfcjdempigoiiaaFrA
import Derived.Test.YtfcjdempigoiiaaITa
namespace Go.Proofs.Ytfcjdempigoiiaa
open Go.RowKit
set_option linter.unusedVariables false
set_option linter.unusedSimpArgs false

set_option maxHeartbeats 1600000 in
theorem iframe_any (a : Option Addr) (cap : Nat) (l : List Kl) (t : Int) (w : World) (hl : l.length ≤ maxLen) (hk : Kls w a l) :
    Calls Try.prog 16 #[.slice a l.length cap, .int .i64 t] w fun e w' => e = .returned (.tuple #[.int .i64 (frameAt l t).1, .int .i64 (frameAt l t).2]) ∧ Below w.heap.size w w' := by
  have hk' := hide hk
  clear hk
  obtain ⟨p, hp⟩ : ∃ p, p = (frameAt l t).1 := ⟨_, rfl⟩
  obtain ⟨q, hq⟩ : ∃ q, q = (frameAt l t).2 := ⟨_, rfl⟩
  rw [← hp, ← hq]
  by_cases h : TOk l
  · have h' := hide h
    have L0 := clen_nonneg h.2.1
    have L1 := h.2.2
    by_cases h0 : t < 0
    · have hf : frameAt l t = (-1, -1) := frameAt_neg (by omega)
      rw [hf] at hp hq
      simp only at hp hq
      subst hp hq
      clear h hf
      go_enter Try.func16, Try.ntmps16
      go_wp2_with fail
      refine (opened_ok a cap l _ (unhide h') (unhide hk')).mono ?_
      rintro e w1 ⟨rfl, hb⟩
      go_wp2
      exact bodyPost_ret (v := .tuple #[.int .i64 (-1), .int .i64 (-1)]) (by simp [results, Try.results16, go_sem]) rfl ⟨rfl, hb.alloc hb.size _⟩
    have h0' : decide (t < 0) = false := by simpa using h0
    by_cases h1 : clen l ≤ t
    · have hf : frameAt l t = (-1, -1) := by rw [frameAt_yes h (by omega)]; exact seen_past h.2.1 h1
      rw [hf] at hp hq
      simp only at hp hq
      subst hp hq
      clear h hf
      go_enter Try.func16, Try.ntmps16
      go_wp2_with fail
      refine (opened_ok a cap l _ (unhide h') (unhide hk')).mono ?_
      rintro e w1 ⟨rfl, hb⟩
      go_wp2
      exact bodyPost_ret (v := .tuple #[.int .i64 (-1), .int .i64 (-1)]) (by simp [results, Try.results16, go_sem]) rfl ⟨rfl, hb.alloc hb.size _⟩
    have h1' : decide (clen l ≤ t) = false := by simpa using h1
    obtain ⟨⟨s, i, n⟩, hx, hsn⟩ := part_one h.2.1 (show 0 ≤ t by omega) (show t < clen l by omega)
    rw [frameAt_yes h (by omega), ← hsn] at hp hq
    simp only at hp hq
    subst hp hq
    have hx' := hide hx
    clear h hx hsn
    go_enter Try.func16, Try.ntmps16
    go_wp2_with fail
    refine (opened_ok a cap l _ (unhide h') (unhide hk')).mono ?_
    rintro e w1 ⟨rfl, hb⟩
    have hA := hide (hb.alloc hb.size (.cells #[.slice a l.length cap, .int .i64 (clen l)] 49))
    have K1 := hide (((unhide hk').below hb).below ((Below.refl _ _).alloc (Nat.le_refl _) (.cells #[.slice a l.length cap, .int .i64 (clen l)] 49)))
    clear hb
    go_wp2_with fail
    refine (ifrm_any a cap l t (p, q, n) _ (unhide h') (by omega) (by omega) (unhide K1) (unhide hx')).mono ?_
    rintro e w2 ⟨rfl, k2⟩
    have H2 := hide (laterB (unhide hA) k2)
    clear k2 hA K1
    go_wp2_with fail
    go_quiet (fail)
    go_wp2
    exact bodyPost_ret (v := .tuple #[.int .i64 p, .int .i64 q]) (by simp [results, Try.results16, go_sem]) rfl ⟨rfl, below_drewN ((unhide H2).alloc (unhide H2).size _) _⟩
  · have h' := hide h
    have hf : frameAt l t = (-1, -1) := if_neg (fun k => h k.1)
    rw [hf] at hp hq
    simp only at hp hq
    subst hp hq
    clear h hf
    go_enter Try.func16, Try.ntmps16
    go_wp2_with fail
    refine (opened_no a cap l _ hl (unhide h') (unhide hk')).mono ?_
    rintro e w1 ⟨rfl, hb⟩
    go_wp2
    exact bodyPost_ret (v := .tuple #[.int .i64 (-1), .int .i64 (-1)]) (by simp [results, Try.results16, go_sem]) rfl ⟨rfl, hb.alloc hb.size _⟩

end Go.Proofs.Ytfcjdempigoiiaa
