/-
  The program's edits of a track that was opened; the answer is new memory, nothing that was there is written.
-/
import Derived.Test.YtnmahojdaodlgaaMthA
namespace Go.Proofs.Ytnmahojdaodlgaa
open Go.RowKit
set_option linter.unusedVariables false
set_option linter.unusedSimpArgs false

set_option maxHeartbeats 400000 in
theorem ext_any (b o cap : Nat) (l : List Kl) (t n c1 c2 c3 : Int) (w : World) (hT : TOk l) (hk : Kls w (some ⟨b, o, none⟩) l) :
    Calls Try.prog 70 #[.agg #[.slice (some ⟨b, o, none⟩) l.length cap, .int .i64 (clen l)], .agg #[.int .i64 t, .int .i64 n, .int .i64 c1, .int .i64 c2, .int .i64 c3]] w fun e w' => MdR w w' (if n < 1 then none else repl l t n []) e := by
  have hT' := hide hT
  have L0 := clen_nonneg hT.2.1
  have L1 := hT.2.2
  have hW : Below w.heap.size w ((w.alloc (.cells #[.slice (some ⟨b, o, none⟩) l.length cap, .int .i64 (clen l)] 63)).alloc (.cells #[.int .i64 t, .int .i64 n, .int .i64 c1, .int .i64 c2, .int .i64 c3] 57)) := ((Below.refl _ _).alloc (Nat.le_refl _) _).alloc (by simp) _
  have hW2 := hide hW
  have K1 := hide (hk.below hW)
  clear hk hW hT
  by_cases hn : n < 1
  · rw [if_pos hn]
    go_enter Try.func70, Try.ntmps70
    go_wp2
    exact bodyPost_ret (v := .tuple #[.slice none 0 0, .bool false]) (by simp [results, Try.results70, go_sem]) rfl (mdR_none rfl (unhide hW2))
  · rw [if_neg hn]
    have hn' : decide (n < 1) = false := by simpa using hn
    go_enter Try.func70, Try.ntmps70
    go_wp2_with fail
    refine (repl_any (some ⟨b, o, none⟩) cap l t n none 0 [] _ (unhide hT') (by simp) (unhide K1) Kls.nil (fun _ => rfl)).mono ?_
    rintro e w2 hE
    obtain ⟨v, rfl, E⟩ := mdR_from hE (unhide hW2)
    go_wp2
    exact bodyPost_ret (v := .tuple #[v, .bool (repl l t n []).isSome]) (by simp [results, Try.results70, go_sem]) rfl ⟨v, rfl, E⟩

end Go.Proofs.Ytnmahojdaodlgaa
