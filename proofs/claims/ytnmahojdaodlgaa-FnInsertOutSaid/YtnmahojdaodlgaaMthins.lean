/-
  The program's edits of a track that was opened; the answer is new memory, nothing that was there is written.
-/
import Derived.Test.YtnmahojdaodlgaaMthA
namespace Go.Proofs.Ytnmahojdaodlgaa
open Go.RowKit
set_option linter.unusedVariables false
set_option linter.unusedSimpArgs false

set_option maxHeartbeats 400000 in
theorem ins_any (b o cap : Nat) (l : List Kl) (t n c1 c2 c3 : Int) (w : World) (hT : TOk l) (hk : Kls w (some ⟨b, o, none⟩) l) :
    Calls Try.prog 69 #[.agg #[.slice (some ⟨b, o, none⟩) l.length cap, .int .i64 (clen l)], .agg #[.int .i64 t, .int .i64 n, .int .i64 c1, .int .i64 c2, .int .i64 c3]] w fun e w' => MdR w w' (repl l t 0 [(c1, c2, c3)]) e := by
  have hT' := hide hT
  have L0 := clen_nonneg hT.2.1
  have L1 := hT.2.2
  have hW : Below w.heap.size w ((w.alloc (.cells #[.slice (some ⟨b, o, none⟩) l.length cap, .int .i64 (clen l)] 63)).alloc (.cells #[.int .i64 t, .int .i64 n, .int .i64 c1, .int .i64 c2, .int .i64 c3] 57)) := ((Below.refl _ _).alloc (Nat.le_refl _) _).alloc (by simp) _
  have hW2 := hide (below_lit hW (o := .cells #[.int .i64 c1, .int .i64 c2, .int .i64 c3] 26))
  have K1 := hide (hk.below (unhide hW2))
  have K2 := kls_litT (w := ((w.alloc (.cells #[.slice (some ⟨b, o, none⟩) l.length cap, .int .i64 (clen l)] 63)).alloc (.cells #[.int .i64 t, .int .i64 n, .int .i64 c1, .int .i64 c2, .int .i64 c3] 57))) (T := 26) (c1 := c1) (c2 := c2) (c3 := c3)
  rw [show ((w.alloc (.cells #[.slice (some ⟨b, o, none⟩) l.length cap, .int .i64 (clen l)] 63)).alloc (.cells #[.int .i64 t, .int .i64 n, .int .i64 c1, .int .i64 c2, .int .i64 c3] 57)).heap.size = w.heap.size + 1 + 1 by simp] at K2
  replace K2 := hide K2
  clear hk hW hT
  go_enter Try.func69, Try.ntmps69
  go_wp2_with fail
  refine (repl_any (some ⟨b, o, none⟩) cap l t 0 _ _ [(c1, c2, c3)] _ (unhide hT') (by simp) (unhide K1) (unhide K2) (fun h => by cases h)).mono ?_
  rintro e w2 hE
  obtain ⟨v, rfl, E⟩ := mdR_from hE (unhide hW2)
  go_wp2
  exact bodyPost_ret (v := .tuple #[v, .bool (repl l t 0 [(c1, c2, c3)]).isSome]) (by simp [results, Try.results69, go_sem]) rfl ⟨v, rfl, E⟩

end Go.Proofs.Ytnmahojdaodlgaa
