/-
  The program's edits of a track that was opened; the answer is new memory, nothing that was there is written.
-/
import Derived.Test.YtnmahojdaodlgaaMthA
namespace Go.Proofs.Ytnmahojdaodlgaa
open Go.RowKit
set_option linter.unusedVariables false
set_option linter.unusedSimpArgs false

set_option maxHeartbeats 400000 in
theorem ovr_any (b o cap : Nat) (l : List Kl) (t n c1 c2 c3 : Int) (w : World) (hT : TOk l) (hk : Kls w (some ⟨b, o, none⟩) l) :
    Calls Try.prog 72 #[.agg #[.slice (some ⟨b, o, none⟩) l.length cap, .int .i64 (clen l)], .agg #[.int .i64 t, .int .i64 n, .int .i64 c1, .int .i64 c2, .int .i64 c3]] w fun e w' => MdR w w' (repl l t (min c3 (clen l - t)) [(c1, c2, c3)]) e := by
  have hT' := hide hT
  have L0 := clen_nonneg hT.2.1
  have L1 := hT.2.2
  have hW : Below w.heap.size w ((w.alloc (.cells #[.slice (some ⟨b, o, none⟩) l.length cap, .int .i64 (clen l)] 63)).alloc (.cells #[.int .i64 t, .int .i64 n, .int .i64 c1, .int .i64 c2, .int .i64 c3] 57)) := ((Below.refl _ _).alloc (Nat.le_refl _) _).alloc (by simp) _
  have hW2 := hide (below_lit hW (o := .cells #[.int .i64 c1, .int .i64 c2, .int .i64 c3] 26))
  have K1 := hide (hk.below (unhide hW2))
  have K2 := kls_litT (w := ((w.alloc (.cells #[.slice (some ⟨b, o, none⟩) l.length cap, .int .i64 (clen l)] 63)).alloc (.cells #[.int .i64 t, .int .i64 n, .int .i64 c1, .int .i64 c2, .int .i64 c3] 57))) (T := 26) (c1 := c1) (c2 := c2) (c3 := c3)
  rw [show ((w.alloc (.cells #[.slice (some ⟨b, o, none⟩) l.length cap, .int .i64 (clen l)] 63)).alloc (.cells #[.int .i64 t, .int .i64 n, .int .i64 c1, .int .i64 c2, .int .i64 c3] 57)).heap.size = w.heap.size + 1 + 1 by simp] at K2
  replace K2 := hide K2
  clear hk hW hT
  obtain ⟨D, hD⟩ : ∃ D, IntKind.i64.wrap (clen l - t) = D := ⟨_, rfl⟩
  by_cases hm : D < c3
  · have hfin := hide (show repl l t D [(c1, c2, c3)] = repl l t (min c3 (clen l - t)) [(c1, c2, c3)] from by
      by_cases ht : 0 ≤ t ∧ t ≤ clen l
      · have e : D = min c3 (clen l - t) := by
          have e2 : D = clen l - t := by rw [← hD, IntKind.wrap_i64]; omega
          omega
        exact congrArg (fun N => repl l t N [(c1, c2, c3)]) e
      · have hno : ∀ N, repl l t N [(c1, c2, c3)] = none := fun N => if_neg (fun h => ht h.1)
        rw [hno, hno])
    clear L0 L1
    go_enter Try.func72, Try.ntmps72
    go_wp2_with fail
    refine (repl_any (some ⟨b, o, none⟩) cap l t D _ _ [(c1, c2, c3)] _ (unhide hT') (by simp) (unhide K1) (unhide K2) (fun h => by cases h)).mono ?_
    rintro e w2 hE
    rw [unhide hfin] at hE
    obtain ⟨v, rfl, E⟩ := mdR_from hE (unhide hW2)
    go_wp2
    exact bodyPost_ret (v := .tuple #[v, .bool (repl l t (min c3 (clen l - t)) [(c1, c2, c3)]).isSome]) (by simp [results, Try.results72, go_sem]) rfl ⟨v, rfl, E⟩
  · have hm' : decide (D < c3) = false := by simpa using hm
    have hfin := hide (show repl l t c3 [(c1, c2, c3)] = repl l t (min c3 (clen l - t)) [(c1, c2, c3)] from by
      by_cases ht : 0 ≤ t ∧ t ≤ clen l
      · have e : c3 = min c3 (clen l - t) := by
          have e2 : D = clen l - t := by rw [← hD, IntKind.wrap_i64]; omega
          omega
        exact congrArg (fun N => repl l t N [(c1, c2, c3)]) e
      · have hno : ∀ N, repl l t N [(c1, c2, c3)] = none := fun N => if_neg (fun h => ht h.1)
        rw [hno, hno])
    clear L0 L1
    go_enter Try.func72, Try.ntmps72
    go_wp2_with fail
    refine (repl_any (some ⟨b, o, none⟩) cap l t c3 _ _ [(c1, c2, c3)] _ (unhide hT') (by simp) (unhide K1) (unhide K2) (fun h => by cases h)).mono ?_
    rintro e w2 hE
    rw [unhide hfin] at hE
    obtain ⟨v, rfl, E⟩ := mdR_from hE (unhide hW2)
    go_wp2
    exact bodyPost_ret (v := .tuple #[v, .bool (repl l t (min c3 (clen l - t)) [(c1, c2, c3)]).isSome]) (by simp [results, Try.results72, go_sem]) rfl ⟨v, rfl, E⟩

end Go.Proofs.Ytnmahojdaodlgaa
