/-
  Contracts of the program's FrameAt and Length on a track; nothing that was there is written.
-/
import Derived.Test.YtkpojifblcdgcaaITk
namespace Go.Proofs.Ytkpojifblcdgcaa.Y
open Go.RowKit
open Go.Proofs.Ytkpojifblcdgcaa
set_option linter.unusedVariables false
set_option linter.unusedSimpArgs false

set_option maxHeartbeats 1600000 in
theorem ifat_any (a : Option Addr) (cap : Nat) (l : List Kl) (i : Int) (x y : Int) (w : World) (hT : TOk l) (h0 : 0 ≤ i) (h1 : i < clen l) (hk : Kls w a l) (hxy : seen l i = (x, y)) :
    Calls Try.prog 9 #[.slice a l.length cap, .int .i64 i] w fun e w' => e = .returned (.tuple #[.int .i64 x, .int .i64 y]) ∧ Below w.heap.size w w' := by
  have hop := hide (opened_ok a cap l w hT hk)
  have hfr := hide (fun (W : World) (hb : Below w.heap.size w W) => ifrm_any a cap l i (x, y, 1) W hT h0 h1 (hk.below hb) (by unfold frK; rw [hxy]))
  obtain ⟨n, hn⟩ : ∃ n, clen l = n := ⟨_, rfl⟩
  rw [hn] at hop h1
  have t0 : decide (i < 0) = false := decide_eq_false (by omega)
  have t1 : decide (n ≤ i) = false := decide_eq_false (by omega)
  clear hT hk hn hxy
  go_enter Try.func9, Try.ntmps9
  go_wp2_with fail
  refine (unhide hop).mono ?_
  rintro e w1 ⟨rfl, hb1⟩
  have H1 := hide hb1
  have H2 := hide (hb1.alloc hb1.size (.cells #[.slice a l.length cap, .int .i64 n] 43))
  clear hb1 hop
  go_wp2_with fail
  refine (unhide hfr _ (unhide H2)).mono ?_
  rintro e w2 ⟨rfl, hb2⟩
  have H3 := hide (laterB (unhide H2) hb2)
  clear hb2 H2 H1
  go_wp2_with fail
  go_quiet (fail)
  go_wp2
  exact bodyPost_ret (v := .tuple #[.int .i64 x, .int .i64 y]) (by simp [results, Try.results9, go_sem]) rfl ⟨rfl, below_drewN ((unhide H3).alloc (unhide H3).size _) _⟩

set_option maxHeartbeats 1600000 in
theorem ilen_any (a : Option Addr) (cap : Nat) (l : List Kl) (n : Int) (w : World) (hT : TOk l) (hn : clen l = n) (hk : Kls w a l) :
    Calls Try.prog 8 #[.slice a l.length cap] w fun e w' => e = .returned (.int .i64 n) ∧ Below w.heap.size w w' := by
  have hop := opened_ok a cap l w hT hk
  rw [hn] at hop
  have hop' := hide hop
  clear hT hk hn hop
  go_enter Try.func8, Try.ntmps8
  go_wp2_with fail
  refine (unhide hop').mono ?_
  rintro e w1 ⟨rfl, hb1⟩
  have H1 := hide hb1
  clear hb1 hop'
  go_wp2
  go_ret
  exact ⟨rfl, (unhide H1).alloc (unhide H1).size _⟩
end Go.Proofs.Ytkpojifblcdgcaa.Y
