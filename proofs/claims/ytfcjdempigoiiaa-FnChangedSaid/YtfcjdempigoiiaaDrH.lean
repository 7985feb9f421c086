/-
  Contract of the model's draw for Changes: it answers two lists of clips in memory of their own, and writes into nothing that was there.
-/
import Derived.Test.YtfcjdempigoiiaaDrN
namespace Go.Proofs.Ytfcjdempigoiiaa
open Go.RowKit
set_option linter.unusedVariables false
set_option linter.unusedSimpArgs false

/-- two lists of clips that were drawn -/
def DrT2 (w w' : World) (G c : Nat) (L : List Kl) (H d : Nat) (M : List Kl) : Prop :=
  L.length ≤ 1000 ∧ M.length ≤ 1000 ∧ Own w' w.heap.size G L.length c L ∧ Own w' w.heap.size H M.length d M ∧ Below w.heap.size w w'

set_option maxHeartbeats 3200000 in
theorem dchg_any (a : Option Addr) (len cap : Nat) (w : World) (hl : len ≤ 4096) (hr : RdB w w.heap.size a len) :
    Calls Try.prog 6 #[.slice a len cap] w fun e w' => ∃ G c L H d M, e = .returned (.tuple #[.slice (some ⟨G, 0, none⟩) L.length c, .slice (some ⟨H, 0, none⟩) M.length d]) ∧ DrT2 w w' G c L H d M := by
  have hl' : len ≤ 9223372036854775807 := by omega
  have hr' := hide hr
  clear hr
  go_enter Try.func6, Try.ntmps6
  go_wp2_with fail
  refine (new_any a len cap w hl' (by omega) (unhide hr')).mono ?_
  rintro e w1 ⟨g, rfl, hg0, hcur, hb1⟩
  have r1 : RdB w1 w.heap.size a len := by
    intro j hj
    obtain ⟨b, o, z, e, hb, hc, h0, h1⟩ := unhide hr' j hj
    exact ⟨b, o, z, e, hb, ((bcell hb1).1 _ _ hb).trans hc, h0, h1⟩
  have D1 := hide (show DS w1 w.heap.size g a len cap w1 from ⟨hcur, r1, World.grownBy.refl _ _⟩)
  have H1 := hide hb1
  have hs1 := hb1.size
  have hg1 := hcur.lt
  clear hcur r1 hb1 hr'
  go_wp2_with fail
  refine (dtrack_any w.heap.size g a len cap _ hg0 hl' (unhide D1).cur (unhide D1).rd).mono ?_
  rintro e w2 ⟨G, c, L, rfl, hLl, T⟩
  have T2 := hide T
  clear T D1
  go_wp2_with fail
  refine (once_any w.heap.size g a len cap 4 _ hg0 hl' (unhide T2).ds.cur (unhide T2).ds.rd (by omega)).mono ?_
  rintro e w3 ⟨q, rfl, k3, g3⟩
  have T3 := hide ((unhide T2).call hg0 hg1 k3 g3)
  clear k3 g3 T2
  cases q with
  | true =>
    go_wp2_with fail
    refine (dtrack_any w.heap.size g a len cap _ hg0 hl' (unhide T3).ds.cur (unhide T3).ds.rd).mono ?_
    rintro e w4 ⟨H, d, M, rfl, hMl, T⟩
    have T4 := hide ((unhide T3).call hg0 hg1 T.ds.cur T.ds.gr)
    have hF := hide (show DrT2 w w4 G c L H d M from ⟨hLl, hMl, own_mono (unhide T4).ow hs1, own_mono T.ow (Nat.le_trans hs1 (unhide T3).ds.gr.size), below_grown (unhide H1) (unhide T4).ds.gr hg0⟩)
    clear T T4 T3
    go_wp2
    exact bodyPost_ret (v := .tuple #[.slice (some ⟨G, 0, none⟩) L.length c, .slice (some ⟨H, 0, none⟩) M.length d]) (by simp [results, Try.results6, go_sem]) rfl ⟨G, c, L, H, d, M, rfl, unhide hF⟩
  | false =>
    go_wp2_with fail
    refine (dnext_any w.heap.size g a len cap (some ⟨G, 0, none⟩) c L _ hg0 hl' (unhide T3).ds.cur (unhide T3).ds.rd hLl (kls_own (unhide T3).ow)).mono ?_
    rintro e w4 ⟨H, d, M, rfl, hMl, T⟩
    have T4 := hide ((unhide T3).call hg0 hg1 T.ds.cur T.ds.gr)
    have hF := hide (show DrT2 w w4 G c L H d M from ⟨hLl, hMl, own_mono (unhide T4).ow hs1, own_mono T.ow (Nat.le_trans hs1 (unhide T3).ds.gr.size), below_grown (unhide H1) (unhide T4).ds.gr hg0⟩)
    clear T T4 T3
    go_wp2
    exact bodyPost_ret (v := .tuple #[.slice (some ⟨G, 0, none⟩) L.length c, .slice (some ⟨H, 0, none⟩) M.length d]) (by simp [results, Try.results6, go_sem]) rfl ⟨G, c, L, H, d, M, rfl, unhide hF⟩

end Go.Proofs.Ytfcjdempigoiiaa
