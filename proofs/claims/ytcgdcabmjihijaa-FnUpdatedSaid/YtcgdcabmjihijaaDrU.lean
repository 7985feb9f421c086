/-
  The draw of two packages: the contract; nothing that was there is written.
-/
import Derived.Test.YtcgdcabmjihijaaDrP
import Derived.Test.YtcgdcabmjihijaaUi
import Derived.Test.YtcgdcabmjihijaaUs
import Derived.Test.YtcgdcabmjihijaaUdP
namespace Go.Proofs.Ytcgdcabmjihijaa
open Go.RowKit
set_option linter.unusedVariables false
set_option linter.unusedSimpArgs false

theorem rdb_later {W w1 : World} {a : Option Addr} {len : Nat} (h : RdB W W.heap.size a len) (hb : Below W.heap.size W w1) : RdB w1 W.heap.size a len := by
  intro j hj
  obtain ⟨b, o, z, e, hb2, hc, h0, h1⟩ := h j hj
  exact ⟨b, o, z, e, hb2, (hb.cell (p := ⟨b, o + j, none⟩) (by show b < _; omega)).trans hc, h0, h1⟩
/-- two packages are drawn -/
def An2 (W : World) (e : Ending) (w' : World) : Prop := ∃ g1 n1 c1 l g2 n2 c2 m, e = .returned (.tuple #[.slice (some ⟨g1, 0, none⟩) n1 c1, .slice (some ⟨g2, 0, none⟩) n2 c2]) ∧ n1 ≤ 200 ∧ n2 ≤ 200 ∧ Own w' W.heap.size g1 n1 c1 l ∧ Own w' W.heap.size g2 n2 c2 m ∧ (∀ x ∈ l, x.1.size ≤ 41) ∧ (∀ x ∈ m, x.1.size ≤ 41) ∧ Below W.heap.size W w'
set_option maxRecDepth 100000 in
set_option maxHeartbeats 1600000 in
theorem dupd_any (a : Option Addr) (len cap : Nat) (W : World) (hl2 : len ≤ 4096) (hr : RdB W W.heap.size a len) :
    Calls Try.prog 5 #[.slice a len cap] W (An2 W) := by
  have hlen : len ≤ 9223372036854775807 := by omega
  have hr' := hide hr
  go_enter Try.func5, Try.ntmps5
  go_wp2_with fail
  refine (new_any a len cap W hlen (by omega) hr).mono ?_
  rintro e w1 ⟨g, rfl, hg0, hc1, hb1⟩
  have hc1 := hide hc1
  have hb1 := hide hb1
  clear hr
  go_wp2_with fail
  refine (dpk_any W.heap.size g a len cap w1 hg0 (unhide hb1).size hlen (unhide hc1) (rdb_later (unhide hr') (unhide hb1))).mono ?_
  rintro e w2 ⟨g1, n1, c1, l, rfl, hn1, K1⟩
  have K1 := hide K1
  have hs1 := (unhide K1).ds.gr.size
  have hbz := (unhide hb1).size
  go_wp2_with fail
  refine (dpk_any W.heap.size g a len cap w2 hg0 (by omega) hlen (unhide K1).ds.cur (unhide K1).ds.rd).mono ?_
  rintro e w3 ⟨g2, n2, c2, m, rfl, hn2, K2⟩
  have hfin := hide (show An2 W (.returned (.tuple #[.slice (some ⟨g1, 0, none⟩) n1 c1, .slice (some ⟨g2, 0, none⟩) n2 c2])) w3 from
    ⟨g1, n1, c1, l, g2, n2, c2, m, rfl, hn1, hn2, own_mono (own_kept (unhide K1).ow K2.ds.gr (by have h1 := own_ge (unhide K1).ow; have h2 := (unhide hc1).lt; omega)) hbz, own_mono K2.ow (by omega), (unhide K1).sz, K2.sz, below_grown (below_grown (unhide hb1) (unhide K1).ds.gr hg0) K2.ds.gr hg0⟩)
  clear K1 K2 hc1 hb1
  go_wp2
  go_ret2
  exact unhide hfin

end Go.Proofs.Ytcgdcabmjihijaa
