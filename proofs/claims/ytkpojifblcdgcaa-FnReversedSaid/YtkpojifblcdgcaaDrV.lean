/-
  The model's draw for Reverse: its contract: a list of clips of its own, whatever is in it.
-/
import Derived.Test.YtkpojifblcdgcaaDrT
import Derived.Test.YtkpojifblcdgcaaSRw
namespace Go.Proofs.Ytkpojifblcdgcaa
open Go.RowKit
set_option linter.unusedVariables false
set_option linter.unusedSimpArgs false

set_option maxHeartbeats 3200000 in
theorem drv_any (a : Option Addr) (len cap : Nat) (w : World) (hl2 : len ≤ 1000000) (hr : RdB w w.heap.size a len) :
    Calls Try.prog 5 #[.slice a len cap] w fun e w' => ∃ r c n, e = .returned (.slice (some ⟨r, 0, none⟩) n c) ∧ n ≤ 2000 ∧ (∃ L : List Kl, L.length = n ∧ Own w' w.heap.size r n c L) ∧ Below w.heap.size w w' := by
  have hl : len ≤ 9223372036854775807 := by omega
  have hr' := hide hr
  clear hr
  go_enter Try.func5, Try.ntmps5
  go_wp2_with fail
  refine (new_any a len cap w hl hl2 (unhide hr')).mono ?_
  rintro e w1 ⟨g, rfl, hB, hcu, hb1⟩
  have hcu' := hide hcu
  have hrd := hide ((unhide hr').grown (grown_below hb1) hB)
  have hb1' := hide hb1
  have hgl : g < w1.heap.size := hcu.lt
  clear hcu hb1 hr'
  go_wp2_with fail
  refine (dtrack_any w.heap.size g a len cap w1 hB hl (unhide hcu') (unhide hrd)).mono ?_
  rintro e w2 ⟨r, c, L, rfl, hn, hTS⟩
  obtain ⟨n, hLn⟩ : ∃ n, L.length = n := ⟨_, rfl⟩
  rw [hLn] at hTS hn ⊢
  have hO := hide hTS.ow
  have hD := hide hTS.ds
  have hwr := own_ge (unhide hO)
  have hrg : r ≠ g := by omega
  have hLn' := hide hLn
  clear hTS hcu' hrd hLn
  go_wp2_with fail
  refine (once_any w.heap.size g a len cap 20 _ hB hl (unhide hD).cur (unhide hD).rd (by omega)).mono ?_
  rintro e w3 ⟨v, rfl, hcu, hgr⟩
  have hO := hide (own_kept (unhide hO) hgr (by omega))
  have hD := hide ((unhide hD).step hB hcu hgr)
  clear hcu hgr
  cases v with
  | false =>
    have hfin := hide (below_grown (unhide hb1') (unhide hD).gr hB)
    have hof := hide (own_mono (unhide hO) (unhide hb1').size)
    clear hO hD
    go_wp2
    go_ret
    exact ⟨r, c, n, rfl, by omega, ⟨L, unhide hLn', unhide hof⟩, unhide hfin⟩
  | true =>
    have hAl : Below w3.heap.size w3 (w3.alloc (.cells #[.int .i64 2000, .int .i64 250, .int .i64 280, .int .i64 299, .int .i64 300] 2)) := (Below.refl _ _).alloc (Nat.le_refl _) _
    have hO := hide (ownsRow_below (unhide hO) hAl)
    have hlg : w3.heap.size ≠ g := by have := (unhide hD).cur.lt; omega
    have hD := hide ((unhide hD).later hB hAl)
    have hl5 := fun k hk => lit5 (w := w3) (T := 2) (k := k) (a0 := 2000) (a1 := 250) (a2 := 280) (a3 := 299) (a4 := 300) hk
    clear hAl
    go_wp2_with fail
    refine (below_any w.heap.size g a len cap 5 _ hB hl (unhide hD).cur (unhide hD).rd (by omega)).mono ?_
    rintro e w4 ⟨d, rfl, d0, d1, hcu, hgr⟩
    obtain ⟨m, rfl⟩ : ∃ m : Nat, d = m := ⟨d.toNat, by omega⟩
    obtain ⟨u, hu⟩ := hl5 m (by omega)
    have hu2 := grown_cell hgr hlg hu
    have hO := hide (own_kept (unhide hO) hgr (by omega))
    have hD := hide ((unhide hD).step hB hcu hgr)
    clear hcu hgr hu hl5 hlg
    have hws := (unhide hD).gr.size
    go_wp2_with (at_builtin; refine wpList_kg Try.underlying24 (X := w4) (B := w1.heap.size) (g := r) (n := n) (cap := c) (L := L) rfl _ _ rfl rfl (unhide hO) w4.heap.size rfl rfl (by omega) hws ?_)
    intro r' c' w' hown' hgr' hg'
    have hb2 : Below w1.heap.size w4 w' := (Below.refl w1.heap.size w4).grown hgr' hws (fun k hk => by injection hk with hk; omega)
    have hfin := hide ((below_grown (unhide hb1') (unhide hD).gr hB).trans (hb2.mono (unhide hb1').size))
    have hof := hide (own_mono hown' (unhide hb1').size)
    clear hO hD hown' hgr' hg' hb2
    go_wp2
    go_ret
    exact ⟨r', c', n + 1, rfl, by omega, ⟨_, own_len (unhide hof), unhide hof⟩, unhide hfin⟩
end Go.Proofs.Ytkpojifblcdgcaa
