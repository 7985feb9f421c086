/-
  Contracts of the model's draws for Extract and Lift: they answer some list of clips in memory of its own and two numbers, and write into nothing that was there.
-/
import Derived.Test.YtnmahojdaodlgaaDrT
namespace Go.Proofs.Ytnmahojdaodlgaa
open Go.RowKit
set_option linter.unusedVariables false
set_option linter.unusedSimpArgs false

set_option maxHeartbeats 1600000 in
theorem dat_any (B g : Nat) (a : Option Addr) (len cap : Nat) (ta : Option Addr) (ct : Nat) (L : List Kl) (w : World) (hB : B ≤ g) (hl : len ≤ 9223372036854775807) (hc : CurAt w g a len cap) (hr : RdB w B a len) (hL : L.length ≤ 1000) (hk : Kls w ta L) :
    Calls Try.prog 50 #[.pointer (some ⟨g, 0, none⟩), .slice ta L.length ct] w fun e w' => ∃ x : Int, e = .returned (.int .i64 x) ∧ CurAt w' g a len cap ∧ w.grownBy w' (some g) := by
  have hk' := hide hk
  have D0 := hide (show DS w B g a len cap w from ⟨hc, hr, World.grownBy.refl _ _⟩)
  have hmx : L.length ≤ maxLen := by unfold maxLen; omega
  have hg := hc.lt
  clear hk hc hr
  by_cases hT : TOk L
  · have hd := hide (decide_eq_true hT)
    have hT' := hide hT
    have L0 := clen_nonneg hT.2.1
    have L1 := hT.2.2
    clear hT
    go_enter Try.func50, Try.ntmps50
    go_wp2_with fail
    refine (strack_any ta ct L true _ hmx (unhide hk') (unhide hd)).mono ?_
    rintro e w1 ⟨rfl, hb⟩
    have D1 := hide ((unhide D0).later hB hb)
    have K1 := hide ((unhide hk').below hb)
    clear hb D0
    go_wp2_with fail
    refine (slen_any ta ct L _ (by omega) (unhide hT').2.1 (unhide K1)).mono ?_
    rintro e w2 ⟨rfl, rfl⟩
    obtain ⟨n, hn⟩ : ∃ n, n = clen L := ⟨_, rfl⟩
    rw [← hn] at L0 L1 ⊢
    clear hn
    go_wp2_with fail
    refine (once_any B g a len cap 16 _ hB hl (unhide D1).cur (unhide D1).rd (by omega)).mono ?_
    rintro e w3 ⟨q, rfl, k1, g1⟩
    have D3 := hide ((unhide D1).step hB k1 g1)
    clear k1 g1 D1
    cases q with
    | false =>
      go_wp2_with fail
      refine (below_any B g a len cap (n + 1) _ hB hl (unhide D3).cur (unhide D3).rd (by omega)).mono ?_
      rintro e w4 ⟨x, rfl, x0, x1, k1, g1⟩
      have D4 := hide ((unhide D3).step hB k1 g1)
      clear k1 g1 D3
      go_wp2
      go_ret
      exact ⟨x, rfl, (unhide D4).cur, (unhide D4).gr⟩
    | true =>
      have hAl : Below w3.heap.size w3 (w3.alloc (.cells #[.int .i64 (-1), .int .i64 n, .int .i64 (n + 1), .int .i64 4611686018427387904] 2)) := (Below.refl _ _).alloc (Nat.le_refl _) _
      have D4 := hide ((unhide D3).later hB hAl)
      have hlg : w3.heap.size ≠ g := by have := (unhide D3).cur.lt; omega
      have hl5 := fun k hk => lit4 (w := w3) (T := 2) (k := k) (a0 := -1) (a1 := n) (a2 := n + 1) (a3 := 4611686018427387904) hk
      clear hAl D3
      go_wp2_with fail
      refine (below_any B g a len cap 4 _ hB hl (unhide D4).cur (unhide D4).rd (by omega)).mono ?_
      rintro e w5 ⟨d, rfl, d0, d1, k1, g1⟩
      obtain ⟨m, rfl⟩ : ∃ m : Nat, d = m := ⟨d.toNat, by omega⟩
      obtain ⟨u, hu⟩ := hl5 m (by omega)
      have hu2 := grown_cell g1 hlg hu
      have D5 := hide ((unhide D4).step hB k1 g1)
      clear k1 g1 D4 hu hl5
      go_wp2
      go_ret
      exact ⟨u, rfl, (unhide D5).cur, (unhide D5).gr⟩
  · have hd := hide (decide_eq_false hT)
    clear hT
    go_enter Try.func50, Try.ntmps50
    go_wp2_with fail
    refine (strack_any ta ct L false _ hmx (unhide hk') (unhide hd)).mono ?_
    rintro e w2 ⟨rfl, hb⟩
    have D1 := hide ((unhide D0).later hB hb)
    clear hb D0
    go_wp2_with fail
    refine (once_any B g a len cap 16 _ hB hl (unhide D1).cur (unhide D1).rd (by omega)).mono ?_
    rintro e w3 ⟨q, rfl, k1, g1⟩
    have D3 := hide ((unhide D1).step hB k1 g1)
    clear k1 g1 D1
    cases q with
    | false =>
      go_wp2_with fail
      refine (below_any B g a len cap 11 _ hB hl (unhide D3).cur (unhide D3).rd (by omega)).mono ?_
      rintro e w4 ⟨x, rfl, x0, x1, k1, g1⟩
      have D4 := hide ((unhide D3).step hB k1 g1)
      clear k1 g1 D3
      go_wp2
      go_ret
      exact ⟨x, rfl, (unhide D4).cur, (unhide D4).gr⟩
    | true =>
      have hAl : Below w3.heap.size w3 (w3.alloc (.cells #[.int .i64 (-1), .int .i64 10, .int .i64 11, .int .i64 4611686018427387904] 2)) := (Below.refl _ _).alloc (Nat.le_refl _) _
      have D4 := hide ((unhide D3).later hB hAl)
      have hlg : w3.heap.size ≠ g := by have := (unhide D3).cur.lt; omega
      have hl5 := fun k hk => lit4 (w := w3) (T := 2) (k := k) (a0 := -1) (a1 := 10) (a2 := 11) (a3 := 4611686018427387904) hk
      clear hAl D3
      go_wp2_with fail
      refine (below_any B g a len cap 4 _ hB hl (unhide D4).cur (unhide D4).rd (by omega)).mono ?_
      rintro e w5 ⟨d, rfl, d0, d1, k1, g1⟩
      obtain ⟨m, rfl⟩ : ∃ m : Nat, d = m := ⟨d.toNat, by omega⟩
      obtain ⟨u, hu⟩ := hl5 m (by omega)
      have hu2 := grown_cell g1 hlg hu
      have D5 := hide ((unhide D4).step hB k1 g1)
      clear k1 g1 D4 hu hl5
      go_wp2
      go_ret
      exact ⟨u, rfl, (unhide D5).cur, (unhide D5).gr⟩

theorem below_gr {W w w1 : World} {g : Nat} (h : Below W.heap.size W w) (hg : w.grownBy w1 (some g)) (hB : W.heap.size ≤ g) : Below W.heap.size W w1 := below_grown h hg hB

set_option maxHeartbeats 3200000 in
theorem dext_any (a : Option Addr) (len cap : Nat) (w : World) (hl : len ≤ 4096) (hr : RdB w w.heap.size a len) :
    Calls Try.prog 59 #[.slice a len cap] w fun e w' => ∃ G c L, ∃ t n : Int, e = .returned (.tuple #[.slice (some ⟨G, 0, none⟩) L.length c, .int .i64 t, .int .i64 n]) ∧ L.length ≤ 1000 ∧ Own w' w.heap.size G L.length c L ∧ Below w.heap.size w w' := by
  have hl' : len ≤ 9223372036854775807 := by omega
  have hr' := hide hr
  clear hr
  go_enter Try.func59, Try.ntmps59
  go_wp2_with fail
  refine (new_any a len cap _ hl' (by omega) (unhide hr')).mono ?_
  rintro e w1 ⟨g, rfl, hg0, hcur, hb1⟩
  have hB : w.heap.size ≤ g := hg0
  have r1 : RdB w1 w.heap.size a len := by
    intro j hj
    obtain ⟨b, o, z, e, hb, hc, h0, h1⟩ := unhide hr' j hj
    exact ⟨b, o, z, e, hb, ((bcell hb1).1 _ _ hb).trans hc, h0, h1⟩
  have D1 := hide (show DS w1 w.heap.size g a len cap w1 from ⟨hcur, r1, World.grownBy.refl _ _⟩)
  have H1 := hide hb1
  have hg1 := hcur.lt
  clear hcur r1 hb1
  go_wp2_with fail
  refine (dtrack_any w.heap.size g a len cap _ hB hl' (unhide D1).cur (unhide D1).rd).mono ?_
  rintro e w2 ⟨G, c, L, rfl, hLl, T⟩
  have T2 := hide T
  clear T D1
  go_wp2_with fail
  refine (dat_any w.heap.size g a len cap (some ⟨G, 0, none⟩) c L _ hB hl' (unhide T2).ds.cur (unhide T2).ds.rd hLl (kls_own (unhide T2).ow)).mono ?_
  rintro e w3 ⟨t, rfl, k1, g1⟩
  have T3 := hide ((unhide T2).call hB hg1 k1 g1)
  clear k1 g1 T2
  go_wp2_with fail
  refine (below_any w.heap.size g a len cap 20 _ hB hl' (unhide T3).ds.cur (unhide T3).ds.rd (by omega)).mono ?_
  rintro e w4 ⟨m, rfl, m0, m1, k1, g1⟩
  have T4 := hide ((unhide T3).call hB hg1 k1 g1)
  clear k1 g1 T3
  go_wp2_with fail
  refine (once_any w.heap.size g a len cap 12 _ hB hl' (unhide T4).ds.cur (unhide T4).ds.rd (by omega)).mono ?_
  rintro e w5 ⟨q, rfl, k1, g1⟩
  have T5 := hide ((unhide T4).call hB hg1 k1 g1)
  clear k1 g1 T4
  have hw1 := (unhide H1).size
  cases q with
  | false =>
    have hF := hide (show Own w5 w.heap.size G L.length c L ∧ Below w.heap.size w w5 from ⟨own_mono (unhide T5).ow hw1, below_gr (unhide H1) (unhide T5).ds.gr hB⟩)
    clear T5
    go_wp2
    exact bodyPost_ret (v := .tuple #[.slice (some ⟨G, 0, none⟩) L.length c, .int .i64 t, .int .i64 (1 + m)]) (by simp [results, Try.results59, go_sem]) rfl ⟨G, c, L, t, 1 + m, rfl, hLl, (unhide hF).1, (unhide hF).2⟩
  | true =>
    have hAl : Below w5.heap.size w5 (w5.alloc (.cells #[.int .i64 0, .int .i64 (-1), .int .i64 4611686018427387904, .int .i64 10000000] 2)) := (Below.refl _ _).alloc (Nat.le_refl _) _
    have T6 := hide ((unhide T5).later hB hAl)
    have hlg : w5.heap.size ≠ g := by have := (unhide T5).ds.cur.lt; omega
    have hl5 := fun k hk => lit4 (w := w5) (T := 2) (k := k) (a0 := 0) (a1 := -1) (a2 := 4611686018427387904) (a3 := 10000000) hk
    clear hAl T5
    go_wp2_with fail
    refine (below_any w.heap.size g a len cap 4 _ hB hl' (unhide T6).ds.cur (unhide T6).ds.rd (by omega)).mono ?_
    rintro e w6 ⟨d, rfl, d0, d1, k1, g1⟩
    obtain ⟨j, rfl⟩ : ∃ j : Nat, d = j := ⟨d.toNat, by omega⟩
    obtain ⟨u, hu⟩ := hl5 j (by omega)
    have hu2 := grown_cell g1 hlg hu
    have T7 := hide ((unhide T6).call hB hg1 k1 g1)
    have hF := hide (show Own w6 w.heap.size G L.length c L ∧ Below w.heap.size w w6 from ⟨own_mono (unhide T7).ow hw1, below_gr (unhide H1) (unhide T7).ds.gr hB⟩)
    clear k1 g1 T6 T7 hu hl5
    go_wp2
    exact bodyPost_ret (v := .tuple #[.slice (some ⟨G, 0, none⟩) L.length c, .int .i64 t, .int .i64 u]) (by simp [results, Try.results59, go_sem]) rfl ⟨G, c, L, t, u, rfl, hLl, (unhide hF).1, (unhide hF).2⟩

set_option maxHeartbeats 800000 in
theorem dlift_any (a : Option Addr) (len cap : Nat) (w : World) (hl : len ≤ 4096) (hr : RdB w w.heap.size a len) :
    Calls Try.prog 24 #[.slice a len cap] w fun e w' => ∃ G c L, ∃ t n : Int, e = .returned (.tuple #[.slice (some ⟨G, 0, none⟩) L.length c, .int .i64 t, .int .i64 n]) ∧ L.length ≤ 1000 ∧ Own w' w.heap.size G L.length c L ∧ Below w.heap.size w w' := by
  have hr' := hide hr
  clear hr
  go_enter Try.func24, Try.ntmps24
  go_wp2_with fail
  refine (dext_any a len cap _ hl (unhide hr')).mono ?_
  rintro e w1 ⟨G, c, L, t, n, rfl, hL, ho, hb⟩
  have hF := hide (show Own w1 w.heap.size G L.length c L ∧ Below w.heap.size w w1 from ⟨ho, hb⟩)
  clear ho hb
  go_wp2
  exact bodyPost_ret (v := .tuple #[.slice (some ⟨G, 0, none⟩) L.length c, .int .i64 t, .int .i64 n]) (by simp [results, Try.results24, go_sem]) rfl ⟨G, c, L, t, n, rfl, hL, (unhide hF).1, (unhide hF).2⟩

end Go.Proofs.Ytnmahojdaodlgaa
