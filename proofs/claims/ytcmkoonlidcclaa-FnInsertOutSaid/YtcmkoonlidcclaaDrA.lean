/-
  Contracts of the model's draws for Extract and Lift: they answer some list of clips in memory of its own and two numbers, and write into nothing that was there.
-/
import Derived.Test.YtcmkoonlidcclaaDrT
namespace Go.Proofs.Ytcmkoonlidcclaa
open Go.RowKit
set_option linter.unusedVariables false
set_option linter.unusedSimpArgs false

set_option maxHeartbeats 1600000 in
theorem dat_any (B g : Nat) (a : Option Addr) (len cap : Nat) (ta : Option Addr) (ct : Nat) (L : List Kl) (w : World) (hB : B ≤ g) (hl : len ≤ 9223372036854775807) (hc : CurAt w g a len cap) (hr : RdB w B a len) (hL : L.length ≤ 1000) (hk : Kls w ta L) :
    Calls Try.prog 24 #[.pointer (some ⟨g, 0, none⟩), .slice ta L.length ct] w fun e w' => ∃ x : Int, e = .returned (.int .i64 x) ∧ CurAt w' g a len cap ∧ w.grownBy w' (some g) := by
  have hk' := hide hk
  have D0 := hide (show DS w B g a len cap w from ⟨hc, hr, World.grownBy.refl _ _⟩)
  have hmx : L.length ≤ maxLen := by unfold maxLen; omega
  have hg := hc.lt
  clear hk hc hr
  by_cases hT : TOk L
  · have hd := hide (decide_eq_true hT)
    have hT' := hide hT
    have L0 := clen_nonneg hT.2.1
    have L1 := hT.2.2
    clear hT
    go_enter Try.func24, Try.ntmps24
    go_wp2_with fail
    refine (strack_any ta ct L true _ hmx (unhide hk') (unhide hd)).mono ?_
    rintro e w1 ⟨rfl, hb⟩
    have D1 := hide ((unhide D0).later hB hb)
    have K1 := hide ((unhide hk').below hb)
    clear hb D0
    go_wp2_with fail
    refine (slen_any ta ct L _ (by omega) (unhide hT').2.1 (unhide K1)).mono ?_
    rintro e w2 ⟨rfl, rfl⟩
    obtain ⟨n, hn⟩ : ∃ n, n = clen L := ⟨_, rfl⟩
    rw [← hn] at L0 L1 ⊢
    clear hn
    go_wp2_with fail
    refine (once_any B g a len cap 16 _ hB hl (unhide D1).cur (unhide D1).rd (by omega)).mono ?_
    rintro e w3 ⟨q, rfl, k1, g1⟩
    have D3 := hide ((unhide D1).step hB k1 g1)
    clear k1 g1 D1
    cases q with
    | false =>
      go_wp2_with fail
      refine (below_any B g a len cap (n + 1) _ hB hl (unhide D3).cur (unhide D3).rd (by omega)).mono ?_
      rintro e w4 ⟨x, rfl, x0, x1, k1, g1⟩
      have D4 := hide ((unhide D3).step hB k1 g1)
      clear k1 g1 D3
      go_wp2
      go_ret
      exact ⟨x, rfl, (unhide D4).cur, (unhide D4).gr⟩
    | true =>
      have hAl : Below w3.heap.size w3 (w3.alloc (.cells #[.int .i64 (-1), .int .i64 n, .int .i64 (n + 1), .int .i64 4611686018427387904] 2)) := (Below.refl _ _).alloc (Nat.le_refl _) _
      have D4 := hide ((unhide D3).later hB hAl)
      have hlg : w3.heap.size ≠ g := by have := (unhide D3).cur.lt; omega
      have hl5 := fun k hk => lit4 (w := w3) (T := 2) (k := k) (a0 := -1) (a1 := n) (a2 := n + 1) (a3 := 4611686018427387904) hk
      clear hAl D3
      go_wp2_with fail
      refine (below_any B g a len cap 4 _ hB hl (unhide D4).cur (unhide D4).rd (by omega)).mono ?_
      rintro e w5 ⟨d, rfl, d0, d1, k1, g1⟩
      obtain ⟨m, rfl⟩ : ∃ m : Nat, d = m := ⟨d.toNat, by omega⟩
      obtain ⟨u, hu⟩ := hl5 m (by omega)
      have hu2 := grown_cell g1 hlg hu
      have D5 := hide ((unhide D4).step hB k1 g1)
      clear k1 g1 D4 hu hl5
      go_wp2
      go_ret
      exact ⟨u, rfl, (unhide D5).cur, (unhide D5).gr⟩
  · have hd := hide (decide_eq_false hT)
    clear hT
    go_enter Try.func24, Try.ntmps24
    go_wp2_with fail
    refine (strack_any ta ct L false _ hmx (unhide hk') (unhide hd)).mono ?_
    rintro e w2 ⟨rfl, hb⟩
    have D1 := hide ((unhide D0).later hB hb)
    clear hb D0
    go_wp2_with fail
    refine (once_any B g a len cap 16 _ hB hl (unhide D1).cur (unhide D1).rd (by omega)).mono ?_
    rintro e w3 ⟨q, rfl, k1, g1⟩
    have D3 := hide ((unhide D1).step hB k1 g1)
    clear k1 g1 D1
    cases q with
    | false =>
      go_wp2_with fail
      refine (below_any B g a len cap 11 _ hB hl (unhide D3).cur (unhide D3).rd (by omega)).mono ?_
      rintro e w4 ⟨x, rfl, x0, x1, k1, g1⟩
      have D4 := hide ((unhide D3).step hB k1 g1)
      clear k1 g1 D3
      go_wp2
      go_ret
      exact ⟨x, rfl, (unhide D4).cur, (unhide D4).gr⟩
    | true =>
      have hAl : Below w3.heap.size w3 (w3.alloc (.cells #[.int .i64 (-1), .int .i64 10, .int .i64 11, .int .i64 4611686018427387904] 2)) := (Below.refl _ _).alloc (Nat.le_refl _) _
      have D4 := hide ((unhide D3).later hB hAl)
      have hlg : w3.heap.size ≠ g := by have := (unhide D3).cur.lt; omega
      have hl5 := fun k hk => lit4 (w := w3) (T := 2) (k := k) (a0 := -1) (a1 := 10) (a2 := 11) (a3 := 4611686018427387904) hk
      clear hAl D3
      go_wp2_with fail
      refine (below_any B g a len cap 4 _ hB hl (unhide D4).cur (unhide D4).rd (by omega)).mono ?_
      rintro e w5 ⟨d, rfl, d0, d1, k1, g1⟩
      obtain ⟨m, rfl⟩ : ∃ m : Nat, d = m := ⟨d.toNat, by omega⟩
      obtain ⟨u, hu⟩ := hl5 m (by omega)
      have hu2 := grown_cell g1 hlg hu
      have D5 := hide ((unhide D4).step hB k1 g1)
      clear k1 g1 D4 hu hl5
      go_wp2
      go_ret
      exact ⟨u, rfl, (unhide D5).cur, (unhide D5).gr⟩

theorem below_gr {W w w1 : World} {g : Nat} (h : Below W.heap.size W w) (hg : w.grownBy w1 (some g)) (hB : W.heap.size ≤ g) : Below W.heap.size W w1 := below_grown h hg hB

end Go.Proofs.Ytcmkoonlidcclaa
