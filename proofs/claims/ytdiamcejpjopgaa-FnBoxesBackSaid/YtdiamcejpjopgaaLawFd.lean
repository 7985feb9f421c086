/-
  The walk of the law on what is found, over the draws of the model.
-/
import Derived.Test.YtdiamcejpjopgaaFoundP
import Derived.Test.YtdiamcejpjopgaaIUp
import Derived.Test.YtdiamcejpjopgaaSFind
namespace Go.Proofs.Ytdiamcejpjopgaa
open Go.RowKit
set_option linter.unusedVariables false
set_option linter.unusedSimpArgs false

/-- what a draw of a list of boxes and a path gives: some list of its own, some path -/
def DrF : Prop := ∀ (a : Option Addr) (cap : Nat) (zs : List Int) (w : World), zs.length ≤ 4096 → Row false 0 w.heap.size w a zs →
  Calls Try.prog 19 #[.slice a zs.length cap] w fun e w' => ∃ v L p, e = .returned (.tuple #[v, .string p]) ∧ OwnL w' w.heap.size v L ∧ L.length ≤ 1048576 ∧ Small 1048576 (L.map (·.1)) ∧ p.size ≤ 1048576 ∧ Below w.heap.size w w'

theorem OwnL.out0 {w : World} {B : Nat} {v : Value} {L : List (Bx × (Option Addr × Nat))} {l : List Bx} (h : OwnL w B v L) (e : L.map (·.1) = l) : ∃ a cap A, v = .slice a l.length cap ∧ Bxs true B w.heap.size w a A l ∧ Dist A l.length := by
  obtain ⟨a, cap, hv, _, _, _, hb, hd⟩ := h.bxs
  have hl : L.length = l.length := by rw [← e]; simp
  rw [e] at hb
  rw [hl] at hv hd
  exact ⟨a, cap, _, hv, hb, hd⟩
set_option maxHeartbeats 800000 in
theorem big_any (a : Option Addr) (len cap : Nat) (w : World) (hl : len ≤ 9223372036854775807) :
    Calls Try.prog 10 #[.slice a len cap] w fun e w' => e = .returned (.bool (decide ((4096 : Int) < (len : Int)))) ∧ w' = w := by
  by_cases h : (4096 : Int) < (len : Int)
  · rw [decide_eq_true h]
    go_enter Try.func10, Try.ntmps10
    go_wp2
    go_ret
    exact ⟨rfl, rfl⟩
  · rw [decide_eq_false h]
    go_enter Try.func10, Try.ntmps10
    go_wp2
    go_ret
    exact ⟨rfl, rfl⟩
set_option maxRecDepth 100000 in
set_option maxHeartbeats 1600000 in
theorem lawFound (hdr : DrF) (a : Option Addr) (cap : Nat) (zs : List Int) (hm : zs.length ≤ maxLen) (w : World) (hr : Row false 0 w.heap.size w a zs) :
    Calls Try.prog 4 #[.slice a zs.length cap] w fun e w' => e = .returned (.bool true) ∧ Below w.heap.size w w' := by
  have hr' := hide hr
  have hdr' := hide hdr
  clear hr hdr
  unfold maxLen at hm
  cases hbig : decide ((4096 : Int) < (zs.length : Int))
  · have hl : zs.length ≤ 4096 := by have := of_decide_eq_false hbig; omega
    go_enter Try.func4, Try.ntmps4
    go_wp2_with fail
    refine (big_any a zs.length cap _ (by omega)).mono ?_
    rintro e w1 ⟨rfl, rfl⟩
    rw [hbig]
    go_wp2_with fail
    refine (unhide hdr' a cap zs _ hl (unhide hr')).mono ?_
    rintro e w2 ⟨v, L, p, rfl, own, hL, hsm, hp, b2⟩
    obtain ⟨l, hl0⟩ : ∃ l, L.map (·.1) = l := ⟨_, rfl⟩
    have hll : L.length = l.length := by rw [← hl0]; simp
    obtain ⟨av, capv, A, rfl, hb, _⟩ := own.out0 hl0
    rw [hl0] at hsm
    rw [hll] at hL
    have hb' := hide (hb.read.mono (Nat.zero_le _) (Nat.le_refl _))
    have hsm' := hide hsm
    have b2' := hide b2
    clear own hb hsm b2 hl0 hll
    go_wp2_with fail
    refine (ifind_any av capv A l p _ hL (unhide hsm') hp (unhide hb')).mono ?_
    rintro e w3 ⟨rfl, b3⟩
    have B3 := hide ((unhide b2').trans (b3.mono (unhide b2').size))
    have X3 := hide (((unhide hb').below b3 (Nat.le_refl _)).mono (Nat.le_refl _) b3.size)
    clear b3
    go_wp2_with fail
    refine (sfind_any av capv A l p _ hL (unhide hsm') hp (unhide X3)).mono ?_
    rintro e w4 ⟨rfl, b4⟩
    have B4 := hide ((unhide B3).trans (b4.mono (unhide B3).size))
    have X4 := hide (((unhide X3).below b4 (Nat.le_refl _)).mono (Nat.le_refl _) b4.size)
    clear b4
    obtain ⟨at0, hat⟩ : ∃ at0, find l p.data.toList = at0 := ⟨_, rfl⟩
    rw [hat]
    have hne : (at0 != at0) = false := by simp
    by_cases hneg : at0 < 0
    · clear hat
      go_wp2
      go_ret
      exact ⟨rfl, unhide B4⟩
    · obtain ⟨q, rfl⟩ := Int.eq_ofNat_of_zero_le (by omega : 0 ≤ at0)
      obtain ⟨h4, x, hx, hk, hd⟩ := found hat
      have hps : p.data.toList.length = p.size := by rw [Array.length_toList]; rfl
      rw [hps] at h4 hk hd
      obtain ⟨b, o, rfl, h1, h2, c0, c1, c2, hrow, k1, d0, d1, q1, q2, _⟩ := unhide X4 q x hx
      have hq : q < l.length := (List.getElem?_eq_some_iff.1 hx).1
      have hxk : x.k = p.extract (p.size - 4) p.size := Go.WideShapes.bytes_inj (by rw [extract_list, hk, List.take_of_length_le (by rw [hps]; exact Nat.le_refl _)])
      have hw1 : ((p.size : Int) - 4).toNat = p.size - 4 := by omega
      rw [hxk] at c0
      rw [hd, show ((p.size / 5 : Nat) : Int) = (p.size : Int) / 5 by omega] at c1
      have hee : ((p.extract (p.size - 4) p.size).toList == (p.extract (p.size - 4) p.size).toList) = true := by simp
      have hdd : ((p.size : Int) / 5 == (p.size : Int) / 5) = true := by simp
      have hs0 : (0 : Int) ≤ (p.size : Int) - 4 := by omega
      have hs1 : (p.size : Int) - 4 ≤ (p.size : Int) := by omega
      have hps' := hide hps
      clear hat hk hx hrow c2 q1 q2 k1 hxk hps hd
      go_wp2
      go_quiet (fail)
      go_wp2
      go_ret
      exact ⟨rfl, below_drewN (unhide B4) _⟩
  · have hl : (4096 : Int) < (zs.length : Int) := of_decide_eq_true hbig
    go_enter Try.func4, Try.ntmps4
    go_wp2_with fail
    refine (big_any a zs.length cap _ (by omega)).mono ?_
    rintro e w1 ⟨rfl, rfl⟩
    rw [hbig]
    go_wp2
    go_ret
    exact ⟨rfl, Below.refl _ _⟩
end Go.Proofs.Ytdiamcejpjopgaa
