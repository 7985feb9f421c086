/-
  For every list of bytes that came in the law of Scope answers true: each colour is counted once; nothing that was there is written; no conditions.
-/
import Derived.Test.YtdmcbdogpeidjaaDrSc
import Derived.Test.YtdmcbdogpeidjaaSco2
namespace Go.Proofs.Ytdmcbdogpeidjaa
open Go.RowKit
set_option linter.unusedVariables false
set_option linter.unusedSimpArgs false

theorem sum_take {l : List Int} {k : Nat} {x : Int} (h : l[k]? = some x) : (l.take (k + 1)).sum = (l.take k).sum + x := by
  rw [List.take_add_one, h]; simp
theorem sum_bd {l : List Int} {B : Int} (h : ∀ x ∈ l, 0 ≤ x ∧ x ≤ B) (hB : 0 ≤ B) : 0 ≤ l.sum ∧ l.sum ≤ l.length * B := by
  induction l with
  | nil => simp
  | cons x l ih =>
    have h1 := h x (by simp)
    have h2 := ih (fun y hy => h y (by simp [hy]))
    simp only [List.sum_cons, List.length_cons]
    have : ((l.length + 1 : Nat) : Int) * B = l.length * B + B := by rw [Int.natCast_add, Int.add_mul]; omega
    rw [this]
    omega
theorem scOf_facts (l : List Kl) (hl : l.length ≤ 5000) : (scOf l = [] ∨ ((scOf l).length = 16 ∧ (scOf l).sum = l.length)) ∧ (scOf l).length ≤ 16 ∧ ∀ x ∈ scOf l, 0 ≤ x ∧ x ≤ 5000 := by
  by_cases h : ScOk l
  · rw [sc_yes h]
    refine ⟨Or.inr ⟨cnt_len l, cnt_sum h.2⟩, by rw [cnt_len]; omega, fun x hx => ?_⟩
    have := cnt_bd x hx
    omega
  · rw [sc_no h]
    exact ⟨Or.inl rfl, by simp, by simp⟩

set_option maxHeartbeats 3200000 in
theorem lawFSc {W : World} (a : Option Addr) (len cap : Nat) (hr : RdB W W.heap.size a len) :
    Calls Try.prog 4 #[.slice a len cap] W fun e w' => e = .returned (.bool true) ∧ Below W.heap.size W w' := by
  have hr' := hide hr
  clear hr
  by_cases hbig : 4096 < len
  · have hbd := decide_eq_true hbig
    go_enter Try.func4, Try.ntmps4
    go_wp2_with fail
    refine (big_any a len cap true _ hbd).mono ?_
    rintro e w1 ⟨rfl, rfl⟩
    go_wp2
    go_ret
    exact ⟨rfl, Below.refl _ _⟩
  have hbd := decide_eq_false hbig
  have hl : len ≤ 4096 := by omega
  clear hbig
  go_enter Try.func4, Try.ntmps4
  go_wp2_with fail
  refine (big_any a len cap false _ hbd).mono ?_
  rintro e w9 ⟨rfl, hw0⟩
  have hw1 := hw0.symm
  subst hw1
  go_wp2_with fail
  refine (dsc_any a len cap _ hl (unhide hr')).mono ?_
  rintro e w1 ⟨r, c, l, rfl, hln, ho, hb⟩
  have O1 := hide ho
  have H1 := hide hb
  have hlm : l.length ≤ maxLen := by unfold maxLen; omega
  have hlm' := hide hlm
  obtain ⟨L, hL⟩ : ∃ L, scOf l = L := ⟨_, rfl⟩
  obtain ⟨hf1, hf2, hf3⟩ := scOf_facts l hln
  rw [hL] at hf1 hf2 hf3
  have hL' := hide hL
  have F1 := hide hf1
  have F3 := hide hf3
  clear ho hb hlm hL hf1 hf3
  go_wp2_with fail
  refine (isco_any (some ⟨r, 0, none⟩) c l _ (unhide hlm') (kls_own (unhide O1))).mono ?_
  rintro e w2 hS
  rw [unhide hL'] at hS
  obtain ⟨G, rfl, _, oG, k2⟩ := hS
  have O2 := hide (ownsRow_below (unhide O1) k2)
  have Og := hide oG
  have H2 := hide (laterB (unhide H1) k2)
  clear k2 oG O1 H1
  go_wp2_with fail
  refine (ssco_any (some ⟨r, 0, none⟩) c l _ (unhide hlm') (kls_own (unhide O2))).mono ?_
  rintro e w3 hS
  rw [unhide hL'] at hS
  obtain ⟨G3, rfl, _, oG3, k3⟩ := hS
  have Og3 := hide (ownsRow_below (unhide Og) k3)
  have Os := hide oG3
  have H3 := hide (laterB (unhide H2) k3)
  clear k3 oG3 O2 H2 Og
  go_wp2_with fail
  refine (same_any _ _ _ _ L _ (by omega) (ins_own (unhide Og3)) (ins_own (unhide Os))).mono ?_
  rintro e w4 ⟨rfl, k4⟩
  have Og4 := hide (ins_own (ownsRow_below (unhide Og3) k4))
  have H4 := hide (laterB (unhide H3) k4)
  clear k4 H3 Og3 Os
  go_wp2
  go_loop [5, 6] (fun s t => ∃ k : Nat, k ≤ L.length ∧ t = .int .i64 k ∧ ∃ q : Int, s = .int .i64 q ∧ 0 ≤ q ∧ q ≤ 1000000 ∧ Hid (q = (L.take k).sum)) (fun _ t => L.length - (intOf t).toNat)
  case atStart => exact ⟨0, by omega, rfl, 0, rfl, by omega, by omega, hide (by simp)⟩
  case round =>
    obtain ⟨k, hk, rfl, q, rfl, q0, q1, hq⟩ := hrel
    by_cases hlt : k < L.length
    · obtain ⟨b1, o1, x, hab, hx, i1, c0⟩ := ins_at (unhide Og4) (Below.refl _ _) hlt
      injection hab with hab
      injection hab with hb1 hb2
      subst hb1 hb2
      rw [Nat.zero_add] at c0
      obtain ⟨x0, x1⟩ := (unhide F3) x (List.mem_of_getElem? hx)
      have hnew : Hid (q + x = (L.take (k + 1)).sum) := hide (by rw [sum_take hx, ← unhide hq])
      have hqb : q + x ≤ 1000000 := by
        rw [unhide hnew]
        have := (sum_bd (l := L.take (k + 1)) (B := 5000) (fun y hy => (unhide F3) y (List.mem_of_mem_take hy)) (by omega)).2
        have h2 : (L.take (k + 1)).length ≤ 16 := by simp; omega
        have h3 : ((L.take (k + 1)).length : Int) * 5000 ≤ 16 * 5000 := by omega
        omega
      clear hx i1 hq
      go_wp2
      go_round
      case rel => exact ⟨k + 1, by omega, by go_num, q + x, rfl, by omega, hqb, hnew⟩
      case measure => simp [intOf]; omega
    · have hke : k = L.length := by omega
      rcases unhide F1 with hE | ⟨h16, hsum⟩
      · have hz : ((L.length : Int) == 0) = true := by rw [hE]; rfl
        have hz2 : (L.length == 0) = true := by rw [hE]; rfl
        have hz3 : L.length = 0 := by rw [hE]; rfl
        clear hq hE
        go_wp2
        go_ret
        exact ⟨rfl, unhide H4⟩
      · have hq2 : q = l.length := by rw [unhide hq, hke, List.take_length, hsum]
        have hz : ((L.length : Int) == 0) = false := by rw [h16]; rfl
        have hz1 : ((L.length : Int) == 16) = true := by rw [h16]; rfl
        have hz2 : (q == (l.length : Int)) = true := by rw [hq2]; simp
        have hz4 : (L.length == 0) = false := by rw [h16]; rfl
        clear hq hsum hq2
        go_wp2
        go_ret
        exact ⟨ret_bool (by simp [h16]), unhide H4⟩

end Go.Proofs.Ytdmcbdogpeidjaa
