/-
  Contracts of the program's JobOk and of what it calls; nothing that was there is written.
-/
import Derived.Test.YtmdkbmnomeampaaJbP
namespace Go.Proofs.Ytmdkbmnomeampaa
open Go.RowKit
set_option linter.unusedVariables false
set_option linter.unusedSimpArgs false

set_option maxHeartbeats 400000 in
theorem ifr_any (x : Int) (w : World) : Calls Try.prog 74 #[.int .i64 x] w fun e w' => e = .returned (.bool (frm x)) ∧ w' = w := by
  by_cases h1 : 0 ≤ x
  · by_cases h2 : x ≤ 10000000
    · go_enter Try.func74, Try.ntmps74
      go_wp2
      go_ret
      exact ⟨ret_bool (by simp [frm, h1, h2]), rfl⟩
    · go_enter Try.func74, Try.ntmps74
      go_wp2
      go_ret
      exact ⟨ret_bool (by simp [frm, h2]), rfl⟩
  · have hd : decide (0 ≤ x) = false := by simpa using h1
    go_enter Try.func74, Try.ntmps74
    go_wp2
    go_ret
    exact ⟨ret_bool (by simp [frm, hd]), rfl⟩

set_option maxHeartbeats 1600000 in
theorem ineed_any (a : Option Addr) (cap : Nat) (zs : List Int) (n : Int) (w : World) (hl : zs.length ≤ maxLen) (n0 : 0 ≤ n) (n1 : n ≤ 1000000) (hr : Ins w a zs) :
    Calls Try.prog 75 #[.slice a zs.length cap, .int .i64 n] w fun e w' => e = .returned (.bool (nOk n zs)) ∧ w' = w := by
  unfold maxLen at hl
  have hr' := hide hr
  clear hr
  by_cases h10 : zs.length ≤ 10
  rotate_left
  · have g0 : decide ((10 : Int) < zs.length) = true := by simp; omega
    have hf := hide (show nOk n zs = false by simp [nOk]; omega)
    go_enter Try.func75, Try.ntmps75
    go_wp2
    go_ret
    exact ⟨ret_bool (unhide hf).symm, rfl⟩
  have g0 : decide ((10 : Int) < zs.length) = false := by simp; omega
  have hf := hide (show nOk n zs = ndOk n 0 (zs.drop 0) by simp [nOk, h10])
  go_enter Try.func75, Try.ntmps75
  go_wp2
  go_loop [5, 13] (fun s t => ∃ (k : Nat) (m : Int), k ≤ zs.length ∧ t = .int .i64 k ∧ s = .int .i64 m ∧ 0 ≤ m ∧ m ≤ 1000001 ∧ Hid (nOk n zs = ndOk n m (zs.drop k))) (fun _ t => zs.length - (intOf t).toNat)
  case atStart => exact ⟨0, 0, by omega, rfl, rfl, by omega, by omega, hf⟩
  case round =>
    obtain ⟨k, m, hk, rfl, rfl, m0, m1, hm⟩ := hrel
    by_cases hlt : k < zs.length
    · obtain ⟨b, o, x, rfl, hx, i1, c0⟩ := ins_at (unhide hr') (Below.refl _ _) hlt
      have hd := hide (show nOk n zs = (decide (m ≤ x) && decide (x < n) && ndOk n (x + 1) (zs.drop (k + 1))) by rw [unhide hm, drop_at hx]; rfl)
      clear hx hm i1
      by_cases h1 : x < m
      · have g1 : decide (x < m) = true := by simpa using h1
        have hfin := hide (show nOk n zs = false by rw [unhide hd]; simp; omega)
        clear hd
        go_wp2
        go_ret
        exact ⟨ret_bool (unhide hfin).symm, rfl⟩
      · have g1 : decide (x < m) = false := by simpa using h1
        by_cases h2 : n ≤ x
        · have g2 : decide (n ≤ x) = true := by simpa using h2
          have hfin := hide (show nOk n zs = false by rw [unhide hd]; simp; omega)
          clear hd
          go_wp2
          go_ret
          exact ⟨ret_bool (unhide hfin).symm, rfl⟩
        · have g2 : decide (n ≤ x) = false := by simpa using h2
          have hfin := hide (show nOk n zs = ndOk n (x + 1) (zs.drop (k + 1)) by rw [unhide hd, decide_eq_true (by omega), decide_eq_true (by omega)]; rfl)
          have x0 : 0 ≤ x := by omega
          have x1 : x ≤ 1000000 := by omega
          clear hd
          go_wp2
          go_round
          case rel => exact ⟨k + 1, x + 1, by omega, by go_num, by go_num, by omega, by omega, hfin⟩
          case measure => simp [intOf]; omega
    · have hfin := hide (show nOk n zs = true by rw [unhide hm, drop_end hlt]; rfl)
      clear hm
      go_wp2
      go_ret
      exact ⟨ret_bool (unhide hfin).symm, rfl⟩

set_option maxHeartbeats 1600000 in
theorem itsk_any (t : Tv) (a : Option Addr) (cap : Nat) (i : Int) (w : World) (hl : t.2.2.1.length ≤ maxLen) (n0 : 0 ≤ i) (n1 : i ≤ 1000000) (hr : Ins w a t.2.2.1) :
    Calls Try.prog 53 #[agT t.1 t.2.1 a t.2.2.1.length cap t.2.2.2, .int .i64 i] w fun e w' => e = .returned (.bool (tskOk i t)) ∧ Below w.heap.size w w' := by
  obtain ⟨k, v, zs, d⟩ := t
  simp only at hl hr
  have hr' := hide hr
  have hl' := hide hl
  clear hr hl
  obtain ⟨x1, e1⟩ : ∃ x, decide ((0 : Int) ≤ k) = x := ⟨_, rfl⟩
  obtain ⟨x2, e2⟩ : ∃ x, decide (k ≤ (9 : Int)) = x := ⟨_, rfl⟩
  obtain ⟨x3, e3⟩ : ∃ x, frm v = x := ⟨_, rfl⟩
  obtain ⟨x4, e4⟩ : ∃ x, nOk i zs = x := ⟨_, rfl⟩
  obtain ⟨x5, e5⟩ : ∃ x, decide ((1 : Int) ≤ d) = x := ⟨_, rfl⟩
  obtain ⟨x6, e6⟩ : ∃ x, decide (d ≤ (1000 : Int)) = x := ⟨_, rfl⟩
  have hf := hide (show tskOk i (k, v, zs, d) = (x1 && x2 && x3 && x4 && x5 && x6) by simp only [tskOk, e1, e2, e3, e4, e5, e6])
  have e3' := hide e3
  have e4' := hide e4
  clear e3 e4
  cases x1 with
  | false =>
    go_enter Try.func53, Try.ntmps53
    go_wp2
    go_ret
    exact ⟨ret_bool (unhide hf).symm, (Below.refl _ _).alloc (Nat.le_refl _) _⟩
  | true =>
  cases x2 with
  | false =>
    go_enter Try.func53, Try.ntmps53
    go_wp2
    go_ret
    exact ⟨ret_bool (unhide hf).symm, (Below.refl _ _).alloc (Nat.le_refl _) _⟩
  | true =>
  go_enter Try.func53, Try.ntmps53
  go_wp2_with fail
  refine (ifr_any v _).mono ?_
  rintro e w1 ⟨rfl, rfl⟩
  rw [unhide e3']
  cases x3 with
  | false =>
    go_wp2
    go_ret
    exact ⟨ret_bool (unhide hf).symm, (Below.refl _ _).alloc (Nat.le_refl _) _⟩
  | true =>
  go_wp2_with fail
  refine (ineed_any a cap zs i _ (unhide hl') n0 n1 ((unhide hr').below ((Below.refl _ _).alloc (Nat.le_refl _) _))).mono ?_
  rintro e w1 ⟨rfl, rfl⟩
  rw [unhide e4']
  cases x4 with
  | false =>
    go_wp2
    go_ret
    exact ⟨ret_bool (unhide hf).symm, (Below.refl _ _).alloc (Nat.le_refl _) _⟩
  | true =>
  cases x5 with
  | false =>
    go_wp2
    go_ret
    exact ⟨ret_bool (unhide hf).symm, (Below.refl _ _).alloc (Nat.le_refl _) _⟩
  | true =>
  cases x6 with
  | false =>
    go_wp2
    go_ret
    exact ⟨ret_bool (unhide hf).symm, (Below.refl _ _).alloc (Nat.le_refl _) _⟩
  | true =>
    go_wp2
    go_ret
    exact ⟨ret_bool (unhide hf).symm, (Below.refl _ _).alloc (Nat.le_refl _) _⟩

set_option maxHeartbeats 1600000 in
theorem ijob_any (a : Option Addr) (cap : Nat) (ts : List Tv) (w : World) (hl : ts.length ≤ maxLen) (hr : Tks w a ts) :
    Calls Try.prog 20 #[.slice a ts.length cap] w fun e w' => e = .returned (.bool (jobOk ts)) ∧ Below w.heap.size w w' := by
  unfold maxLen at hl
  have hr' := hide hr
  clear hr
  by_cases h200 : ts.length ≤ 200
  rotate_left
  · have g0 : decide ((200 : Int) < ts.length) = true := by simp; omega
    have hf := hide (show jobOk ts = false by simp [jobOk]; omega)
    go_enter Try.func20, Try.ntmps20
    go_wp2
    go_ret
    exact ⟨ret_bool (unhide hf).symm, Below.refl _ _⟩
  have g0 : decide ((200 : Int) < ts.length) = false := by simp; omega
  have hf := hide (show jobOk ts = okFrom 0 (ts.drop 0) by simp [jobOk, h200])
  go_enter Try.func20, Try.ntmps20
  go_wp2
  go_loopw [10] (fun t wr => ∃ k : Nat, k ≤ ts.length ∧ t = .int .i64 k ∧ Hid (jobOk ts = okFrom k (ts.drop k)) ∧ Hid (Below w.heap.size w wr)) (fun t _ => ts.length - (intOf t).toNat)
  case atStart => exact ⟨0, by omega, rfl, hf, hide (Below.refl _ _)⟩
  case round =>
    obtain ⟨k, hk, rfl, hm, hB⟩ := hrel
    by_cases hlt : k < ts.length
    · obtain ⟨b, o, p, c, t, rfl, hx, i1, c0, c1, c2, c3, hK, hmx⟩ := tks_at (unhide hr') (unhide hB) hlt
      have hd := hide (show jobOk ts = (tskOk k t && okFrom (k + 1) (ts.drop (k + 1))) by rw [unhide hm, drop_at hx]; rfl)
      have hK' := hide hK
      have hmx' := hide hmx
      obtain ⟨v, hv⟩ : ∃ v, tskOk k t = v := ⟨_, rfl⟩
      have hv' := hide hv
      clear hx hm hK hmx hv
      go_wp2_with fail
      refine (itsk_any t p c k _ (unhide hmx') (by omega) (by omega) ((unhide hK').below ((Below.refl _ _).alloc (Nat.le_refl _) _))).mono ?_
      rintro e w1 ⟨rfl, hb1⟩
      rw [unhide hv']
      have hd2 := hide (show jobOk ts = (v && okFrom (k + 1) (ts.drop (k + 1))) by rw [unhide hd, unhide hv'])
      have hB1 := hide (laterB ((unhide hB).alloc (unhide hB).size _) hb1)
      clear hb1 hd hv'
      cases v with
      | false =>
        go_wp2
        go_ret
        exact ⟨ret_bool (unhide hd2).symm, unhide hB1⟩
      | true =>
        go_wp2
        go_roundw
        case rel => exact ⟨k + 1, by omega, by go_num, hd2, hB1⟩
        case measure => simp [intOf]; omega
    · have hfin := hide (show jobOk ts = true by rw [unhide hm, drop_end hlt]; rfl)
      clear hm
      go_wp2
      go_ret
      exact ⟨ret_bool (unhide hfin).symm, unhide hB⟩

end Go.Proofs.Ytmdkbmnomeampaa
