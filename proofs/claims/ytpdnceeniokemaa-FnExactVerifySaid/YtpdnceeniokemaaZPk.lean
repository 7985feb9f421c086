/-
  How the law weighs a list of assets: the contract; nothing that was there is written.
  Contracts of both PackOks; nothing that was there is written.
-/
import Derived.Test.YtpdnceeniokemaaZCopyL
import Derived.Test.YtpdnceeniokemaaZLkB
namespace Go.Proofs.Ytpdnceeniokemaa
open Go.RowKit
set_option linter.unusedVariables false
set_option linter.unusedSimpArgs false

set_option maxHeartbeats 1600000 in
theorem szk_any (a : Option Addr) (cap : Nat) (l : List Kl) (w : World) (hl : l.length ≤ maxLen) (hr : Kls w a l) (hsz : ∀ x ∈ l, x.1.size ≤ maxLen) (N : Int) (N0 : 0 ≤ N) (N1 : N ≤ 1048576) :
    Calls Try.prog 21 #[.slice a l.length cap, .int .i64 N] w fun e w' => ∃ r : Int, e = .returned (.int .i64 r) ∧ (r = -1 ∨ (0 ≤ r ∧ r ≤ 1048576 ∧ l.length ≤ 1048576 ∧ ∀ x ∈ l, x.1.size ≤ 1048576)) ∧ Below w.heap.size w w' := by
  have hr' := hide hr
  have hsz' := hide hsz
  clear hr hsz
  unfold maxLen at hl
  by_cases h : N - l.length < 0
  · go_enter Try.func21, Try.ntmps21
    go_wp2
    go_ret
    exact ⟨_, rfl, by omega, Below.refl _ _⟩
  go_enter Try.func21, Try.ntmps21
  go_wp2
  go_loopw [1, 5] (fun n t wr => ∃ (k : Nat) (r : Int), k ≤ l.length ∧ t = .int .i64 k ∧ n = .int .i64 r ∧ 0 ≤ r ∧ r ≤ 1048576 ∧ Hid (∀ j x, j < k → l[j]? = some x → x.1.size ≤ 1048576) ∧ Hid (Below w.heap.size w wr)) (fun _ t _ => l.length - (intOf t).toNat)
  case atStart => exact ⟨0, _, by omega, rfl, rfl, by omega, by omega, hide (fun j x h => by omega), hide (Below.refl _ _)⟩
  case round =>
    obtain ⟨k, r, hk, rfl, rfl, r0, r1, hok, hb⟩ := hrel
    by_cases hlt : k < l.length
    · obtain ⟨x, hx⟩ : ∃ x, l[k]? = some x := ⟨l[k], List.getElem?_eq_getElem hlt⟩
      obtain ⟨b, o, rfl, i1, c0, c1, c2⟩ := unhide hr' k x hx
      have hxs := unhide hsz' x (List.mem_of_getElem? hx)
      obtain ⟨s, x, y⟩ := x
      simp only at c0 c1 c2 hxs
      have C := fun o => (bcell (unhide hb)).1 b o i1
      rw [← C] at c0 c1 c2
      have hnx := hide (show s.size ≤ 1048576 → ∀ j x, j < k + 1 → l[j]? = some x → x.1.size ≤ 1048576 from fun h j z hj hz => by
        rcases Nat.lt_or_ge j k with h1 | h1
        · exact unhide hok j z h1 hz
        · have : j = k := by omega
          subst this
          rw [hx] at hz; injection hz with hz; subst hz; exact h)
      clear hx C
      go_wp2_with fail
      refine (szt_any s x y r _ r0 r1 hxs).mono ?_
      rintro e w1 ⟨r2, rfl, h2, k1⟩
      have hb1 := hide (laterB (unhide hb) k1)
      clear c0 c1 c2 hb k1 hok
      rcases h2 with rfl | ⟨p0, p1, p2⟩
      · go_wp2
        go_ret
        exact ⟨_, rfl, Or.inl rfl, unhide hb1⟩
      · have gg : decide (r2 < 0) = false := decide_eq_false (by omega)
        have hn := hide (unhide hnx p2)
        clear hnx
        go_wp2
        go_roundw
        case rel => exact ⟨k + 1, r2, by omega, by go_num, rfl, p0, by omega, hn, hb1⟩
        case measure => simp [intOf]; omega
    · go_wp2
      go_ret
      refine ⟨_, rfl, Or.inr ⟨r0, r1, by omega, fun x hx => ?_⟩, unhide hb⟩
      obtain ⟨j, hj⟩ := List.getElem?_of_mem hx
      exact unhide hok j x (by have := (List.getElem?_eq_some_iff.1 hj).1; omega) hj

end Go.Proofs.Ytpdnceeniokemaa

namespace Go.Proofs.Ytpdnceeniokemaa
open Go.RowKit
set_option linter.unusedVariables false
set_option linter.unusedSimpArgs false

theorem in_q (x lo hi : Int) (w : World) : Calls Try.prog 58 #[.int .i64 x, .int .i64 lo, .int .i64 hi] w fun e w' => e = .returned (.bool (decide (lo ≤ x) && decide (x ≤ hi))) ∧ w' = w := in_any x lo hi _ w rfl
def SzOk (l : List Kl) : Prop := ∀ x ∈ l, x.1.size ≤ maxLen
theorem cel3 {X : World} {v0 v1 v2 : Value} {t : TypeId} : (X.alloc (.cells #[v0, v1, v2] t)).cell? ⟨X.heap.size, 0, none⟩ = some v0 ∧ (X.alloc (.cells #[v0, v1, v2] t)).cell? ⟨X.heap.size, 1, none⟩ = some v1 ∧ (X.alloc (.cells #[v0, v1, v2] t)).cell? ⟨X.heap.size, 2, none⟩ = some v2 := blk3 (heap_alloc_new X _)
set_option maxRecDepth 100000 in
set_option maxHeartbeats 3200000 in
theorem spk_any (a : Option Addr) (cap : Nat) (l : List Kl) (w : World) (hl : l.length ≤ maxLen) (hz : SzOk l) (hk : Kls w a l) :
    Calls Try.prog 22 #[.slice a l.length cap] w fun e w' => e = .returned (.bool (pOk l)) ∧ Below w.heap.size w w' := by
  unfold maxLen at hl
  have hk' := hide hk
  have hz' := hide hz
  clear hk hz
  by_cases h100 : l.length ≤ 100
  rotate_left
  · have g0 : decide ((100 : Int) < l.length) = true := by simp; omega
    rw [pOk_long h100]
    go_enter Try.func22, Try.ntmps22
    go_wp2
    go_ret
    exact ⟨rfl, Below.refl _ _⟩
  have g0 : decide ((100 : Int) < l.length) = false := by simp; omega
  go_enter Try.func22, Try.ntmps22
  go_wp2
  go_loopw [3] (fun t wr => ∃ k : Nat, k ≤ l.length ∧ t = .int .i64 k ∧ Hid (∀ j, j < k → itOk l j = true) ∧ Hid (Below w.heap.size w wr)) (fun t _ => l.length - (intOf t).toNat)
  case atStart => exact ⟨0, by omega, rfl, hide (fun j h => by omega), hide (Below.refl _ _)⟩
  case round =>
    obtain ⟨k, hk1, rfl, hpre, hB⟩ := hrel
    by_cases hlt : k < l.length
    · have g1 : decide ((k : Int) < l.length) = true := by simp; omega
      obtain ⟨x, hx⟩ : ∃ x, l[k]? = some x := ⟨l[k], List.getElem?_eq_getElem hlt⟩
      have hxs := unhide hz' x (List.mem_of_getElem? hx)
      obtain ⟨b, o, rfl, i1, c0, c1, c2⟩ := unhide hk' k x hx
      obtain ⟨s, p, q⟩ := x
      simp only at c0 c1 c2 hxs
      have C := fun o => (bcell (unhide hB)).1 b o i1
      rw [← C] at c0 c1 c2
      have hxx := hide hx
      have hC := hide C
      clear hx C
      obtain ⟨vn, hn⟩ : ∃ v, nmOk s = v := ⟨_, rfl⟩
      obtain ⟨vp, hp⟩ : ∃ v, (decide (0 ≤ p) && decide (p ≤ 40000)) = v := ⟨_, rfl⟩
      obtain ⟨vq, hq⟩ : ∃ v, (decide (0 ≤ q) && decide (q ≤ 1000000006)) = v := ⟨_, rfl⟩
      have has := hide (show asOk (s, p, q) = (vn && vp && vq) by simp only [asOk, hn, hp, hq])
      have hnext := hide (show itOk l k = true → ∀ j, j < k + 1 → itOk l j = true from fun h j hj => by
        rcases Nat.lt_or_ge j k with h1 | h1
        · exact unhide hpre j h1
        · have : j = k := by omega
          subst this; exact h)
      have hbad := hide (show (vn && vp && vq) = false → itOk l k = false from fun h => by
        by_cases h0 : k = 0
        · subst h0; rw [it_zero (unhide hxx), unhide has]; exact h
        · obtain ⟨y, hy⟩ : ∃ y, l[k - 1]? = some y := ⟨l[k - 1], List.getElem?_eq_getElem (by omega)⟩
          rw [it_succ (unhide hxx) (by omega) hy, unhide has, h]; rfl)
      cases vn with
      | false =>
        have hit := hide (unhide hbad rfl)
        clear hbad has hnext hpre
        go_wp2_with fail
        go_quiet ((first | (go_at_call 60; exact Calls.quiet_of_same (snm_any _ _ (by assumption))) | (go_at_call 58; exact Calls.quiet_of_same (in_q _ _ _ _)) | (go_at_call 61; exact Calls.quiet_of (sbef_any _ _ _ (by assumption) (by assumption)))))
        go_wp2
        go_ret
        exact ⟨ret_bool (pOk_bad hlt (unhide hit)).symm, below_drewN (((unhide hB)).alloc (unhide hB).size _) _⟩
      | true =>
        cases vp with
        | false =>
          have hit := hide (unhide hbad rfl)
          clear hbad has hnext hpre
          go_wp2_with fail
          go_quiet ((first | (go_at_call 60; exact Calls.quiet_of_same (snm_any _ _ (by assumption))) | (go_at_call 58; exact Calls.quiet_of_same (in_q _ _ _ _)) | (go_at_call 61; exact Calls.quiet_of (sbef_any _ _ _ (by assumption) (by assumption)))))
          go_wp2
          go_ret
          exact ⟨ret_bool (pOk_bad hlt (unhide hit)).symm, below_drewN (((unhide hB)).alloc (unhide hB).size _) _⟩
        | true =>
          cases vq with
          | false =>
            have hit := hide (unhide hbad rfl)
            clear hbad has hnext hpre
            go_wp2_with fail
            go_quiet ((first | (go_at_call 60; exact Calls.quiet_of_same (snm_any _ _ (by assumption))) | (go_at_call 58; exact Calls.quiet_of_same (in_q _ _ _ _)) | (go_at_call 61; exact Calls.quiet_of (sbef_any _ _ _ (by assumption) (by assumption)))))
            go_wp2
            go_ret
            exact ⟨ret_bool (pOk_bad hlt (unhide hit)).symm, below_drewN (((unhide hB)).alloc (unhide hB).size _) _⟩
          | true =>
            by_cases h0 : k = 0
            · have hnx := hide (unhide hnext (by subst h0; rw [it_zero (unhide hxx), unhide has]; rfl))
              have g2 : decide ((0 : Int) < k) = false := by simp; omega
              have g3 : decide (0 < k) = false := by simp; omega
              clear hbad has hnext hpre h0
              go_wp2_with fail
              go_quiet ((first | (go_at_call 60; exact Calls.quiet_of_same (snm_any _ _ (by assumption))) | (go_at_call 58; exact Calls.quiet_of_same (in_q _ _ _ _)) | (go_at_call 61; exact Calls.quiet_of (sbef_any _ _ _ (by assumption) (by assumption)))))
              go_wp2
              go_roundw
              case rel => exact ⟨k + 1, by omega, by go_num, hnx, hide (below_drewN (((unhide hB)).alloc (unhide hB).size _) _)⟩
              case measure => simp [intOf]; omega
            · obtain ⟨y, hy⟩ : ∃ y, l[k - 1]? = some y := ⟨l[k - 1], List.getElem?_eq_getElem (by omega)⟩
              have hys := unhide hz' y (List.mem_of_getElem? hy)
              obtain ⟨b', o', e', j1, d0, d1, d2⟩ := unhide hk' (k - 1) y hy
              injection e' with e'
              injection e' with e1 e2
              subst e1 e2
              have hitv := hide (it_succ (unhide hxx) (by omega) hy)
              obtain ⟨sy, py, qy⟩ := y
              simp only at d0 hys hitv
              rw [← (unhide hC)] at d0
              have g2 : decide ((0 : Int) < k) = true := by simp; omega
              have g3 : decide (0 < k) = true := by simp; omega
              have hkm : (k : Int) - 1 = ((k - 1 : Nat) : Int) := by omega
              have hk2 : k - 1 < l.length := by omega
              obtain ⟨vb, hb⟩ : ∃ v, bef sy s = v := ⟨_, rfl⟩
              have hv := hide (show itOk l k = vb by rw [unhide hitv, unhide has, hb]; rfl)
              clear hitv has hbad d1 d2 hy
              have hbi : b < wr.heap.size := Nat.lt_of_lt_of_le i1 (unhide hB).size
              obtain ⟨M, hM⟩ : ∃ M, k - 1 = M := ⟨_, rfl⟩
              rw [hM] at hkm d0 hk2
              clear hM
              cases vb with
              | true =>
                have hnx := hide (unhide hnext (unhide hv))
                clear hv hnext hpre h0
                go_wp2_with fail
                go_quiet ((first | (go_at_call 60; exact Calls.quiet_of_same (snm_any _ _ (by assumption))) | (go_at_call 58; exact Calls.quiet_of_same (in_q _ _ _ _)) | (go_at_call 61; exact Calls.quiet_of (sbef_any _ _ _ (by assumption) (by assumption)))))
                go_wp2
                go_roundw
                case rel => exact ⟨k + 1, by omega, by go_num, hnx, hide (below_drewN (((unhide hB)).alloc (unhide hB).size _) _)⟩
                case measure => simp [intOf]; omega
              | false =>
                have hit := hide (unhide hv)
                clear hv hnext hpre h0
                go_wp2_with fail
                go_quiet ((first | (go_at_call 60; exact Calls.quiet_of_same (snm_any _ _ (by assumption))) | (go_at_call 58; exact Calls.quiet_of_same (in_q _ _ _ _)) | (go_at_call 61; exact Calls.quiet_of (sbef_any _ _ _ (by assumption) (by assumption)))))
                go_wp2
                go_ret
                exact ⟨ret_bool (pOk_bad hlt (unhide hit)).symm, below_drewN (((unhide hB)).alloc (unhide hB).size _) _⟩
    · have g1 : decide ((k : Int) < l.length) = false := by simp; omega
      have hfin := hide (pOk_good h100 (fun j hj => unhide hpre j (by omega)))
      go_wp2
      go_ret
      exact ⟨ret_bool (unhide hfin).symm, unhide hB⟩

end Go.Proofs.Ytpdnceeniokemaa
