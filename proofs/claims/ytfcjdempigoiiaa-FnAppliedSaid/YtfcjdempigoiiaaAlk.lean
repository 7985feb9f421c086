/-
  The contract of the model's count of frames that are alike at the beginning.
-/
import Derived.Test.YtfcjdempigoiiaaAlP
import Derived.Test.YtfcjdempigoiiaaTrk
import Derived.Test.YtfcjdempigoiiaaPt
namespace Go.Proofs.Ytfcjdempigoiiaa
open Go.RowKit
set_option linter.unusedVariables false
set_option linter.unusedSimpArgs false

set_option maxRecDepth 100000 in
set_option maxHeartbeats 12800000 in
theorem salike_any (a b : Option Addr) (ca cb : Nat) (l m : List Kl) (most : Int) (w : World) (hT : TOk l) (hU : TOk m) (h0 : 0 ≤ most) (h1 : most ≤ clen l) (h2 : most ≤ clen m) (hk : Kls w a l) (hkm : Kls w b m) :
    Calls Try.prog 30 #[.slice a l.length ca, .slice b m.length cb, .int .i64 most] w fun e w' => ∃ n, e = .returned (.int .i64 n) ∧ IsPfx l m most n ∧ Below w.heap.size w w' := by
  have hk' := hide hk
  have hkm' := hide hkm
  have hlm : l.length ≤ 300 := hT.1
  have hmm : m.length ≤ 300 := hU.1
  have hb9 : most ≤ 10000000 := by have := hT.2.2; omega
  have hA := hide hT.2.1
  have hB := hide hU.2.1
  have h1' := hide h1
  have h2' := hide h2
  clear hk hkm hT hU h1 h2
  have hst := hide (St.start (l := l) (m := m) (unhide hA) (unhide hB) h0)
  go_enter Try.func30, Try.ntmps30
  go_wp2
  go_loopw [7, 8, 9, 10, 11] (fun s7 s8 s9 s10 s11 wr => ∃ (i k : Nat) (j8 j9 x y n : Int), s7 = .int .i64 n ∧ s8 = .int .i64 j8 ∧ s9 = .int .i64 j9 ∧ s10 = .int .i64 x ∧ s11 = .int .i64 y ∧ Hid (j8 = (i : Int)) ∧ Hid (j9 = (k : Int)) ∧ Hid (St l m most i k x y n) ∧ Hid (l[i]? = none → x = 0) ∧ Hid (m[k]? = none → y = 0) ∧ Hid (Below w.heap.size w wr)) (fun s7 _ _ _ _ _ => (most - intOf s7).toNat)
  case atStart => exact ⟨0, 0, _, _, 0, 0, 0, rfl, rfl, rfl, rfl, rfl, hide (by simp), hide (by simp), hst, hide (fun _ => rfl), hide (fun _ => rfl), hide (Below.refl _ _)⟩
  case round =>
    clear hst
    obtain ⟨i, k, j8, j9, x, y, n, rfl, rfl, rfl, rfl, rfl, hj8, hj9, hS, hx0, hy0, hw⟩ := hrel
    have n0 := (unhide hS).n0
    have nm := (unhide hS).le
    have x0 := (unhide hS).x0
    have y0 := (unhide hS).y0
    have hil : i ≤ l.length := (unhide hS).hi
    have hkl : k ≤ m.length := (unhide hS).hk
    by_cases hn : n < most
    · have hi : i < l.length := (unhide hS).ihas (unhide hx0) (unhide hA) (unhide h1') hn
      have hkk : k < m.length := (unhide hS).khas (unhide hy0) (unhide hB) (unhide h2') hn
      obtain ⟨I, hI⟩ : ∃ I : Nat, j8 = I := ⟨i, by have := unhide hj8; omega⟩
      obtain ⟨KK, hK⟩ : ∃ KK : Nat, j9 = KK := ⟨k, by have := unhide hj9; omega⟩
      subst hI hK
      have hIe : I = i := by have := unhide hj8; omega
      have hKe : KK = k := by have := unhide hj9; omega
      have hIl : I < l.length := by omega
      have hKl : KK < m.length := by omega
      obtain ⟨b1, o1, p1, p2, p3, rfl, hp, c0, c1, c2⟩ := kls_at (unhide hk') (unhide hw) hIl
      obtain ⟨b2, o2, q1, q2, q3, rfl, hq, d0, d1, d2⟩ := kls_at (unhide hkm') (unhide hw) hKl
      have hb2l : b2 < wr.heap.size := World.block_lt_of_cell? _ _ d0
      have hb2n : b2 ≠ wr.heap.size := by omega
      have cp := (unhide hA) _ (List.mem_of_getElem? hp)
      have cq := (unhide hB) _ (List.mem_of_getElem? hq)
      rw [hIe] at hp
      rw [hKe] at hq
      have hp' := hide hp
      have hq' := hide hq
      have xl := (unhide hS).xl _ (unhide hp')
      have yl := (unhide hS).yl _ (unhide hq')
      simp only at xl yl
      obtain ⟨u1, u2, u3, u4, u5⟩ := cp
      obtain ⟨v1, v2, v3, v4, v5⟩ := cq
      simp only at u1 u2 u3 u4 u5 v1 v2 v3 v4 v5
      have tn : decide (n < most) = true := by simpa using hn
      have hwA := hide (((unhide hw).alloc (unhide hw).size (.cells #[.int .i64 p1, .int .i64 p2, .int .i64 p3] 63)).alloc (by have := (unhide hw).size; simp; omega) (.cells #[.int .i64 q1, .int .i64 q2, .int .i64 q3] 63))
      have hIe' := hide hIe
      have hKe' := hide hKe
      clear hp hq hw hIe hKe
      by_cases hs : p1 = q1
      · by_cases hg : p1 = 0 ∨ p2 + x = q2 + y
        · have hnx := hide (fun (d : Int) (i' k' : Nat) (x' y' : Int) e1 e2 e3 e4 e5 e6 => (unhide hS).next (d := d) (i' := i') (k' := k') (x' := x') (y' := y') (unhide hA) (unhide hB) (unhide hp') (unhide hq') hs hg e1 e2 e3 e4 e5 e6)
          obtain ⟨d, hd⟩ : ∃ d, d = min (min (p3 - x) (q3 - y)) (most - n) := ⟨_, rfl⟩
          have hd1 : 1 ≤ d := by omega
          have hd2 : d ≤ p3 - x := by omega
          have hd3 : d ≤ q3 - y := by omega
          have hd4 : d ≤ most - n := by omega
          have hdd := hide hd
          clear hd
          subst hs
          have hs' : (p1 != p1) = false := by simp
          by_cases hz : p1 = 0
          · subst hz
            have hz' : ((0 : Int) != 0) = false := by simp
            clear hg
            go_wp2_with fail
            refine (min_any (p3 - x) (q3 - y) (min (p3 - x) (q3 - y)) _ rfl).mono ?_
            rintro e w1 ⟨rfl, rfl⟩
            go_wp2_with fail
            refine (min_any (min (p3 - x) (q3 - y)) (most - n) d _ (unhide hdd).symm).mono ?_
            rintro e w1 ⟨rfl, rfl⟩
            by_cases hex : x + d = p3
            · have tx : ((x + d) == p3) = true := by simpa using hex
              by_cases hey : y + d = q3
              · have ty : ((y + d) == q3) = true := by simpa using hey
                have hN := hide (unhide hnx d (i + 1) (k + 1) (0) (0) hd1 (by omega) (by omega) hd4 (.inl ⟨hex, rfl, rfl⟩) (.inl ⟨hey, rfl, rfl⟩))
                go_wp2
                go_roundw
                case rel => exact ⟨i + 1, k + 1, _, _, 0, 0, n + d, by go_num, rfl, rfl, by go_num, by go_num, hide (by have h8 := unhide hIe'; omega), hide (by have h8 := unhide hKe'; omega), hide (unhide hN).1, hide (fun _ => rfl), hide (fun _ => rfl), hwA⟩
                case measure => simp [intOf]; omega
              · have ty : ((y + d) == q3) = false := by simpa using hey
                have hN := hide (unhide hnx d (i + 1) (k) (0) (y + d) hd1 (by omega) (by omega) hd4 (.inl ⟨hex, rfl, rfl⟩) (.inr ⟨hey, rfl, rfl⟩))
                go_wp2
                go_roundw
                case rel => exact ⟨i + 1, k, _, _, 0, y + d, n + d, by go_num, rfl, rfl, by go_num, by go_num, hide (by have h8 := unhide hIe'; omega), hide (by have h8 := unhide hKe'; omega), hide (unhide hN).1, hide (fun _ => rfl), hide (unhide hN).2.2, hwA⟩
                case measure => simp [intOf]; omega
            · have tx : ((x + d) == p3) = false := by simpa using hex
              by_cases hey : y + d = q3
              · have ty : ((y + d) == q3) = true := by simpa using hey
                have hN := hide (unhide hnx d (i) (k + 1) (x + d) (0) hd1 (by omega) (by omega) hd4 (.inr ⟨hex, rfl, rfl⟩) (.inl ⟨hey, rfl, rfl⟩))
                go_wp2
                go_roundw
                case rel => exact ⟨i, k + 1, _, _, x + d, 0, n + d, by go_num, rfl, rfl, by go_num, by go_num, hide (by have h8 := unhide hIe'; omega), hide (by have h8 := unhide hKe'; omega), hide (unhide hN).1, hide (unhide hN).2.1, hide (fun _ => rfl), hwA⟩
                case measure => simp [intOf]; omega
              · have ty : ((y + d) == q3) = false := by simpa using hey
                have hN := hide (unhide hnx d (i) (k) (x + d) (y + d) hd1 (by omega) (by omega) hd4 (.inr ⟨hex, rfl, rfl⟩) (.inr ⟨hey, rfl, rfl⟩))
                go_wp2
                go_roundw
                case rel => exact ⟨i, k, _, _, x + d, y + d, n + d, by go_num, rfl, rfl, by go_num, by go_num, hide (by have h8 := unhide hIe'; omega), hide (by have h8 := unhide hKe'; omega), hide (unhide hN).1, hide (unhide hN).2.1, hide (unhide hN).2.2, hwA⟩
                case measure => simp [intOf]; omega
          · have hz' : (p1 != 0) = true := by simpa using hz
            have hg2 : p2 + x = q2 + y := by rcases hg with h | h; exact absurd h hz; exact h
            have hg' : ((p2 + x) != (q2 + y)) = false := by simpa using hg2
            clear hg
            go_wp2_with fail
            refine (min_any (p3 - x) (q3 - y) (min (p3 - x) (q3 - y)) _ rfl).mono ?_
            rintro e w1 ⟨rfl, rfl⟩
            go_wp2_with fail
            refine (min_any (min (p3 - x) (q3 - y)) (most - n) d _ (unhide hdd).symm).mono ?_
            rintro e w1 ⟨rfl, rfl⟩
            by_cases hex : x + d = p3
            · have tx : ((x + d) == p3) = true := by simpa using hex
              by_cases hey : y + d = q3
              · have ty : ((y + d) == q3) = true := by simpa using hey
                have hN := hide (unhide hnx d (i + 1) (k + 1) (0) (0) hd1 (by omega) (by omega) hd4 (.inl ⟨hex, rfl, rfl⟩) (.inl ⟨hey, rfl, rfl⟩))
                go_wp2
                go_roundw
                case rel => exact ⟨i + 1, k + 1, _, _, 0, 0, n + d, by go_num, rfl, rfl, by go_num, by go_num, hide (by have h8 := unhide hIe'; omega), hide (by have h8 := unhide hKe'; omega), hide (unhide hN).1, hide (fun _ => rfl), hide (fun _ => rfl), hwA⟩
                case measure => simp [intOf]; omega
              · have ty : ((y + d) == q3) = false := by simpa using hey
                have hN := hide (unhide hnx d (i + 1) (k) (0) (y + d) hd1 (by omega) (by omega) hd4 (.inl ⟨hex, rfl, rfl⟩) (.inr ⟨hey, rfl, rfl⟩))
                go_wp2
                go_roundw
                case rel => exact ⟨i + 1, k, _, _, 0, y + d, n + d, by go_num, rfl, rfl, by go_num, by go_num, hide (by have h8 := unhide hIe'; omega), hide (by have h8 := unhide hKe'; omega), hide (unhide hN).1, hide (fun _ => rfl), hide (unhide hN).2.2, hwA⟩
                case measure => simp [intOf]; omega
            · have tx : ((x + d) == p3) = false := by simpa using hex
              by_cases hey : y + d = q3
              · have ty : ((y + d) == q3) = true := by simpa using hey
                have hN := hide (unhide hnx d (i) (k + 1) (x + d) (0) hd1 (by omega) (by omega) hd4 (.inr ⟨hex, rfl, rfl⟩) (.inl ⟨hey, rfl, rfl⟩))
                go_wp2
                go_roundw
                case rel => exact ⟨i, k + 1, _, _, x + d, 0, n + d, by go_num, rfl, rfl, by go_num, by go_num, hide (by have h8 := unhide hIe'; omega), hide (by have h8 := unhide hKe'; omega), hide (unhide hN).1, hide (unhide hN).2.1, hide (fun _ => rfl), hwA⟩
                case measure => simp [intOf]; omega
              · have ty : ((y + d) == q3) = false := by simpa using hey
                have hN := hide (unhide hnx d (i) (k) (x + d) (y + d) hd1 (by omega) (by omega) hd4 (.inr ⟨hex, rfl, rfl⟩) (.inr ⟨hey, rfl, rfl⟩))
                go_wp2
                go_roundw
                case rel => exact ⟨i, k, _, _, x + d, y + d, n + d, by go_num, rfl, rfl, by go_num, by go_num, hide (by have h8 := unhide hIe'; omega), hide (by have h8 := unhide hKe'; omega), hide (unhide hN).1, hide (unhide hN).2.1, hide (unhide hN).2.2, hwA⟩
                case measure => simp [intOf]; omega
        · have hF := hide ((unhide hS).differ (unhide hA) (unhide hB) (unhide hp') (unhide hq') (fun h => hg h.2))
          subst hs
          have hs' : (p1 != p1) = false := by simp
          have z1 : (p1 != 0) = true := by simp; omega
          have z2 : ((p2 + x) != (q2 + y)) = true := by simp; omega
          clear hg
          go_wp2
          go_ret
          exact ⟨n, rfl, unhide hF, unhide hwA⟩
      · have hs' : (p1 != q1) = true := by simpa using hs
        have hF := hide ((unhide hS).differ (unhide hA) (unhide hB) (unhide hp') (unhide hq') (fun h => hs h.1))
        go_wp2
        go_ret
        exact ⟨n, rfl, unhide hF, unhide hwA⟩
    · have tn : decide (n < most) = false := by simpa using hn
      have hF := hide ((unhide hS).done hn)
      have hj8' : j8 = (i : Int) := unhide hj8
      have hj9' : j9 = (k : Int) := unhide hj9
      by_cases hi : i < l.length
      · have ti : decide (j8 < (l.length : Int)) = true := by simp; omega
        by_cases hkk : k < m.length
        · have tk : decide (j9 < (m.length : Int)) = true := by simp; omega
          clear hj8' hj9'
          go_wp2
          go_ret
          exact ⟨n, rfl, unhide hF, unhide hw⟩
        · have tk : decide (j9 < (m.length : Int)) = false := by simp; omega
          clear hj8' hj9'
          go_wp2
          go_ret
          exact ⟨n, rfl, unhide hF, unhide hw⟩
      · have ti : decide (j8 < (l.length : Int)) = false := by simp; omega
        clear hj8' hj9'
        go_wp2
        go_ret
        exact ⟨n, rfl, unhide hF, unhide hw⟩

end Go.Proofs.Ytfcjdempigoiiaa
