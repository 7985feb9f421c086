/-
  Contracts of what asks for a name, and of what orders two names; nothing is written.
-/
import Derived.Test.YtcgdcabmjihijaaPkP
import Derived.Test.YtcgdcabmjihijaaLv
namespace Go.Proofs.Ytcgdcabmjihijaa
open Go.RowKit
set_option linter.unusedVariables false
set_option linter.unusedSimpArgs false

theorem idx_str {s : ByteArray} {l : List UInt8} {k : Nat} {c : UInt8} (hl : s.data.toList = l) (h : l[k]? = some c) (w : World) : (Instr.index 9 (.string s) (.int .i64 (k : Int))).run Try.prog w = .ok (.int .u8 (c.toNat : Int)) w := by
  have hk : k < l.length := (List.getElem?_eq_some_iff.1 h).1
  have hsz : s.size = l.length := by rw [Lib.size_eq, hl]
  rw [run_index_string w 9 s .i64 k Try.underlying9, dif_pos ⟨by omega, by omega⟩]
  have e : s[(k : Int).toNat]'(by omega) = c := by
    have h2 : s.data.toList[k]? = some c := by rw [hl]; exact h
    simp only [Int.toNat_natCast]
    have h3 : s.data[k]? = some c := by rw [← h2]; simp
    have h4 := (Array.getElem?_eq_some_iff.1 h3).2
    exact h4
  rw [e]
set_option maxRecDepth 100000 in
set_option maxHeartbeats 3200000 in
theorem snm_any (s : ByteArray) (w : World) (hs : s.size ≤ maxLen) : Calls Try.prog 17 #[.string s] w fun e w' => e = .returned (.bool (nmOk s)) ∧ w' = w := by
  unfold maxLen at hs
  by_cases h1 : 1 ≤ s.size
  rotate_left
  · have g1 : decide ((s.size : Int) < 1) = true := by simp; omega
    rw [nm_short h1]
    go_enter Try.func17, Try.ntmps17
    go_wp2
    go_ret
    exact ⟨rfl, rfl⟩
  have g1 : decide ((s.size : Int) < 1) = false := by simp; omega
  by_cases h2 : s.size ≤ 40
  rotate_left
  · have g2 : decide ((40 : Int) < s.size) = true := by simp; omega
    rw [nm_long h2]
    go_enter Try.func17, Try.ntmps17
    go_wp2
    go_ret
    exact ⟨rfl, rfl⟩
  have g2 : decide ((40 : Int) < s.size) = false := by simp; omega
  go_enter Try.func17, Try.ntmps17
  go_wp2
  go_loop [3] (fun t => ∃ k : Nat, k ≤ s.size ∧ t = .int .i64 k ∧ Hid (∀ (j : Nat) (c : UInt8), j < k → s.data.toList[j]? = some c → chOk (c.toNat : Int) = true)) (fun t => s.size - (intOf t).toNat)
  case atStart => exact ⟨0, by omega, rfl, hide (fun j c h => by omega)⟩
  case round =>
    obtain ⟨k, hk, rfl, hpre⟩ := hrel
    by_cases hlt : k < s.size
    · obtain ⟨c, hc⟩ : ∃ c, s.data.toList[k]? = some c := ⟨_, List.getElem?_eq_getElem (by rw [← Lib.size_eq]; exact hlt)⟩
      have hi := idx_str rfl hc w
      obtain ⟨x, hx⟩ : ∃ x : Int, (c.toNat : Int) = x := ⟨_, rfl⟩
      have hx0 : 0 ≤ x ∧ x ≤ 255 := by have := c.toNat_lt; omega
      have hch := hide hc
      rw [hx] at hi
      have hx' := hide hx
      clear hc hx
      have g1 : decide ((k : Int) < s.size) = true := by simp; omega
      cases hok : chOk x with
      | false =>
        obtain ⟨n1, n2, n3, n4, n5⟩ := ch_no hok
        have hfin := hide (nm_bad (unhide hch) (by rw [unhide hx']; exact hok))
        clear hok
        have e4 : (x != 95) = true := by simpa using n4
        have e5 : (x != 46) = true := by simpa using n5
        have b1 : (decide (x < 48) || decide (57 < x)) = true := by simp; omega
        have b2 : (decide (x < 97) || decide (122 < x)) = true := by simp; omega
        have b3 : (decide (x < 65) || decide (90 < x)) = true := by simp; omega
        go_wp2
        all_goals
          first
          | (exfalso; omega)
          | (go_ret; exact ⟨ret_bool (unhide hfin).symm, rfl⟩)
      | true =>
        have hpre' := hide (show ∀ (j : Nat) (c : UInt8), j < k + 1 → s.data.toList[j]? = some c → chOk (c.toNat : Int) = true from fun j c' hj hc' => by
          rcases Nat.lt_or_ge j k with h | h
          · exact unhide hpre j c' h hc'
          · have : j = k := by omega
            subst this
            rw [unhide hch] at hc'; injection hc' with hc'; subst hc'; rw [unhide hx']; exact hok)
        have hy := ch_yes hok
        clear hok hpre
        rcases hy with hy | hy | hy | hy | hy
        all_goals
          go_wp2
          all_goals
            first
            | (exfalso; omega)
            | (go_round
               case rel => exact ⟨k + 1, by omega, by go_num, hpre'⟩
               case measure => simp [intOf]; omega)
    · have g1 : decide ((k : Int) < s.size) = false := by simp; omega
      have hfin := hide (nm_good h1 h2 (fun j c hc => unhide hpre j c (by have := (List.getElem?_eq_some_iff.1 hc).1; rw [Lib.size_eq] at hlt; omega) hc))
      go_wp2
      go_ret
      exact ⟨ret_bool (unhide hfin).symm, rfl⟩
set_option maxHeartbeats 400000 in
theorem icap_any (x : Int) (v : Bool) (w : World) (hv : (decide (65 ≤ x) && decide (x ≤ 90)) = v) : Calls Try.prog 37 #[.int .u8 x] w fun e w' => e = .returned (.bool v) ∧ w' = w := by
  subst hv
  by_cases h1 : 65 ≤ x
  · by_cases h2 : x ≤ 90
    · go_enter Try.func37, Try.ntmps37
      go_wp2
      go_ret
      exact ⟨ret_bool (by simp [h1, h2]), rfl⟩
    · go_enter Try.func37, Try.ntmps37
      go_wp2
      go_ret
      exact ⟨ret_bool (by simp [h2]), rfl⟩
  · have hd : decide (65 ≤ x) = false := by simpa using h1
    go_enter Try.func37, Try.ntmps37
    go_wp2
    go_ret
    exact ⟨ret_bool (by simp), rfl⟩
set_option maxHeartbeats 400000 in
theorem idgt_any (x : Int) (v : Bool) (w : World) (hv : (decide (48 ≤ x) && decide (x ≤ 57)) = v) : Calls Try.prog 36 #[.int .u8 x] w fun e w' => e = .returned (.bool v) ∧ w' = w := by
  subst hv
  by_cases h1 : 48 ≤ x
  · by_cases h2 : x ≤ 57
    · go_enter Try.func36, Try.ntmps36
      go_wp2
      go_ret
      exact ⟨ret_bool (by simp [h1, h2]), rfl⟩
    · go_enter Try.func36, Try.ntmps36
      go_wp2
      go_ret
      exact ⟨ret_bool (by simp [h2]), rfl⟩
  · have hd : decide (48 ≤ x) = false := by simpa using h1
    go_enter Try.func36, Try.ntmps36
    go_wp2
    go_ret
    exact ⟨ret_bool (by simp), rfl⟩
def ltB (x : Int) : Bool := (decide (65 ≤ x) && decide (x ≤ 90)) || (decide (97 ≤ x) && decide (x ≤ 122))
set_option maxHeartbeats 800000 in
theorem iltr_any (x : Int) (w : World) : Calls Try.prog 35 #[.int .u8 x] w fun e w' => e = .returned (.bool (ltB x)) ∧ w' = w := by
  obtain ⟨v, hv⟩ : ∃ v, (decide (65 ≤ x) && decide (x ≤ 90)) = v := ⟨_, rfl⟩
  have hL : Hid (ltB x = (v || (decide (97 ≤ x) && decide (x ≤ 122)))) := hide (by unfold ltB; rw [hv])
  have hv' := hide hv
  clear hv
  cases v with
  | true =>
    go_enter Try.func35, Try.ntmps35
    go_wp2_with fail
    refine (icap_any x true _ (unhide hv')).mono ?_
    rintro e w1 ⟨rfl, rfl⟩
    go_wp2
    go_ret
    exact ⟨ret_bool (by rw [unhide hL]; rfl), rfl⟩
  | false =>
    by_cases h1 : 97 ≤ x
    · go_enter Try.func35, Try.ntmps35
      go_wp2_with fail
      refine (icap_any x false _ (unhide hv')).mono ?_
      rintro e w1 ⟨rfl, rfl⟩
      go_wp2
      go_ret
      exact ⟨ret_bool (by rw [unhide hL]; simp [h1]), rfl⟩
    · have hd : decide (97 ≤ x) = false := by simpa using h1
      go_enter Try.func35, Try.ntmps35
      go_wp2_with fail
      refine (icap_any x false _ (unhide hv')).mono ?_
      rintro e w1 ⟨rfl, rfl⟩
      go_wp2
      go_ret
      exact ⟨ret_bool (by rw [unhide hL, hd]; rfl), rfl⟩
theorem ch_parts (x : Int) : chOk x = (ltB x || (decide (48 ≤ x) && decide (x ≤ 57)) || decide (x = 95) || decide (x = 46)) := by
  unfold chOk ltB
  rw [Bool.eq_iff_iff]; simp; omega
set_option maxRecDepth 100000 in
set_option maxHeartbeats 1600000 in
theorem inm_any (s : ByteArray) (w : World) (hs : s.size ≤ maxLen) : Calls Try.prog 33 #[.string s] w fun e w' => e = .returned (.bool (nmOk s)) ∧ w' = w := by
  unfold maxLen at hs
  by_cases h1 : 1 ≤ s.size
  rotate_left
  · have g1 : decide ((s.size : Int) < 1) = true := by simp; omega
    rw [nm_short h1]
    go_enter Try.func33, Try.ntmps33
    go_wp2
    go_ret
    exact ⟨rfl, rfl⟩
  have g1 : decide ((s.size : Int) < 1) = false := by simp; omega
  by_cases h2 : s.size ≤ 40
  rotate_left
  · have g2 : decide ((40 : Int) < s.size) = true := by simp; omega
    rw [nm_long h2]
    go_enter Try.func33, Try.ntmps33
    go_wp2
    go_ret
    exact ⟨rfl, rfl⟩
  have g2 : decide ((40 : Int) < s.size) = false := by simp; omega
  go_enter Try.func33, Try.ntmps33
  go_wp2
  go_loop [15] (fun t => ∃ k : Nat, k ≤ s.size ∧ t = .int .i64 k ∧ Hid (∀ (j : Nat) (c : UInt8), j < k → s.data.toList[j]? = some c → chOk (c.toNat : Int) = true)) (fun t => s.size - (intOf t).toNat)
  case atStart => exact ⟨0, by omega, rfl, hide (fun j c h => by omega)⟩
  case round =>
    obtain ⟨k, hk, rfl, hpre⟩ := hrel
    by_cases hlt : k < s.size
    · obtain ⟨c, hc⟩ : ∃ c, s.data.toList[k]? = some c := ⟨_, List.getElem?_eq_getElem (by rw [← Lib.size_eq]; exact hlt)⟩
      have hi := idx_str rfl hc w
      obtain ⟨x, hx⟩ : ∃ x : Int, (c.toNat : Int) = x := ⟨_, rfl⟩
      have hx0 : 0 ≤ x ∧ x ≤ 255 := by have := c.toNat_lt; omega
      have hch := hide hc
      rw [hx] at hi
      have hx' := hide hx
      clear hc hx
      have g1 : decide ((k : Int) < s.size) = true := by simp; omega
      obtain ⟨v, hv⟩ : ∃ v, chOk x = v := ⟨_, rfl⟩
      have hbad := hide (show v = false → nmOk s = false from fun e => nm_bad (unhide hch) (by rw [unhide hx', hv, e]))
      have hpre' := hide (show v = true → ∀ (j : Nat) (c : UInt8), j < k + 1 → s.data.toList[j]? = some c → chOk (c.toNat : Int) = true from fun e j c' hj hc' => by
        rcases Nat.lt_or_ge j k with h | h
        · exact unhide hpre j c' h hc'
        · have : j = k := by omega
          subst this
          rw [unhide hch] at hc'; injection hc' with hc'; subst hc'; rw [unhide hx', hv, e])
      have hv' := hide (hv.symm.trans (ch_parts x))
      clear hv hpre hx' hch
      have hlt' := hide (iltr_any x)
      obtain ⟨p, hp⟩ : ∃ p, ltB x = p := ⟨_, rfl⟩
      obtain ⟨d, hd⟩ : ∃ d, (decide (48 ≤ x) && decide (x ≤ 57)) = d := ⟨_, rfl⟩
      have hd' := hide hd
      rw [hp, hd] at hv'
      rw [hp] at hlt'
      clear hp hd
      obtain ⟨u, hu⟩ : ∃ u, (x != 95) = u := ⟨_, rfl⟩
      obtain ⟨z, hz⟩ : ∃ z, (x != 46) = z := ⟨_, rfl⟩
      have hv2 := hide (show v = (p || d || !u || !z) by rw [unhide hv', ← hu, ← hz]; simp [bne]; rfl)
      clear hv'
      cases p with
      | true =>
        go_wp2_with fail
        refine (unhide hlt' _).mono ?_
        rintro e w1 ⟨rfl, rfl⟩
        go_wp2
        go_round
        case rel => exact ⟨k + 1, by omega, by go_num, hide (unhide hpre' (by rw [unhide hv2]; rfl))⟩
        case measure => simp [intOf]; omega
      | false =>
        cases d with
        | true =>
          go_wp2_with fail
          refine (unhide hlt' _).mono ?_
          rintro e w1 ⟨rfl, rfl⟩
          go_wp2_with fail
          refine (idgt_any x true _ (unhide hd')).mono ?_
          rintro e w1 ⟨rfl, rfl⟩
          go_wp2
          go_round
          case rel => exact ⟨k + 1, by omega, by go_num, hide (unhide hpre' (by rw [unhide hv2]; rfl))⟩
          case measure => simp [intOf]; omega
        | false =>
          cases u with
          | false =>
            go_wp2_with fail
            refine (unhide hlt' _).mono ?_
            rintro e w1 ⟨rfl, rfl⟩
            go_wp2_with fail
            refine (idgt_any x false _ (unhide hd')).mono ?_
            rintro e w1 ⟨rfl, rfl⟩
            go_wp2
            go_round
            case rel => exact ⟨k + 1, by omega, by go_num, hide (unhide hpre' (by rw [unhide hv2]; rfl))⟩
            case measure => simp [intOf]; omega
          | true =>
            cases z with
            | false =>
              go_wp2_with fail
              refine (unhide hlt' _).mono ?_
              rintro e w1 ⟨rfl, rfl⟩
              go_wp2_with fail
              refine (idgt_any x false _ (unhide hd')).mono ?_
              rintro e w1 ⟨rfl, rfl⟩
              go_wp2
              go_round
              case rel => exact ⟨k + 1, by omega, by go_num, hide (unhide hpre' (by rw [unhide hv2]; rfl))⟩
              case measure => simp [intOf]; omega
            | true =>
              go_wp2_with fail
              refine (unhide hlt' _).mono ?_
              rintro e w1 ⟨rfl, rfl⟩
              go_wp2_with fail
              refine (idgt_any x false _ (unhide hd')).mono ?_
              rintro e w1 ⟨rfl, rfl⟩
              go_wp2
              go_ret
              exact ⟨ret_bool (unhide hbad (by rw [unhide hv2]; rfl)).symm, rfl⟩
    · have g1 : decide ((k : Int) < s.size) = false := by simp; omega
      have hfin := hide (nm_good h1 h2 (fun j c hc => unhide hpre j c (by have := (List.getElem?_eq_some_iff.1 hc).1; rw [Lib.size_eq] at hlt; omega) hc))
      go_wp2
      go_ret
      exact ⟨ret_bool (unhide hfin).symm, rfl⟩
set_option maxHeartbeats 1600000 in
theorem sbef_any (a b : ByteArray) (w : World) (ha : a.size ≤ maxLen) (hb : b.size ≤ maxLen) : Calls Try.prog 19 #[.string a, .string b] w fun e w' => e = .returned (.bool (bef a b)) ∧ ∃ n, w' = w.drewN n := by
  unfold maxLen at ha hb
  have sa := Lib.size_eq a
  have sb := Lib.size_eq b
  have sa' := hide sa
  have sb' := hide sb
  clear sa sb
  go_enter Try.func19, Try.ntmps19
  go_wp2
  go_loopw [5] (fun t wr => ∃ k : Nat, k ≤ a.size ∧ k ≤ b.size ∧ t = .int .i64 k ∧ Hid (∀ j, j < k → a.data.toList[j]? = b.data.toList[j]?) ∧ Hid (∃ n, wr = w.drewN n)) (fun t _ => a.size - (intOf t).toNat)
  case atStart => exact ⟨0, by omega, by omega, rfl, hide (fun j h => by omega), hide ⟨0, rfl⟩⟩
  case round =>
    obtain ⟨k, h1, h2, rfl, hpre, hw⟩ := hrel
    by_cases hka : k < a.size
    · have g1 : decide ((k : Int) < a.size) = true := by simp; omega
      by_cases hkb : k < b.size
      · have g2 : decide ((k : Int) < b.size) = true := by simp; omega
        obtain ⟨c, hc⟩ : ∃ c, a.data.toList[k]? = some c := ⟨_, List.getElem?_eq_getElem (by rw [← unhide sa']; exact hka)⟩
        obtain ⟨d, hd⟩ : ∃ d, b.data.toList[k]? = some d := ⟨_, List.getElem?_eq_getElem (by rw [← unhide sb']; exact hkb)⟩
        have i1 := fun w => idx_str rfl hc w
        have i2 := fun w => idx_str rfl hd w
        by_cases hcd : c = d
        · subst hcd
          have hn := hide (show ∀ j, j < k + 1 → a.data.toList[j]? = b.data.toList[j]? from fun j hj => by
            rcases Nat.lt_or_ge j k with h | h
            · exact unhide hpre j h
            · have : j = k := by omega
              subst this; rw [hc, hd])
          have e1 : ((c.toNat : Int) != c.toNat) = false := by simp
          clear hc hd hpre
          go_wp2_with fail
          go_quiet (fail)
          go_wp2
          go_roundw
          case rel => exact ⟨k + 1, by omega, by omega, by go_num, hn, hide (by obtain ⟨n, rfl⟩ := unhide hw; exact ⟨_, World.drewN_drewN _ _ _⟩)⟩
          case measure => simp [intOf]; omega
        · have hfin := hide (show bef a b = decide ((c.toNat : Int) < d.toNat) by rw [bef_eq]; exact bl_at hc hd (unhide hpre) hcd)
          have e1 : ((c.toNat : Int) != d.toNat) = true := by
            simp only [bne_iff_ne, ne_eq]
            intro h
            exact hcd (UInt8.toNat_inj.1 (by omega))
          clear hc hd hpre
          go_wp2_with fail
          go_quiet (fail)
          go_wp2_with fail
          go_quiet (fail)
          go_wp2
          go_ret
          exact ⟨ret_bool (by rw [unhide hfin]; simp), by obtain ⟨n, rfl⟩ := unhide hw; exact ⟨_, by rw [World.drewN_drewN, World.drewN_drewN]⟩⟩
      · have g2 : decide ((k : Int) < b.size) = false := by simp; omega
        have hfin := hide (show bef a b = decide ((a.size : Int) < b.size) by rw [bef_eq, unhide sa', unhide sb']; exact bl_end (fun j x y => unhide hpre j (by have := unhide sb'; omega)))
        go_wp2
        go_ret
        exact ⟨ret_bool (by rw [unhide hfin]; simp), unhide hw⟩
    · have g1 : decide ((k : Int) < a.size) = false := by simp; omega
      have hfin := hide (show bef a b = decide ((a.size : Int) < b.size) by rw [bef_eq, unhide sa', unhide sb']; exact bl_end (fun j x y => unhide hpre j (by have := unhide sa'; omega)))
      go_wp2
      go_ret
      exact ⟨ret_bool (by rw [unhide hfin]; simp), unhide hw⟩

end Go.Proofs.Ytcgdcabmjihijaa
