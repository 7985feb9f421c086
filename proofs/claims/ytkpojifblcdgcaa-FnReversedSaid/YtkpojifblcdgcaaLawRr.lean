/-
  For every list of bytes: of the track that is drawn of them, reversed, the last frame comes first, and reversed again it is the track, joined; the program answers as its model does; no conditions.
-/
import Derived.Test.YtkpojifblcdgcaaDrV
import Derived.Test.YtkpojifblcdgcaaIFa
import Derived.Test.YtkpojifblcdgcaaIRv
import Derived.Test.YtkpojifblcdgcaaRvP
import Derived.Test.YtkpojifblcdgcaaSmC
import Derived.Test.YtkpojifblcdgcaaFrA
namespace Go.Proofs.Ytkpojifblcdgcaa
open Go.RowKit
set_option linter.unusedVariables false
set_option linter.unusedSimpArgs false

set_option maxHeartbeats 6400000 in
theorem lawRr {W : World} (a : Option Addr) (len cap : Nat) (hr : RdB W W.heap.size a len) :
    Calls Try.prog 3 #[.slice a len cap] W fun e w' => e = .returned (.bool true) ∧ Below W.heap.size W w' := by
  have hr' := hide hr
  clear hr
  by_cases hbig : (4096 : Int) < len
  · have hbd : decide ((4096 : Int) < len) = true := by simpa using hbig
    go_enter Try.func3, Try.ntmps3
    go_wp2_with fail
    refine (big_any a len cap true _ hbd).mono ?_
    rintro e w1 ⟨rfl, rfl⟩
    go_wp2
    go_ret
    exact ⟨rfl, Below.refl _ _⟩
  have hbd : decide ((4096 : Int) < len) = false := by simpa using hbig
  go_enter Try.func3, Try.ntmps3
  go_wp2_with fail
  refine (big_any a len cap false _ hbd).mono ?_
  rintro e w0 ⟨rfl, hw0⟩
  have hw1 := hw0.symm
  subst hw1
  go_wp2_with fail
  refine (drv_any a len cap W (by omega) (unhide hr')).mono ?_
  rintro e w1 ⟨r, c, n, rfl, hn, ⟨L, hLn, hO0⟩, H0⟩
  have hO1 := hide hO0
  have H1 := hide H0
  subst hLn
  clear hO0 H0 hr'
  have hmx : L.length ≤ maxLen := by unfold maxLen; omega
  obtain ⟨R, hR⟩ : ∃ R, revOf L = R := ⟨_, rfl⟩
  have hR' := hide hR
  clear hR
  obtain ⟨v, hv⟩ : ∃ v, R.isSome = v := ⟨_, rfl⟩
  have hv' := hide hv
  have e1 : (v != v) = false := by simp
  clear hv
  obtain ⟨U, hU⟩ : ∃ U, outL R = U := ⟨_, rfl⟩
  have hU' := hide hU
  have hU3 : U.length ≤ 300 := by rw [← hU, ← unhide hR']; exact rev_len L
  clear hU
  go_wp2_with fail
  refine (Y.irev_any (some ⟨r, 0, none⟩) c L R _ hmx (kls_own (unhide hO1)) (unhide hR')).mono ?_
  rintro e w2 ⟨g2, c2, rfl, hg2, ho2, k2⟩
  rw [unhide hU'] at ho2 ⊢
  rw [unhide hv']
  have hO2 := hide (ownsRow_below (unhide hO1) k2)
  have oU := hide (own_mono ho2 (Nat.zero_le _))
  have H2 := hide (laterB (unhide H1) k2)
  clear k2 hO1 H1 ho2 hg2
  go_wp2_with fail
  refine (Y.srev_any (some ⟨r, 0, none⟩) c L R _ hmx (kls_own (unhide hO2)) (unhide hR')).mono ?_
  rintro e w3 ⟨g3, c3, rfl, hg3, ho3, k3⟩
  rw [unhide hU'] at ho3 ⊢
  rw [unhide hv']
  have hO3 := hide (ownsRow_below (unhide hO2) k3)
  have oU := hide (ownsRow_below (unhide oU) k3)
  have H3 := hide (laterB (unhide H2) k3)
  clear k3 hO2 H2 ho3 hg3
  cases v with
  | false =>
    have hn0 : U.length = 0 := by
      have h1 := unhide hv'
      have h2 := unhide hU'
      cases R with
      | none => rw [← h2]; rfl
      | some x => cases h1
    have hu0 : ((U.length : Int) == 0) = true := by rw [hn0]; rfl
    clear hn0
    go_wp2
    go_ret
    exact ⟨rfl, unhide H3⟩
  | true =>
    have hsome : revOf L = some U := by
      have h1 := unhide hv'
      have h2 := unhide hU'
      rw [unhide hR']
      cases R with
      | none => cases h1
      | some x => rw [← h2]; rfl
    obtain ⟨hT, hc2, hTU, hcU, hsee, hbk⟩ := rev_back hsome
    have hc0 := clen_nonneg hT.2.1
    obtain ⟨m, hm⟩ : ∃ m : Nat, clen L = m := ⟨(clen L).toNat, by omega⟩
    rw [hm] at hcU hsee hc2
    have hm2 : m ≤ 2000 := by omega
    have hfl := hide (fun (k : Nat) (x y : Int) (W2 : World) (hk : k < m) (hxy : seen L (k : Int) = (x, y)) (hb : Below w3.heap.size w3 W2) => Y.ifat_any (some ⟨r, 0, none⟩) c L (k : Int) x y W2 hT (by omega) (by omega) ((kls_own (unhide hO3)).below hb) hxy)
    have hfu := hide (fun (k : Nat) (q x y : Int) (W2 : World) (hk : k < m) (hq : (m : Int) - 1 - (k : Nat) = q) (hxy : seen L (k : Int) = (x, y)) (hb : Below w3.heap.size w3 W2) => Y.ifat_any (some ⟨g2, 0, none⟩) c2 U q x y W2 hTU (by omega) (by omega) ((kls_own (unhide oU)).below hb) (by rw [← hq, hsee (k : Int) (by omega) (by omega)]; exact hxy))
    have hle := hide (Y.ilen_any (some ⟨r, 0, none⟩) c L (m : Int) w3 hT hm (kls_own (unhide hO3)))
    have hmU : U.length ≤ maxLen := by unfold maxLen; omega
    have hrb := hide (fun (W2 : World) (hb : Below w3.heap.size w3 W2) => Y.irev_any (some ⟨g2, 0, none⟩) c2 U (some (join L)) W2 hmU ((kls_own (unhide oU)).below hb) hbk)
    have hjo := hide (fun (W2 : World) (hb : Below w3.heap.size w3 W2) => ijoined_any (some ⟨r, 0, none⟩) c L W2 hmx ((kls_own (unhide hO3)).below hb))
    have hJ : joinOf L = join L := if_pos hT
    rw [hJ] at hjo
    obtain ⟨J, hJ2⟩ : ∃ J, join L = J := ⟨_, rfl⟩
    have hJl : J.length ≤ 300 := by rw [← hJ2]; exact Nat.le_trans (len_join L) hT.1
    rw [hJ2] at hjo hrb
    clear hT hc2 hTU hcU hsee hbk hc0 hm hsome hJ hJ2
    go_wp2_with fail
    refine (unhide hle).mono ?_
    rintro e w4 ⟨rfl, k4⟩
    have H4 := hide k4
    clear k4 hle
    go_wp2
    go_loopw [9] (fun y wr => ∃ k : Nat, k ≤ m ∧ y = .int .i64 (k : Nat) ∧ Hid (Below w3.heap.size w3 wr)) (fun y _ => m - (intOf y).toNat)
    case atStart => exact ⟨0, by omega, rfl, H4⟩
    case round =>
      clear H4
      obtain ⟨k, hk, rfl, hw⟩ := hrel
      by_cases hlt : k < m
      · have hltI : decide ((k : Int) < (m : Int)) = true := by simp; omega
        have hltN : decide (k < m) = true := decide_eq_true hlt
        by_cases h40 : k < 40
        · have h4 : decide ((k : Int) < 40) = true := by simp; omega
          have h4N : decide (k < 40) = true := decide_eq_true h40
          obtain ⟨x, y, hxy⟩ : ∃ x y, seen L (k : Int) = (x, y) := ⟨(seen L (k : Int)).1, (seen L (k : Int)).2, rfl⟩
          obtain ⟨q, hq⟩ : ∃ q, (m : Int) - 1 - (k : Nat) = q := ⟨_, rfl⟩
          have f1 := hide (unhide hfl k x y wr hlt hxy (unhide hw))
          have f2 := hide (fun (W2 : World) (hb : Below w3.heap.size w3 W2) => unhide hfu k q x y W2 hlt hq hxy hb)
          have q1 : IntKind.i64.wrap ((m : Int) - 1) = (m : Int) - 1 := by rw [IntKind.wrap_i64]; omega
          have q2 : IntKind.i64.wrap ((m : Int) - 1 - (k : Int)) = q := by rw [IntKind.wrap_i64]; omega
          have ex : (x != x) = false := by simp
          have ey : (y != y) = false := by simp
          clear hxy hq
          go_wp2_with fail
          refine (unhide f1).mono ?_
          rintro e w5 ⟨rfl, k5⟩
          have hw5 := hide (laterB (unhide hw) k5)
          clear k5 f1 hw
          go_wp2_with fail
          refine (unhide f2 _ (unhide hw5)).mono ?_
          rintro e w6 ⟨rfl, k6⟩
          have hw6 := hide (laterB (unhide hw5) k6)
          clear k6 f2 hw5
          go_wp2
          go_roundw
          case rel => exact ⟨k + 1, by omega, by go_num, hw6⟩
          case measure => simp [intOf]; omega
        · have h4 : decide ((k : Int) < 40) = false := by simp; omega
          have h4N : decide (k < 40) = false := decide_eq_false h40
          have em2 : True := trivial
          go_wp2_with fail
          refine (unhide hrb _ (unhide hw)).mono ?_
          rintro e w5 ⟨g5, c5, rfl, hg5, ho5, k5⟩
          have hw5 := hide (laterB (unhide hw) k5)
          have o5 := hide ho5
          clear k5 ho5
          simp only [outL, Option.getD_some, Option.isSome_some]
          have o5 : Hid (Own w5 wr.heap.size g5 J.length c5 J) := hide (by have := unhide o5; simpa [outL] using this)
          go_wp2_with fail
          refine (unhide hjo _ (unhide hw5)).mono ?_
          rintro e w6 ⟨g6, c6, rfl, hg6, ho6, k6⟩
          have hw6 := hide (laterB (unhide hw5) k6)
          have o5 := hide (ownsRow_below (unhide o5) k6)
          have o6 := hide ho6
          clear k6 ho6
          go_wp2_with fail
          refine (sames_any _ _ _ _ J _ (by omega) (kls_own (unhide o5)) (kls_own (unhide o6))).mono ?_
          rintro e w7 ⟨rfl, k7⟩
          have hw7 := hide (laterB (unhide H3) (laterB (unhide hw6) k7))
          clear k7 o5 o6
          go_wp2
          go_ret
          exact ⟨rfl, unhide hw7⟩
      · have hltI : decide ((k : Int) < (m : Int)) = false := by simp; omega
        have hltN : decide (k < m) = false := decide_eq_false hlt
        have em2 : True := trivial
        go_wp2_with fail
        refine (unhide hrb _ (unhide hw)).mono ?_
        rintro e w5 ⟨g5, c5, rfl, hg5, ho5, k5⟩
        have hw5 := hide (laterB (unhide hw) k5)
        have o5 := hide ho5
        clear k5 ho5
        simp only [outL, Option.getD_some, Option.isSome_some]
        have o5 : Hid (Own w5 wr.heap.size g5 J.length c5 J) := hide (by have := unhide o5; simpa [outL] using this)
        go_wp2_with fail
        refine (unhide hjo _ (unhide hw5)).mono ?_
        rintro e w6 ⟨g6, c6, rfl, hg6, ho6, k6⟩
        have hw6 := hide (laterB (unhide hw5) k6)
        have o5 := hide (ownsRow_below (unhide o5) k6)
        have o6 := hide ho6
        clear k6 ho6
        go_wp2_with fail
        refine (sames_any _ _ _ _ J _ (by omega) (kls_own (unhide o5)) (kls_own (unhide o6))).mono ?_
        rintro e w7 ⟨rfl, k7⟩
        have hw7 := hide (laterB (unhide H3) (laterB (unhide hw6) k7))
        clear k7 o5 o6
        go_wp2
        go_ret
        exact ⟨rfl, unhide hw7⟩
end Go.Proofs.Ytkpojifblcdgcaa
