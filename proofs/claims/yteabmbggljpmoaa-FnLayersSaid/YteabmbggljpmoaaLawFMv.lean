/-
  For every list of bytes that came in the law of Moved answers true: a picture that is moved and moved back is itself, where it stayed inside; nothing that was there is written; no conditions.
-/
import Derived.Test.YteabmbggljpmoaaDrM
import Derived.Test.YteabmbggljpmoaaMvQ
import Derived.Test.YteabmbggljpmoaaMvS
import Derived.Laws.StructEq
namespace Go.Proofs.Yteabmbggljpmoaa
open Go.RowKit
set_option linter.unusedVariables false
set_option linter.unusedSimpArgs false

set_option maxHeartbeats 400000 in
theorem big_any (a : Option Addr) (len cap : Nat) (v : Bool) (w : World) (hv : decide ((4096 : Int) < len) = v) :
    Calls Try.prog 14 #[.slice a len cap] w fun e w' => e = .returned (.bool v) ∧ w' = w := by
  subst hv
  go_enter Try.func14, Try.ntmps14
  go_wp2
  go_ret
  exact ⟨rfl, rfl⟩
set_option maxHeartbeats 6400000 in
theorem lawFMoved {W : World} (a : Option Addr) (len cap : Nat) (hr : RdB W W.heap.size a len) :
    Calls Try.prog 5 #[.slice a len cap] W fun e w' => e = .returned (.bool true) ∧ Below W.heap.size W w' := by
  have hr' := hide hr
  clear hr
  by_cases hbig : 4096 < len
  · have hbd : decide ((4096 : Int) < len) = true := by simp; omega
    have hbd' := hide hbd
    clear hbd
    go_enter Try.func5, Try.ntmps5
    go_wp2_with fail
    refine (big_any a len cap true _ (unhide hbd')).mono ?_
    rintro e w1 ⟨rfl, rfl⟩
    go_wp2
    go_ret
    exact ⟨rfl, Below.refl _ _⟩
  have hbd : Hid (decide ((4096 : Int) < len) = false) := hide (by simp; omega)
  have hl : len ≤ 4096 := by omega
  clear hbig
  go_enter Try.func5, Try.ntmps5
  go_wp2_with fail
  refine (big_any a len cap false _ (unhide hbd)).mono ?_
  rintro e w9 ⟨rfl, hw0⟩
  have hw1 := hw0.symm
  subst hw1
  go_wp2_with fail
  refine (dmv_any a len cap hl (unhide hr')).mono ?_
  rintro e w1 ⟨p, q, dx, dy, A, c, L, rfl, hL16, hK, hb⟩
  have K1 := hide hK
  have H1 := hide hb
  have hmx : Hid (L.length ≤ maxLen) := hide (by unfold maxLen; omega)
  clear hK hb
  go_wp2_with fail
  refine (imv_any p q A c L dx dy _ (unhide hmx) (unhide K1)).mono ?_
  obtain ⟨m, hm⟩ : ∃ m, movedOf p q L dx dy = m := ⟨_, rfl⟩
  have hm' := hide hm
  rw [hm]
  clear hm
  rintro e w2 ⟨g2, c2, rfl, q2, n2, k2⟩
  have O2 := hide (own_mono n2 (Nat.zero_le _))
  have K2 := hide ((unhide K1).below k2)
  have H2 := hide (laterB (unhide H1) k2)
  clear K1 H1 k2 n2 q2
  go_wp2_with fail
  refine (smv_any p q A c L dx dy _ (unhide hmx) (unhide K2)).mono ?_
  rw [unhide hm']
  rintro e w3 ⟨g3, c3, rfl, q3, n3, k3⟩
  have O3 := hide (ownsRow_below (unhide O2) k3)
  have K3 := hide ((unhide K2).below k3)
  have H3 := hide (laterB (unhide H2) k3)
  clear K2 H2 O2 k3 n3 q3
  have t1 : ((m.length : Int) != m.length) = false := by simp
  have hml : m.length ≤ 16 := by rw [← unhide hm']; exact Nat.le_trans (moved_len _ _ _ _ _) hL16
  by_cases hm0 : m.length = 0
  · have t2 : ((m.length : Int) == 0) = true := by simp; exact List.eq_nil_of_length_eq_zero hm0
    clear hm0
    go_wp2
    go_ret
    exact ⟨rfl, unhide H3⟩
  have t2 : ((m.length : Int) == 0) = false := by simp; intro h; exact hm0 (by rw [h]; rfl)
  have hok : MvOk p q L dx dy := by
    by_cases h : MvOk p q L dx dy
    · exact h
    · exfalso
      have h2 := unhide hm'
      unfold movedOf at h2
      rw [if_neg h] at h2
      rw [← h2] at hm0
      exact hm0 rfl
  have hme : m = mvL p q L dx dy L.length := by rw [← unhide hm']; unfold movedOf; rw [if_pos hok]
  have hok2 := mv_ok hok
  rw [← hme] at hok2
  have hb2 : movedOf p q m (-dx) (-dy) = mvL p q m (-dx) (-dy) m.length := by unfold movedOf; rw [if_pos hok2]
  have hmL : m.length = L.length := by rw [hme, mvL_len]
  obtain ⟨⟨⟨a0, a1⟩, ⟨b0, b1⟩, hln, _⟩, ⟨dx0, dx1⟩, ⟨dy0, dy1⟩⟩ := hok
  obtain ⟨wn, rfl⟩ : ∃ wn : Nat, p = wn := ⟨p.toNat, by omega⟩
  obtain ⟨hn, rfl⟩ : ∃ hn : Nat, q = hn := ⟨q.toNat, by omega⟩
  have hln2 : L.length = wn * hn := by rw [← Int.natCast_mul] at hln; omega
  have hback : Hid (∀ y x : Nat, y < hn → x < wn → (mvL wn hn m (-dx) (-dy) m.length)[y * wn + x]? = some (wantAt wn hn L dx dy y x (y * wn + x))) := hide (fun y x hy hx => by
    rw [hmL, hme]
    exact back_at hln2 hy hx)
  have hb2' := hide hb2
  have hmx2 : Hid (m.length ≤ maxLen) := hide (by unfold maxLen; omega)
  have hln' := hide hln2
  have hmL' := hide hmL
  have w3' : IntKind.i64.wrap ((wn : Int) * hn) = L.length := by rw [← hln, IntKind.wrap_i64]; omega
  clear hme hok2 hb2 hmL hln hln2 hm0
  go_wp2_with fail
  refine (imv_any _ _ (some ⟨g2, 0, none⟩) c2 m (-dx) (-dy) _ (unhide hmx2) (kls_own (unhide O3))).mono ?_
  rw [unhide hb2']
  obtain ⟨bb, hbb⟩ : ∃ bb, mvL wn hn m (-dx) (-dy) m.length = bb := ⟨_, rfl⟩
  have hbl : Hid (bb.length = L.length) := hide (by rw [← hbb, mvL_len]; exact unhide hmL')
  have hback2 : Hid (∀ y x : Nat, y < hn → x < wn → bb[y * wn + x]? = some (wantAt wn hn L dx dy y x (y * wn + x))) := hide (by rw [← hbb]; exact unhide hback)
  rw [hbb]
  clear hbb hback
  rintro e w4 ⟨g4, c4, rfl, q4, n4, k4⟩
  have KB := hide (kls_own n4)
  have K4 := hide ((unhide K3).below k4)
  have H4 := hide (laterB (unhide H3) k4)
  have hbl2 : bb.length = L.length := unhide hbl
  clear K3 H3 O3 k4 n4 q4
  go_wp2
  go_loopw [10] (fun t wr => ∃ i : Nat, i ≤ L.length ∧ t = .int .i64 i ∧ Hid (Below w4.heap.size w4 wr)) (fun t _ => L.length - (intOf t).toNat)
  case atStart => exact ⟨0, by omega, rfl, hide (Below.refl _ _)⟩
  case round =>
    obtain ⟨i, hi, rfl, hB⟩ := hrel
    by_cases hlt : i < L.length
    rotate_left
    · have hie : i = L.length := by omega
      have t5 : decide ((i : Int) < L.length) = false := by simp; omega
      go_wp2
      go_ret
      exact ⟨rfl, laterB (unhide H4) (unhide hB)⟩
    obtain ⟨y, x, hy, hx, hyx⟩ : ∃ y x : Nat, y < hn ∧ x < wn ∧ i = y * wn + x := by
      refine ⟨i / wn, i % wn, ?_, Nat.mod_lt _ (by omega), ?_⟩
      · exact Nat.div_lt_of_lt_mul (by rw [unhide hln'] at hlt; exact hlt)
      · rw [Nat.mul_comm]; exact (Nat.div_add_mod i wn).symm
    have hw := unhide hback2 y x hy hx
    rw [← hyx] at hw
    have hr0 : (i : Int).tmod wn = x := by
      rw [Int.tmod_eq_emod_of_nonneg (by omega), hyx]; exact (at_yx hx).2
    have hq0 : (i : Int).tdiv wn = y := by
      rw [Int.tdiv_eq_ediv_of_nonneg (by omega), hyx]; exact (at_yx hx).1
    have hq1 : IntKind.i64.wrap ((i : Int).tdiv wn) = y := by rw [hq0, IntKind.wrap_i64]; omega
    have hwn0 : (wn : Int) ≠ 0 := by omega
    have hbi : i < bb.length := by omega
    obtain ⟨b, o, z0, z1, z2, z3, rfl, hz, hbl3, e0, e1, e2, e3⟩ := kls_at (unhide K4) (unhide hB) hlt
    obtain ⟨b5, o5, v0, v1, v2, v3, hg5, hv, hbl5, f0, f1, f2, f3⟩ := kls_at (unhide KB) (unhide hB) hbi
    have hg6 := Option.some.inj hg5
    injection hg6 with hg7 hg8
    subst hg7
    subst hg8
    clear hg5
    rw [Nat.zero_add] at f0 f1 f2 f3
    have hbs : b < wr.heap.size := Nat.lt_of_lt_of_le hbl3 (unhide hB).size
    have hgs : g4 < wr.heap.size := Nat.lt_of_lt_of_le hbl5 (unhide hB).size
    have hzd : L.getD i Z4 = (z0, z1, z2, z3) := by rw [List.getD_eq_getElem?_getD, hz]; rfl
    have hwv : wantAt wn hn L dx dy y x i = (v0, v1, v2, v3) := by rw [hw] at hv; exact Option.some.inj hv
    unfold wantAt at hwv
    rw [hzd] at hwv
    clear hw hyx hbl3 hbl5 hz hv hzd
    by_cases hin : (0 ≤ (x : Int) + dx ∧ (x : Int) + dx < wn) ∧ (0 ≤ (y : Int) + dy ∧ (y : Int) + dy < hn)
    · rw [if_pos hin] at hwv
      injection hwv with u0 hwv
      injection hwv with u1 hwv
      injection hwv with u2 u3
      subst u0 u1 u2 u3
      obtain ⟨⟨i0, i1⟩, i2, i3⟩ := hin
      go_wp2_with fail
      go_region
      go_wp2
      go_roundw
      case rel => exact ⟨i + 1, by omega, by go_num, hide (((unhide hB).alloc (unhide hB).size _).drew)⟩
      case measure => simp [intOf]; omega
    · rw [if_neg hin] at hwv
      injection hwv with u0 hwv
      injection hwv with u1 hwv
      injection hwv with u2 u3
      subst u0 u1 u2 u3
      by_cases i0 : 0 ≤ (x : Int) + dx
      rotate_left
      · have s0 : decide (0 ≤ (x : Int) + dx) = false := by simpa using i0
        clear hin
        go_wp2_with fail
        go_region
        go_wp2
        go_roundw
        case rel => exact ⟨i + 1, by omega, by go_num, hide (((unhide hB).alloc (unhide hB).size _).drew)⟩
        case measure => simp [intOf]; omega
      by_cases i1 : (x : Int) + dx < wn
      rotate_left
      · have s1 : decide ((x : Int) + dx < wn) = false := by simpa using i1
        clear hin
        go_wp2_with fail
        go_region
        go_wp2
        go_roundw
        case rel => exact ⟨i + 1, by omega, by go_num, hide (((unhide hB).alloc (unhide hB).size _).drew)⟩
        case measure => simp [intOf]; omega
      by_cases i2 : 0 ≤ (y : Int) + dy
      rotate_left
      · have s2 : decide (0 ≤ (y : Int) + dy) = false := by simpa using i2
        clear hin
        go_wp2_with fail
        go_region
        go_wp2
        go_roundw
        case rel => exact ⟨i + 1, by omega, by go_num, hide (((unhide hB).alloc (unhide hB).size _).drew)⟩
        case measure => simp [intOf]; omega
      have i3 : ¬ (y : Int) + dy < hn := fun h => hin ⟨⟨i0, i1⟩, i2, h⟩
      have s3 : decide ((y : Int) + dy < hn) = false := by simpa using i3
      clear hin
      go_wp2_with fail
      go_region
      go_wp2
      go_roundw
      case rel => exact ⟨i + 1, by omega, by go_num, hide (((unhide hB).alloc (unhide hB).size _).drew)⟩
      case measure => simp [intOf]; omega

end Go.Proofs.Yteabmbggljpmoaa
