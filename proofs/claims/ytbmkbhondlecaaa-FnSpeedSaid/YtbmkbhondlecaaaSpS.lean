/-
  Contracts of the model's functions of speed: what is seen between keys, SpeedAt and Blend; nothing that was there is written.
-/
import Derived.Test.YtbmkbhondlecaaaKsO
namespace Go.Proofs.Ytbmkbhondlecaaa.Y
open Go.RowKit
open Go.Proofs.Ytbmkbhondlecaaa
set_option linter.unusedVariables false
set_option linter.unusedSimpArgs false

theorem div_bd {x d : Int} (hd : 1 ≤ d) (hx : -100000000000000 ≤ x ∧ x ≤ 100000000000000) : -100000000000000 ≤ x / d ∧ x / d ≤ 100000000000000 := by
  constructor
  · exact Int.le_ediv_of_mul_le (by omega) (by omega)
  · have := Int.ediv_lt_of_lt_mul (a := x) (b := 100000000000001) (c := d) (by omega) (by omega)
    omega
theorem tmod_bd {x d : Int} (hd : 1 ≤ d) : -d < x.tmod d ∧ x.tmod d < d :=
  ⟨by have h3 := Int.tmod_lt_of_pos (-x) (show 0 < d by omega); rw [Int.neg_tmod] at h3; omega, Int.tmod_lt_of_pos x (by omega)⟩
theorem mul_bd {u v : Int} (hu : -10000000 ≤ u ∧ u ≤ 10000000) (hv : -10000000 ≤ v ∧ v ≤ 10000000) : -100000000000000 ≤ u * v ∧ u * v ≤ 100000000000000 := by
  have h : (u * v).natAbs ≤ 100000000000000 := by
    rw [Int.natAbs_mul]
    have := Nat.mul_le_mul (show u.natAbs ≤ 10000000 by omega) (show v.natAbs ≤ 10000000 by omega)
    omega
  omega

set_option maxHeartbeats 400000 in
theorem down_any (x d v : Int) (w : World) (hd : 1 ≤ d) (hx : -100000000000000 ≤ x ∧ x ≤ 100000000000000) (hv : x / d = v) :
    Calls Try.prog 62 #[.int .i64 x, .int .i64 d] w fun e w' => e = .returned (.int .i64 v) ∧ w' = w := by
  have hb := div_bd hd hx
  have ht := tdiv_down (x := x) (d := d) (by omega)
  have h1 : IntKind.i64.wrap (x.tdiv d) = x.tdiv d := IntWalk.i64_quo' x d (by omega)
  have hmb := tmod_bd (x := x) hd
  have hd0 : d ≠ 0 := by omega
  by_cases h : x.tmod d < 0
  · rw [if_pos h] at ht
    have hd' : decide (x.tmod d < 0) = true := by simpa using h
    have h2 : IntKind.i64.wrap (x.tdiv d - 1) = v := by rw [ht, hv]; rw [IntKind.wrap_i64]; omega
    clear ht hb hmb hx
    go_enter Try.func62, Try.ntmps62
    go_wp2
    go_ret
    exact ⟨rfl, rfl⟩
  · rw [if_neg h] at ht
    have hd' : decide (x.tmod d < 0) = false := by simpa using h
    have h3 : IntKind.i64.wrap (x.tdiv d) = v := by rw [h1, ht, hv]
    clear hb hmb hx h1 ht hv
    go_enter Try.func62, Try.ntmps62
    go_wp2
    go_ret
    exact ⟨rfl, rfl⟩

set_option maxHeartbeats 400000 in
theorem idiv_any (x d v r : Int) (w : World) (hd : 1 ≤ d) (hd9 : d ≤ 100000000000000) (hx : -100000000000000 ≤ x ∧ x ≤ 100000000000000) (hv : x / d = v) (hr : x % d = r) :
    Calls Try.prog 69 #[.int .i64 x, .int .i64 d] w fun e w' => e = .returned (.tuple #[.int .i64 v, .int .i64 r]) ∧ w' = w := by
  have ht := tmod_up (x := x) (d := d) (by omega)
  have hmb := tmod_bd (x := x) hd
  have hq := rest_div (x := x) (d := d) (by omega)
  have hr0 : 0 ≤ x % d ∧ x % d < d := ⟨Int.emod_nonneg _ (by omega), Int.emod_lt_of_pos _ (by omega)⟩
  have hd0 : d ≠ 0 := by omega
  have hw1 : IntKind.i64.wrap (x - r) = x - r := by rw [IntKind.wrap_i64]; omega
  have hw2 : IntKind.i64.wrap ((x - r).tdiv d) = v := by rw [IntWalk.i64_quo' (x - r) d (by omega), ← hr, hq, hv]
  by_cases h : x.tmod d < 0
  · rw [if_pos h] at ht
    have hd' : decide (x.tmod d < 0) = true := by simpa using h
    have h2 : IntKind.i64.wrap (x.tmod d + d) = r := by rw [ht, hr]; rw [IntKind.wrap_i64]; omega
    clear ht hmb hx hr0 hq hr hv
    go_enter Try.func69, Try.ntmps69
    go_wp2
    exact bodyPost_ret (v := .tuple #[.int .i64 v, .int .i64 r]) (by simp [results, Try.results69, go_sem]) rfl ⟨rfl, rfl⟩
  · rw [if_neg h] at ht
    have hd' : decide (x.tmod d < 0) = false := by simpa using h
    have h2 : x.tmod d = r := by rw [ht, hr]
    have hd2 : decide (r < 0) = false := by simp; omega
    clear ht hmb hx hr0 hq hr hv h hd'
    go_enter Try.func69, Try.ntmps69
    go_wp2
    exact bodyPost_ret (v := .tuple #[.int .i64 v, .int .i64 r]) (by simp [results, Try.results69, go_sem]) rfl ⟨rfl, rfl⟩

/-- what is told of a frame: three numbers -/
abbrev tri (r : Int × Int × Int) : Value := .tuple #[.int .i64 r.1, .int .i64 r.2.1, .int .i64 r.2.2]

set_option maxHeartbeats 3200000 in
theorem sat_any (a : Option Addr) (cap : Nat) (l : List Ky) (t : Int) (w : World) (hK : KsOk l) (ht : FrOk t) (hk : Kys w a l) :
    Calls Try.prog 40 #[.slice a l.length cap, .int .i64 t] w fun e w' => e = .returned (tri (spAt l t)) ∧ Below w.heap.size w w' := by
  have hk' := hide hk
  have hK' := hide hK
  have hl1 := hK.1
  have hl2 := hK.2.1
  obtain ⟨t0, t1⟩ := ht
  obtain ⟨R, hR⟩ : ∃ R, spAt l t = R := ⟨_, rfl⟩
  rw [hR]
  have hR' := hide hR
  clear hk hK hR
  obtain ⟨b, o, s, i, rfl, hx, hbl, c0, c1⟩ := kys_at (unhide hk') (Below.refl w.heap.size w) (show 0 < l.length by omega)
  rw [Nat.zero_mul, Nat.add_zero] at c0 c1
  have hp : (0 : Int) < l.length := by omega
  by_cases h0 : t ≤ s
  · have hr : R = (i, 0, 0) := by rw [← unhide hR']; exact spAt_first hx h0
    subst hr
    have h0' : decide (t ≤ s) = true := by simpa using h0
    clear hx hbl
    go_enter Try.func40, Try.ntmps40
    go_wp2
    exact bodyPost_ret (v := tri (i, 0, 0)) (by simp [results, Try.results40, go_sem]) rfl ⟨rfl, Below.refl _ _⟩
  have h0' : decide (t ≤ s) = false := by simpa using h0
  have hst := hide (show R = atGo (s, i) (l.drop 1) t by rw [← unhide hR']; exact spAt_start hx h0)
  have hx' := hide hx
  clear hx hbl h0
  go_enter Try.func40, Try.ntmps40
  go_wp2
  go_loopw [8] (fun z wr => ∃ k m : Nat, k ≤ l.length ∧ z = .int .i64 k ∧ Hid (k = m + 1) ∧ Hid (∃ p, l[m]? = some p ∧ R = atGo p (l.drop k) t) ∧ Hid (Below w.heap.size w wr)) (fun z _ => l.length - (intOf z).toNat)
  case atStart => exact ⟨1, 0, by omega, rfl, hide rfl, hide ⟨(s, i), unhide hx', unhide hst⟩, hide (Below.refl _ _)⟩
  case round =>
    obtain ⟨k, m, hk, rfl, hm, hA, hw⟩ := hrel
    have hm2 : m < l.length := by have := unhide hm; omega
    obtain ⟨b1, o1, s1, i1, hb1, hy, hbl1, d0, d1⟩ := kys_at (unhide hk') (unhide hw) hm2
    injection hb1 with hb1
    injection hb1 with hb1 hb2
    subst hb1 hb2
    have hA1 : Hid (R = atGo (s1, i1) (l.drop k) t) := hide (by obtain ⟨p, hp, e⟩ := unhide hA; rw [hy] at hp; injection hp with hp; rw [← hp] at e; exact e)
    clear hA h0' c0 c1
    have hm3 : (m : Int) < l.length := by omega
    by_cases hlt : k < l.length
    · obtain ⟨b2, o2, s2, i2, hb2, hz, hbl2, e0, e1⟩ := kys_at (unhide hk') (unhide hw) hlt
      injection hb2 with hb2
      injection hb2 with hb3 hb4
      subst hb3 hb4
      have f1 := (unhide hK').at hy
      have f2 := (unhide hK').at hz
      have f3 := (unhide hK').rise hy (by rw [← unhide hm]; exact hz)
      obtain ⟨⟨p0, p1⟩, p2, p3⟩ := f1
      obtain ⟨⟨q0, q1⟩, q2, q3⟩ := f2
      simp only at p0 p1 p2 p3 q0 q1 q2 q3 f3
      have ek : IntKind.i64.wrap ((k : Int) - 1) = (m : Int) := by have := unhide hm; rw [IntKind.wrap_i64]; omega
      have hbw : b < wr.heap.size := Nat.lt_of_lt_of_le hbl2 (unhide hw).size
      obtain ⟨X1, hX1⟩ : ∃ X1, X1 = wr.alloc (.cells #[.int .i64 s1, .int .i64 i1] 31) := ⟨_, rfl⟩
      have g0 : X1.cell? ⟨b, o + k * 2, none⟩ = some (.int .i64 s2) := by rw [hX1]; exact cell_later ((Below.refl wr.heap.size wr).alloc (Nat.le_refl _) _) e0
      have g1 : X1.cell? ⟨b, o + k * 2 + 1, none⟩ = some (.int .i64 i2) := by rw [hX1]; exact cell_later ((Below.refl wr.heap.size wr).alloc (Nat.le_refl _) _) e1
      rw [hX1] at g0 g1
      clear hX1 X1
      have hz' := hide hz
      have hy' := hide hy
      clear hz hy hbl1 hbl2
      have hwn := hide (((unhide hw).alloc (unhide hw).size (.cells #[.int .i64 s1, .int .i64 i1] 31)).alloc (by have := (unhide hw).size; simp; omega) (.cells #[.int .i64 s2, .int .i64 i2] 31))
      by_cases hlt2 : t < s2
      · have hl2' : decide (t < s2) = true := by simpa using hlt2
        have hit := hide (show R = if t = s1 then (i1, 0, 0) else btw (s1, i1) (s2, i2) t by rw [unhide hA1]; exact atGo_hit (unhide hz') hlt2)
        obtain ⟨u, hu⟩ : ∃ u, u = t - s1 := ⟨_, rfl⟩
        obtain ⟨v, hv⟩ : ∃ v, v = i2 - i1 := ⟨_, rfl⟩
        obtain ⟨dd, hdd⟩ : ∃ dd, dd = s2 - s1 := ⟨_, rfl⟩
        obtain ⟨X, hX⟩ : ∃ X, X = u * v := ⟨_, rfl⟩
        have hXb := mul_bd (u := u) (v := v) (by omega) (by omega)
        rw [← hX] at hXb
        obtain ⟨q, hq⟩ : ∃ q, X / dd = q := ⟨_, rfl⟩
        obtain ⟨r, hr⟩ : ∃ r, X % dd = r := ⟨_, rfl⟩
        have hqb := div_bd (x := X) (d := dd) (by omega) hXb
        have hrb : 0 ≤ X % dd ∧ X % dd < dd := ⟨Int.emod_nonneg _ (by omega), Int.emod_lt_of_pos _ (by omega)⟩
        have hqd : q * dd = X - r := by have := Int.mul_ediv_add_emod X dd; rw [hq, hr, Int.mul_comm] at this; omega
        rw [hq] at hqb
        rw [hr] at hrb
        have w1 : IntKind.i64.wrap (t - s1) = u := by rw [IntKind.wrap_i64]; omega
        have w2 : IntKind.i64.wrap (i2 - i1) = v := by rw [IntKind.wrap_i64]; omega
        have w3 : IntKind.i64.wrap (u * v) = X := by rw [← hX, IntKind.wrap_i64]; omega
        have w4 : IntKind.i64.wrap (s2 - s1) = dd := by rw [IntKind.wrap_i64]; omega
        have w5 : IntKind.i64.wrap (i1 + q) = i1 + q := by rw [IntKind.wrap_i64]; omega
        have w6 : IntKind.i64.wrap (q * dd) = X - r := by rw [hqd, IntKind.wrap_i64]; omega
        have w7 : IntKind.i64.wrap (X - (X - r)) = r := by rw [IntKind.wrap_i64]; omega
        have hfin := hide (show t ≠ s1 → R = (i1 + q, r, dd) from fun hne => by rw [unhide hit, if_neg hne]; unfold btw; simp only; rw [← hu, ← hv, ← hdd, ← hX, hq, hr])
        have hdd1 : 1 ≤ dd := by omega
        have hq' := hide hq
        have hXb' := hide hXb
        clear hqd hr hq hX hXb hqb hrb
        by_cases ht1 : t = s1
        · have ht1' : (t == s1) = true := by simp [ht1]
          have hr : R = (i1, 0, 0) := by rw [unhide hit, if_pos ht1]
          subst hr
          clear hu hv hdd ht1
          go_wp2_with fail
          refine (down_any X dd q _ hdd1 (unhide hXb') (unhide hq')).mono ?_
          rintro e w9 ⟨rfl, rfl⟩
          go_wp2
          exact bodyPost_ret (v := tri (i1, 0, 0)) (by simp [results, Try.results40, go_sem]) rfl ⟨rfl, unhide hwn⟩
        · have ht1' : (t == s1) = false := by simpa using ht1
          have hr := unhide hfin ht1
          subst hr
          clear hu hv hdd ht1
          go_wp2_with fail
          refine (down_any X dd q _ hdd1 (unhide hXb') (unhide hq')).mono ?_
          rintro e w9 ⟨rfl, rfl⟩
          go_wp2
          exact bodyPost_ret (v := tri (i1 + q, r, dd)) (by simp [results, Try.results40, go_sem]) rfl ⟨rfl, unhide hwn⟩
      · have hl2' : decide (t < s2) = false := by simpa using hlt2
        have hnew := hide (show ∃ p, l[k]? = some p ∧ R = atGo p (l.drop (k + 1)) t from ⟨(s2, i2), unhide hz', by rw [unhide hA1]; exact atGo_step (unhide hz') hlt2⟩)
        clear hlt2 hA1
        go_wp2
        go_roundw
        case rel => exact ⟨k + 1, k, by omega, by go_num, hide rfl, hnew, hwn⟩
        case measure => simp [intOf]; omega
    · have hke : k = l.length := by omega
      have hr : R = (i1, 0, 0) := by rw [unhide hA1]; exact atGo_end (by omega)
      subst hr
      have ek : IntKind.i64.wrap ((l.length : Int) - 1) = (m : Int) := by have := unhide hm; rw [IntKind.wrap_i64]; omega
      have hlt' : decide (k < l.length) = false := by simpa using hlt
      have hke' := hide hke
      clear hA1 hy hbl1 hke hlt
      go_wp2
      exact bodyPost_ret (v := tri (i1, 0, 0)) (by simp [results, Try.results40, go_sem]) rfl ⟨rfl, unhide hw⟩
end Go.Proofs.Ytbmkbhondlecaaa.Y
