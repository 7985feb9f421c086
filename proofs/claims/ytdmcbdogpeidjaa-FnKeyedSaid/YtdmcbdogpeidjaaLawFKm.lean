/-
  For every list of bytes that came in the law of KeyMask answers true: a mask is full at the colour itself, and no greater farther away; nothing that was there is written; no conditions.
-/
import Derived.Test.YtdmcbdogpeidjaaDrKm
import Derived.Test.YtdmcbdogpeidjaaKm2
namespace Go.Proofs.Ytdmcbdogpeidjaa
open Go.RowKit
set_option linter.unusedVariables false
set_option linter.unusedSimpArgs false

theorem km_self {p q r n f : Int} (hc : CoOk (p, q, r)) (h0 : 0 ≤ n) (h1 : n < f) (h2 : f ≤ 65535) : kmOf (p, q, r) (p, q, r) n f = 65535 := by
  rw [km_yes ⟨hc, hc, h0, h1, h2⟩]
  unfold kmAt apt
  rw [if_pos (by simp only; omega)]
theorem km_far {x y z p q r n f : Int} (hx : CoOk (x, y, z)) (hc : CoOk (p, q, r)) (h0 : 0 ≤ n) (h1 : n < f) (h2 : f ≤ 65535) : kmOf (x, y, z) (p, q, r) n f ≤ kmOf (p, q, z) (p, q, r) n f := by
  have hd : CoOk (p, q, z) := ⟨hc.1, hc.2.1, hx.2.2⟩
  rw [km_yes ⟨hx, hc, h0, h1, h2⟩, km_yes ⟨hd, hc, h0, h1, h2⟩]
  refine kmAt_mono h0 h1 h2 (apt_bd hd hc).1 ?_
  unfold apt
  simp only
  omega

set_option maxHeartbeats 6400000 in
theorem lawFKm {W : World} (a : Option Addr) (len cap : Nat) (hr : RdB W W.heap.size a len) :
    Calls Try.prog 5 #[.slice a len cap] W fun e w' => e = .returned (.bool true) ∧ Below W.heap.size W w' := by
  have hr' := hide hr
  clear hr
  by_cases hbig : 4096 < len
  · have hbd := decide_eq_true hbig
    go_enter Try.func5, Try.ntmps5
    go_wp2_with fail
    refine (big_any a len cap true _ hbd).mono ?_
    rintro e w1 ⟨rfl, rfl⟩
    go_wp2
    go_ret
    exact ⟨rfl, Below.refl _ _⟩
  have hbd := decide_eq_false hbig
  have hl : len ≤ 4096 := by omega
  clear hbig
  go_enter Try.func5, Try.ntmps5
  go_wp2_with fail
  refine (big_any a len cap false _ hbd).mono ?_
  rintro e w9 ⟨rfl, hw0⟩
  have hw1 := hw0.symm
  subst hw1
  go_wp2_with fail
  refine (dkm_any a len cap _ hl (unhide hr')).mono ?_
  rintro e w1 ⟨x, y, z, p, q, r, n, f, rfl, ly, lz, lq, lr, hb⟩
  have H1 := hide hb
  have Ly := hide ly
  have Lz := hide lz
  have Lq := hide lq
  have Lr := hide lr
  have hal : Below w1.heap.size w1 ((w1.alloc (.cells #[.int .i64 x, .int .i64 y, .int .i64 z] 26)).alloc (.cells #[.int .i64 p, .int .i64 q, .int .i64 r] 26)) := ((Below.refl _ _).alloc (Nat.le_refl _) _).alloc (by simp) _
  have H2 := hide (laterB hb hal)
  have P2 : Hid (Bx ((w1.alloc (.cells #[.int .i64 x, .int .i64 y, .int .i64 z] 26)).alloc (.cells #[.int .i64 p, .int .i64 q, .int .i64 r] 26)) w1.heap.size x y z) := hide ⟨by simp [go_sem], by simp [go_sem], by simp [go_sem], by simp [go_sem], by simp [go_sem], by simp [go_sem]⟩
  have Q2 : Hid (Bx ((w1.alloc (.cells #[.int .i64 x, .int .i64 y, .int .i64 z] 26)).alloc (.cells #[.int .i64 p, .int .i64 q, .int .i64 r] 26)) (w1.heap.size + 1) p q r) := hide ⟨by simp [go_sem], by simp [go_sem], by simp [go_sem], by simp [go_sem], by simp [go_sem], by simp [go_sem]⟩
  have hs1 := hb.size
  obtain ⟨V, hV⟩ : ∃ V, kmOf (x, y, z) (p, q, r) n f = V := ⟨_, rfl⟩
  have hV' := hide hV
  have e1 : (V != V) = false := by simp
  clear hal hb ly lz lq lr H1 hr' hV
  go_wp2_with fail
  refine (ikm_any x y z p q r n f V _ (unhide hV')).mono ?_
  rintro e w2 ⟨rfl, k2⟩
  have P3 := hide ((unhide P2).below k2)
  have Q3 := hide ((unhide Q2).below k2)
  have H3 := hide (laterB (unhide H2) k2)
  clear k2 P2 Q2 H2
  generalize w1.heap.size = h at *
  obtain ⟨p0, p1, p2, _, _, _⟩ := unhide P3
  obtain ⟨q0, q1, q2, _, _, _⟩ := unhide Q3
  go_wp2_with fail
  refine (skm_any x y z p q r n f V _ (unhide hV')).mono ?_
  rintro e w3 ⟨rfl, k3⟩
  have P4 := hide ((unhide P3).below k3)
  have Q4 := hide ((unhide Q3).below k3)
  have H4 := hide (laterB (unhide H3) k3)
  clear k3 P3 Q3 H3 p0 p1 p2 q0 q1 q2
  obtain ⟨p0, p1, p2, _, _, _⟩ := unhide P4
  obtain ⟨q0, q1, q2, _, _, _⟩ := unhide Q4
  by_cases hok : KmOk (x, y, z) (p, q, r) n f
  · obtain ⟨hx, hc, n0, n1, n2⟩ := hok
    have hx' := hide hx
    have hc' := hide hc
    obtain ⟨⟨x0, x1⟩, _, _⟩ := hx
    obtain ⟨⟨c0, c1⟩, _, _⟩ := hc
    simp only at x0 x1 c0 c1
    have t1 : decide (n < 0) = false := by simp; omega
    have t2 : decide (f ≤ n) = false := by simp; omega
    have t3 : decide (65535 < f) = false := by simp; omega
    have t4 : decide (p < 0) = false := by simp; omega
    have t5 : decide (65535 < p) = false := by simp; omega
    have t6 : decide (x < 0) = false := by simp; omega
    have t7 : decide (65535 < x) = false := by simp; omega
    have hself := hide (km_self (unhide hc') n0 n1 n2)
    obtain ⟨V2, hV2⟩ : ∃ V2, kmOf (p, q, z) (p, q, r) n f = V2 := ⟨_, rfl⟩
    have hfar : V ≤ V2 := by rw [← unhide hV', ← hV2]; exact km_far (unhide hx') (unhide hc') n0 n1 n2
    have hV2' := hide hV2
    have tt : ((65535 : Int) == 65535) = true := rfl
    have tf : decide (V ≤ V2) = true := by simpa using hfar
    have hs3 : h + 1 < w3.heap.size := (unhide Q4).lt
    have hs4 : h < w3.heap.size := by omega
    have hal : Hid (Below w3.heap.size w3 (w3.alloc (.cells #[.int .i64 p, .int .i64 q, .int .i64 z] 26))) := hide ((Below.refl _ _).alloc (Nat.le_refl _) _)
    have Q5 := hide ((unhide Q4).below (unhide hal))
    have H5 := hide (laterB (unhide H4) (unhide hal))
    have D5 : Hid (Bx (w3.alloc (.cells #[.int .i64 p, .int .i64 q, .int .i64 z] 26)) w3.heap.size p q z) := hide (Bx.new _ _ _ _ _)
    clear hV2 hfar P4 H4 hal x0 x1 c0 c1 n0 n1 n2
    go_wp2_with fail
    refine (ikm_any p q r p q r n f 65535 _ (unhide hself)).mono ?_
    rintro e w4 ⟨rfl, k4⟩
    obtain ⟨a0, a1, a2, _, _, _⟩ := (unhide Q5).below k4
    obtain ⟨b0, b1, b2, _, _, _⟩ := (unhide D5).below k4
    have H6 := hide (laterB (unhide H5) k4)
    clear k4 Q5 D5 H5 p0 p1 p2 q0 q1 q2
    go_wp2_with fail
    refine (ikm_any p q z p q r n f V2 _ (unhide hV2')).mono ?_
    rintro e w5 ⟨rfl, k5⟩
    have H7 := hide (laterB (unhide H6) k5)
    clear k5 H6
    go_wp2
    go_ret
    exact ⟨rfl, unhide H7⟩
  · have hV0 : V = 0 := by rw [← unhide hV', km_no hok]
    subst hV0
    have tz : ((0 : Int) == 0) = true := rfl
    have hno : n < 0 ∨ f ≤ n ∨ 65535 < f ∨ p < 0 ∨ 65535 < p ∨ x < 0 ∨ 65535 < x := by
      have a1 := unhide Ly
      have a2 := unhide Lz
      have a3 := unhide Lq
      have a4 := unhide Lr
      by_cases h1 : n < 0
      · exact Or.inl h1
      by_cases h2 : f ≤ n
      · exact Or.inr (Or.inl h2)
      by_cases h3 : 65535 < f
      · exact Or.inr (Or.inr (Or.inl h3))
      by_cases h4 : p < 0
      · omega
      by_cases h5 : 65535 < p
      · omega
      by_cases h6 : x < 0
      · omega
      by_cases h7 : 65535 < x
      · omega
      exact absurd ⟨⟨⟨by simp only; omega, by simp only; omega⟩, a1, a2⟩, ⟨⟨by simp only; omega, by simp only; omega⟩, a3, a4⟩, by omega, by omega, by omega⟩ hok
    clear hok
    by_cases h1 : n < 0
    · have t1 : decide (n < 0) = true := by simpa using h1
      clear hno
      go_wp2
      go_ret
      exact ⟨rfl, unhide H4⟩
    have t1 : decide (n < 0) = false := by simpa using h1
    by_cases h2 : f ≤ n
    · have t2 : decide (f ≤ n) = true := by simpa using h2
      clear hno
      go_wp2
      go_ret
      exact ⟨rfl, unhide H4⟩
    have t2 : decide (f ≤ n) = false := by simpa using h2
    by_cases h3 : 65535 < f
    · have t3 : decide (65535 < f) = true := by simpa using h3
      clear hno
      go_wp2
      go_ret
      exact ⟨rfl, unhide H4⟩
    have t3 : decide (65535 < f) = false := by simpa using h3
    by_cases h4 : p < 0
    · have t4 : decide (p < 0) = true := by simpa using h4
      clear hno
      go_wp2
      go_ret
      exact ⟨rfl, unhide H4⟩
    have t4 : decide (p < 0) = false := by simpa using h4
    by_cases h5 : 65535 < p
    · have t5 : decide (65535 < p) = true := by simpa using h5
      clear hno
      go_wp2
      go_ret
      exact ⟨rfl, unhide H4⟩
    have t5 : decide (65535 < p) = false := by simpa using h5
    by_cases h6 : x < 0
    · have t6 : decide (x < 0) = true := by simpa using h6
      clear hno
      go_wp2
      go_ret
      exact ⟨rfl, unhide H4⟩
    have t6 : decide (x < 0) = false := by simpa using h6
    have h7 : 65535 < x := by omega
    have t7 : decide (65535 < x) = true := by simpa using h7
    clear hno
    go_wp2
    go_ret
    exact ⟨rfl, unhide H4⟩

end Go.Proofs.Ytdmcbdogpeidjaa
