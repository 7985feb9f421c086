/-
  For every list of bytes that came in the law of a cube's bounds answers true: what a cube gives lies between the least and the greatest number of its nodes, and at a node is that node; nothing that was there is written; no conditions.
-/
import Derived.Test.YtdmcbdogpeidjaaDrCc
import Derived.Test.YtdmcbdogpeidjaaSCu2
import Derived.Test.YtdmcbdogpeidjaaCubQ
import Derived.Laws.StructEq
namespace Go.Proofs.Ytdmcbdogpeidjaa
open Go.RowKit
set_option linter.unusedVariables false
set_option linter.unusedSimpArgs false

theorem cub_bad {n : Int} {l : List Kl} {x y z : Int} (h : l = [] ∨ n < 2 ∨ 9 < n ∨ (l.length : Int) ≠ n * n * n ∨ x < 0 ∨ 65535 < x ∨ ∃ c, l[0]? = some c ∧ 65535 < c.1) : cubOf n l (x, y, z) = (0, 0, 0) := by
  refine cub_no (fun hc => ?_)
  obtain ⟨h1, h2, h3, h4⟩ := hc
  rcases h with h | h | h | h | h | h | ⟨c, h, h'⟩
  · subst h
    have : 8 ≤ n * n * n := by
      have : n = 2 ∨ n = 3 ∨ n = 4 ∨ n = 5 ∨ n = 6 ∨ n = 7 ∨ n = 8 ∨ n = 9 := by omega
      rcases this with rfl | rfl | rfl | rfl | rfl | rfl | rfl | rfl <;> omega
    simp at h2
    omega
  · omega
  · omega
  · exact h h2
  · have := h4.1.1; simp only at this; omega
  · have := h4.1.2; simp only at this; omega
  · have := (h3.at h).1.2; omega
theorem tg_all {l : List Kl} {a b c : Int} (h : TG l) (h0 : l[0]? = some (a, b, c)) (ha : a ≤ 65535) : CsOk l := by
  intro d hd
  obtain ⟨j, hj, he⟩ := List.mem_iff_getElem.1 hd
  have hj' : l[j]? = some d := by rw [List.getElem?_eq_getElem hj, he]
  obtain ⟨p, q, r, s⟩ := h j d hj'
  refine ⟨⟨r, ?_⟩, p, q⟩
  rcases s with s | s
  · exact s
  · subst s
    rw [h0] at hj'
    injection hj' with hj'
    subst hj'
    exact ha

theorem node_at0 {w : World} {b o : Nat} {l : List Kl} {c0 c1 c2 : Int} (h : Kls w (some ⟨b, o, none⟩) l) (hK : l[0]? = some (c0, c1, c2)) : b < w.heap.size ∧ w.cell? ⟨b, o, none⟩ = some (.int .i64 c0) ∧ w.cell? ⟨b, o + 1, none⟩ = some (.int .i64 c1) ∧ w.cell? ⟨b, o + 2, none⟩ = some (.int .i64 c2) := by
  obtain ⟨h1, h2, h3, h4⟩ := node_at h (Below.refl _ _) hK
  simp only [Nat.zero_mul, Nat.add_zero] at h2 h3 h4
  exact ⟨h1, h2, h3, h4⟩
theorem keep7 {W w0 w1 : World} {a1 a2 a3 a4 a5 a6 a7 : Addr} {v1 v2 v3 v4 v5 v6 v7 : Value}
    (h : w0.cell? a1 = some v1 ∧ w0.cell? a2 = some v2 ∧ w0.cell? a3 = some v3 ∧ w0.cell? a4 = some v4 ∧ w0.cell? a5 = some v5 ∧ w0.cell? a6 = some v6 ∧ w0.cell? a7 = some v7 ∧ Below W.heap.size W w0) (hb : Below w0.heap.size w0 w1) :
    w1.cell? a1 = some v1 ∧ w1.cell? a2 = some v2 ∧ w1.cell? a3 = some v3 ∧ w1.cell? a4 = some v4 ∧ w1.cell? a5 = some v5 ∧ w1.cell? a6 = some v6 ∧ w1.cell? a7 = some v7 ∧ Below W.heap.size W w1 := by
  obtain ⟨h1, h2, h3, h4, h5, h6, h7, h8⟩ := h
  exact ⟨cell_later hb h1, cell_later hb h2, cell_later hb h3, cell_later hb h4, cell_later hb h5, cell_later hb h6, cell_later hb h7, laterB h8 hb⟩
theorem keep7d {W w0 : World} {a1 a2 a3 a4 a5 a6 a7 : Addr} {v1 v2 v3 v4 v5 v6 v7 : Value}
    (h : w0.cell? a1 = some v1 ∧ w0.cell? a2 = some v2 ∧ w0.cell? a3 = some v3 ∧ w0.cell? a4 = some v4 ∧ w0.cell? a5 = some v5 ∧ w0.cell? a6 = some v6 ∧ w0.cell? a7 = some v7 ∧ Below W.heap.size W w0) :
    w0.drew.cell? a1 = some v1 ∧ w0.drew.cell? a2 = some v2 ∧ w0.drew.cell? a3 = some v3 ∧ w0.drew.cell? a4 = some v4 ∧ w0.drew.cell? a5 = some v5 ∧ w0.drew.cell? a6 = some v6 ∧ w0.drew.cell? a7 = some v7 ∧ Below W.heap.size W w0.drew := by
  obtain ⟨h1, h2, h3, h4, h5, h6, h7, h8⟩ := h
  exact ⟨h1, h2, h3, h4, h5, h6, h7, h8.drew⟩

set_option maxRecDepth 100000 in
set_option maxHeartbeats 6400000 in
theorem lawFCu {W : World} (a : Option Addr) (len cap : Nat) (hr : RdB W W.heap.size a len) :
    Calls Try.prog 3 #[.slice a len cap] W fun e w' => e = .returned (.bool true) ∧ Below W.heap.size W w' := by
  have hr' := hide hr
  clear hr
  by_cases hbig : 4096 < len
  · have hbd := decide_eq_true hbig
    go_enter Try.func3, Try.ntmps3
    go_wp2_with fail
    refine (big_any a len cap true _ hbd).mono ?_
    rintro e w1 ⟨rfl, rfl⟩
    go_wp2
    go_ret
    exact ⟨rfl, Below.refl _ _⟩
  have hbd := decide_eq_false hbig
  have hl : len ≤ 4096 := by omega
  clear hbig
  go_enter Try.func3, Try.ntmps3
  go_wp2_with fail
  refine (big_any a len cap false _ hbd).mono ?_
  rintro e w9 ⟨rfl, hw0⟩
  have hw1 := hw0.symm
  subst hw1
  go_wp2_with fail
  refine (dcube_any a len cap _ hl (unhide hr')).mono ?_
  rintro e w1 ⟨n, r, o, c, l, x, y, z, rfl, hTG, hln, ly, lz, hK, hb⟩
  have hlm' : Hid (l.length ≤ maxLen) := hide (by unfold maxLen; omega)
  have Tg := hide hTG
  have Ly := hide ly
  have Lz := hide lz
  have hal : Below w1.heap.size w1 (w1.alloc (.cells #[.int .i64 x, .int .i64 y, .int .i64 z] 26)) := (Below.refl _ _).alloc (Nat.le_refl _) _
  have K2 := hide (hK.below hal)
  have C2 : Hid (Bx (w1.alloc (.cells #[.int .i64 x, .int .i64 y, .int .i64 z] 26)) w1.heap.size x y z) := hide (Bx.new _ _ _ _ _)
  have H2 := hide (laterB hb hal)
  obtain ⟨V0, V1, V2, hV⟩ : ∃ V0 V1 V2, cubOf n l (x, y, z) = (V0, V1, V2) := ⟨_, _, _, rfl⟩
  have hV' := hide hV
  clear hal hK hb hTG ly lz hr' hV
  go_wp2_with fail
  refine (icub_any n (some ⟨r, o, none⟩) c l x y z _ (unhide hlm') (unhide K2)).mono ?_
  rintro e w2 ⟨rfl, k2⟩
  rw [unhide hV']
  have K3 := hide ((unhide K2).below k2)
  have C3 := hide ((unhide C2).below k2)
  have H3 := hide (laterB (unhide H2) k2)
  clear k2 K2 C2 H2
  generalize w1.heap.size = h5 at *
  have hs5 : h5 < w2.heap.size := (unhide C3).lt
  have hal : Below w2.heap.size w2 (w2.alloc (.cells #[.int .i64 V0, .int .i64 V1, .int .i64 V2] 26)) := (Below.refl _ _).alloc (Nat.le_refl _) _
  have K4 := hide ((unhide K3).below hal)
  have C4 := hide ((unhide C3).below hal)
  have X4 : Hid (Bx (w2.alloc (.cells #[.int .i64 V0, .int .i64 V1, .int .i64 V2] 26)) w2.heap.size V0 V1 V2) := hide (Bx.new _ _ _ _ _)
  have H4 := hide (laterB (unhide H3) hal)
  have K4d : Hid (Kls (w2.alloc (.cells #[.int .i64 V0, .int .i64 V1, .int .i64 V2] 26)).drew (some ⟨r, o, none⟩) l) := hide ((unhide K4).blk rfl (Nat.le_refl _))
  have hall : Hid ((w2.alloc (.cells #[.int .i64 V0, .int .i64 V1, .int .i64 V2] 26)).cell? ⟨w2.heap.size, 0, none⟩ = some (.int .i64 V0) ∧ (w2.alloc (.cells #[.int .i64 V0, .int .i64 V1, .int .i64 V2] 26)).cell? ⟨w2.heap.size, 1, none⟩ = some (.int .i64 V1) ∧ (w2.alloc (.cells #[.int .i64 V0, .int .i64 V1, .int .i64 V2] 26)).cell? ⟨w2.heap.size, 2, none⟩ = some (.int .i64 V2) ∧ (w2.alloc (.cells #[.int .i64 V0, .int .i64 V1, .int .i64 V2] 26)).cell? ⟨h5, 0, none⟩ = some (.int .i64 x) ∧ (w2.alloc (.cells #[.int .i64 V0, .int .i64 V1, .int .i64 V2] 26)).cell? ⟨h5, 1, none⟩ = some (.int .i64 y) ∧ (w2.alloc (.cells #[.int .i64 V0, .int .i64 V1, .int .i64 V2] 26)).cell? ⟨h5, 2, none⟩ = some (.int .i64 z) ∧ Below W.heap.size W (w2.alloc (.cells #[.int .i64 V0, .int .i64 V1, .int .i64 V2] 26))) := hide ⟨(unhide X4).c0, (unhide X4).c1, (unhide X4).c2, (unhide C4).c0, (unhide C4).c1, (unhide C4).c2, unhide H4⟩
  have e0 : (V0 == V0) = true := by simp
  have e1 : (V1 == V1) = true := by simp
  have e2 : (V2 == V2) = true := by simp
  clear hal K3 C3 H3
  go_wp2_with fail
  go_region_held3 (fun w' => w'.cell? ⟨w2.heap.size, 0, none⟩ = some (.int .i64 V0) ∧ w'.cell? ⟨w2.heap.size, 1, none⟩ = some (.int .i64 V1) ∧ w'.cell? ⟨w2.heap.size, 2, none⟩ = some (.int .i64 V2) ∧ w'.cell? ⟨h5, 0, none⟩ = some (.int .i64 x) ∧ w'.cell? ⟨h5, 1, none⟩ = some (.int .i64 y) ∧ w'.cell? ⟨h5, 2, none⟩ = some (.int .i64 z) ∧ Below W.heap.size W w')
    (first | (refine keep6 ?_ hb; assumption) | (exact keep6d (unhide hall)))
    ((go_at_call 14; refine (scub_any n (some ⟨r, o, none⟩) c l x y z _ (unhide hlm') (unhide K4d)).mono ?_; rintro e w1 ⟨rfl, hb⟩; rw [unhide hV']; have K5 := hide ((unhide K4d).below hb)))
  have hH := keep6 (keep6d (unhide hall)) hb
  obtain ⟨x0, x1, x2, y0, y1, y2, hbb⟩ := hH
  have H5 := hide hbb
  have X5 := hide (And.intro x0 (And.intro x1 x2))
  clear hbb hb hall K4 K4d C4 X4 H4
  generalize w2.heap.size = h6 at *
  have tz : ((0 : Int) == 0) = true := rfl
  by_cases hq : l.length = 0
  · have t1 : ((l.length : Int) == 0) = true := by simp [hq]
    have t1' : (l.length == 0) = true := by simp [hq]
    have hnil : l = [] := List.length_eq_zero_iff.1 hq

    have hz := unhide hV'
    rw [cub_bad (Or.inl hnil)] at hz
    injection hz with z0 hz
    injection hz with z1 z2
    subst z0 z1 z2
    go_wp2
    go_ret
    exact ⟨rfl, unhide H5⟩
  have t1 : ((l.length : Int) == 0) = false := by rw [beq_eq_false_iff_ne]; omega
  have t1' : (l.length == 0) = false := by rw [beq_eq_false_iff_ne]; omega
  have hl0 : 0 < l.length := by omega
  have hl0' : (0 : Int) < l.length := by omega
  clear hq
  by_cases hq : n < 2
  · have t2 : decide (n < 2) = true := by simpa using hq

    have hz := unhide hV'
    rw [cub_bad (Or.inr (Or.inl hq))] at hz
    injection hz with z0 hz
    injection hz with z1 z2
    subst z0 z1 z2
    go_wp2
    go_ret
    exact ⟨rfl, unhide H5⟩
  have t2 : decide (n < 2) = false := by simpa using hq
  have n0 : 2 ≤ n := by omega
  clear hq
  by_cases hq : 9 < n
  · have t3 : decide (9 < n) = true := by simpa using hq

    have hz := unhide hV'
    rw [cub_bad (Or.inr (Or.inr (Or.inl hq)))] at hz
    injection hz with z0 hz
    injection hz with z1 z2
    subst z0 z1 z2
    go_wp2
    go_ret
    exact ⟨rfl, unhide H5⟩
  have t3 : decide (9 < n) = false := by simpa using hq
  have n1 : n ≤ 9 := by omega
  clear hq
  obtain ⟨b0, b1, b2, b3⟩ := cube_bd ⟨n0, n1⟩
  generalize hN2 : n * n = N2 at *
  generalize hN3 : N2 * n = N3 at *
  have eN3 : Hid (n * n * n = N3) := hide (by rw [hN2, hN3])
  by_cases hq : ¬ (l.length : Int) = N3
  · have t4 : ((l.length : Int) != N3) = true := by simpa using hq

    have hz := unhide hV'
    rw [cub_bad (Or.inr (Or.inr (Or.inr (Or.inl (by rw [unhide eN3]; exact hq)))))] at hz
    injection hz with z0 hz
    injection hz with z1 z2
    subst z0 z1 z2
    go_wp2
    go_ret
    exact ⟨rfl, unhide H5⟩
  have t4 : ((l.length : Int) != N3) = false := by simpa using hq
  have hEl : Hid ((l.length : Int) = N3) := hide (by omega)
  clear hq
  by_cases hq : x < 0
  · have t5 : decide (x < 0) = true := by simpa using hq

    have hz := unhide hV'
    rw [cub_bad (Or.inr (Or.inr (Or.inr (Or.inr (Or.inl hq)))))] at hz
    injection hz with z0 hz
    injection hz with z1 z2
    subst z0 z1 z2
    go_wp2
    go_ret
    exact ⟨rfl, unhide H5⟩
  have t5 : decide (x < 0) = false := by simpa using hq
  have xx0 : 0 ≤ x := by omega
  clear hq
  by_cases hq : 65535 < x
  · have t6 : decide (65535 < x) = true := by simpa using hq

    have hz := unhide hV'
    rw [cub_bad (Or.inr (Or.inr (Or.inr (Or.inr (Or.inr (Or.inl hq))))))] at hz
    injection hz with z0 hz
    injection hz with z1 z2
    subst z0 z1 z2
    go_wp2
    go_ret
    exact ⟨rfl, unhide H5⟩
  have t6 : decide (65535 < x) = false := by simpa using hq
  have xx1 : x ≤ 65535 := by omega
  clear hq
  obtain ⟨⟨e3, e4, e5⟩, he⟩ : ∃ q : Kl, l[0]? = some q := ⟨_, List.getElem?_eq_getElem hl0⟩
  have he' := hide he
  obtain ⟨hrw, m0, m1, m2⟩ := node_at0 (unhide K5) he
  clear he
  by_cases hq : 65535 < e3
  · have t7 : decide (65535 < e3) = true := by simpa using hq

    have hz := unhide hV'
    rw [cub_bad (Or.inr (Or.inr (Or.inr (Or.inr (Or.inr (Or.inr (⟨_, unhide he', hq⟩)))))))] at hz
    injection hz with z0 hz
    injection hz with z1 z2
    subst z0 z1 z2
    go_wp2
    go_ret
    exact ⟨rfl, unhide H5⟩
  have t7 : decide (65535 < e3) = false := by simpa using hq
  have hCs : Hid (CsOk l) := hide (tg_all (unhide Tg) (unhide he') (by omega))
  clear hq
  have hOK : Hid (CubOk n l (x, y, z)) := hide ⟨⟨n0, n1⟩, by rw [unhide eN3]; exact unhide hEl, unhide hCs, ⟨xx0, xx1⟩, unhide Ly, unhide Lz⟩
  obtain ⟨KK, hKK⟩ : ∃ KK : Nat, (KK : Int) = N3 - 1 := ⟨(N3 - 1).toNat, by omega⟩
  have hKl : KK < l.length := by have := unhide hEl; omega
  obtain ⟨⟨k0, k1, k2⟩, hk⟩ : ∃ q : Kl, l[KK]? = some q := ⟨_, List.getElem?_eq_getElem hKl⟩
  have hk' := hide hk
  obtain ⟨_, p0, p1, p2⟩ := node_at (unhide K5) (Below.refl _ _) hk
  have hP := hide (And.intro p0 (And.intro p1 p2))
  have hZ := hide (cub_zero ⟨n0, n1⟩ (by rw [unhide eN3]; exact unhide hEl) (unhide hCs) (unhide he'))
  have hF := hide (cub_full ⟨n0, n1⟩ (by rw [unhide eN3]; exact unhide hEl) (unhide hCs) (by rw [unhide eN3]; exact hKK) (unhide hk'))
  have hKi : (KK : Int) < l.length := by omega
  have hKi0 : (0 : Int) ≤ (KK : Int) := by omega
  have hKK' := hide hKK
  clear hk hKK p0 p1 p2 y0 y1 y2
  go_wp2
  go_loop [7, 8, 9] (fun le mo t => ∃ (k : Nat) (lo hi : Int), k ≤ l.length ∧ t = .int .i64 k ∧ le = .int .i64 lo ∧ mo = .int .i64 hi ∧ Hid (∀ (j : Nat) (q : Kl), j < k → l[j]? = some q → lo ≤ q.2.1 ∧ q.2.1 ≤ hi)) (fun _ _ t => l.length - (intOf t).toNat)
  case atStart => exact ⟨0, e4, e4, by omega, rfl, rfl, rfl, hide (fun j q h => by omega)⟩
  case round =>
    obtain ⟨k, lo, hi, hk9, rfl, rfl, rfl, hB⟩ := hrel
    by_cases hlt : k < l.length
    · obtain ⟨⟨g0, g1, g2⟩, hg⟩ : ∃ q : Kl, l[k]? = some q := ⟨_, List.getElem?_eq_getElem hlt⟩
      have hg' := hide hg
      obtain ⟨_, s0, s1, s2⟩ := node_at (unhide K5) (Below.refl _ _) hg
      have hnew : ∀ lo' hi' : Int, lo' ≤ lo → hi ≤ hi' → lo' ≤ g1 → g1 ≤ hi' → Hid (∀ (j : Nat) (q : Kl), j < k + 1 → l[j]? = some q → lo' ≤ q.2.1 ∧ q.2.1 ≤ hi') := fun lo' hi' q1 q2 q3 q4 => hide (fun j q hj hq => by
        by_cases e : j = k
        · subst e
          rw [unhide hg'] at hq
          injection hq with hq
          subst hq
          exact ⟨q3, q4⟩
        · have := unhide hB j q (by omega) hq
          omega)
      have hnew' := hide hnew
      clear hg hnew
      by_cases ha : g1 < lo
      · have ta : decide (g1 < lo) = true := by simpa using ha
        by_cases hb : hi < g1
        · have tb : decide (hi < g1) = true := by simpa using hb
          go_wp2
          go_round
          case rel => exact ⟨k + 1, g1, g1, by omega, by go_num, rfl, rfl, unhide hnew' _ _ (by omega) (by omega) (by omega) (by omega)⟩
          case measure => simp [intOf]; omega
        · have tb : decide (hi < g1) = false := by simpa using hb
          go_wp2
          go_round
          case rel => exact ⟨k + 1, g1, hi, by omega, by go_num, rfl, rfl, unhide hnew' _ _ (by omega) (by omega) (by omega) (by omega)⟩
          case measure => simp [intOf]; omega
      · have ta : decide (g1 < lo) = false := by simpa using ha
        by_cases hb : hi < g1
        · have tb : decide (hi < g1) = true := by simpa using hb
          go_wp2
          go_round
          case rel => exact ⟨k + 1, lo, g1, by omega, by go_num, rfl, rfl, unhide hnew' _ _ (by omega) (by omega) (by omega) (by omega)⟩
          case measure => simp [intOf]; omega
        · have tb : decide (hi < g1) = false := by simpa using hb
          go_wp2
          go_round
          case rel => exact ⟨k + 1, lo, hi, by omega, by go_num, rfl, rfl, unhide hnew' _ _ (by omega) (by omega) (by omega) (by omega)⟩
          case measure => simp [intOf]; omega
    · have hke : k = l.length := by omega
      have hbd2 := cub_bounds (unhide hOK) (lo := lo) (hi := hi) (fun j q hq => unhide hB j q (by have := (List.getElem?_eq_some_iff.1 hq).1; omega) hq)
      rw [unhide hV'] at hbd2
      obtain ⟨v0, v1⟩ := hbd2
      simp only at v0 v1
      have tv0 : decide (lo ≤ V1) = true := by simpa using v0
      have tv1 : decide (V1 ≤ hi) = true := by simpa using v1
      have wN2 : IntKind.i64.wrap N2 = N2 := by rw [IntKind.wrap_i64]; omega
      have wN3 : IntKind.i64.wrap N3 = N3 := by rw [IntKind.wrap_i64]; omega
      have wN4 : IntKind.i64.wrap (N3 - 1) = (KK : Int) := by rw [← unhide hKK', IntKind.wrap_i64]; omega
      have eq3 : (e3 == e3) = true := by simp
      have eq4 : (e4 == e4) = true := by simp
      have eq5 : (e5 == e5) = true := by simp
      have kq0 : (k0 == k0) = true := by simp
      have kq1 : (k1 == k1) = true := by simp
      have kq2 : (k2 == k2) = true := by simp
      have hall : Hid (w1.cell? ⟨h6, 1, none⟩ = some (.int .i64 V1) ∧ w1.cell? ⟨r, o, none⟩ = some (.int .i64 e3) ∧ w1.cell? ⟨r, o + 1, none⟩ = some (.int .i64 e4) ∧ w1.cell? ⟨r, o + 2, none⟩ = some (.int .i64 e5) ∧ w1.cell? ⟨r, o + KK * 3, none⟩ = some (.int .i64 k0) ∧ w1.cell? ⟨r, o + KK * 3 + 1, none⟩ = some (.int .i64 k1) ∧ w1.cell? ⟨r, o + KK * 3 + 2, none⟩ = some (.int .i64 k2) ∧ Below W.heap.size W w1) := hide ⟨(unhide X5).2.1, m0, m1, m2, (unhide hP).1, (unhide hP).2.1, (unhide hP).2.2, unhide H5⟩
      have K5d : Hid (Kls w1.drew (some ⟨r, o, none⟩) l) := hide ((unhide K5).blk rfl (Nat.le_refl _))
      go_wp2_with fail
      go_region_held3 (fun w' => w'.cell? ⟨h6, 1, none⟩ = some (.int .i64 V1) ∧ w'.cell? ⟨r, o, none⟩ = some (.int .i64 e3) ∧ w'.cell? ⟨r, o + 1, none⟩ = some (.int .i64 e4) ∧ w'.cell? ⟨r, o + 2, none⟩ = some (.int .i64 e5) ∧ w'.cell? ⟨r, o + KK * 3, none⟩ = some (.int .i64 k0) ∧ w'.cell? ⟨r, o + KK * 3 + 1, none⟩ = some (.int .i64 k1) ∧ w'.cell? ⟨r, o + KK * 3 + 2, none⟩ = some (.int .i64 k2) ∧ Below W.heap.size W w')
        (first | (refine keep7 ?_ hb; assumption) | (exact keep7d (unhide hall)))
        (first | (go_at_call 13; with_reducible refine (icub_any n (some ⟨r, o, none⟩) c l 0 0 0 _ (unhide hlm') (unhide K5d)).mono ?_; rintro e w6 ⟨rfl, hb⟩; rw [unhide hZ]; have K6 := hide ((unhide K5d).below hb)) | (go_at_call 13; with_reducible refine (icub_any n (some ⟨r, o, none⟩) c l 65535 65535 65535 _ (unhide hlm') (unhide K6)).mono ?_; rintro e w7 ⟨rfl, hb⟩; rw [unhide hF]))
      all_goals go_wp2
      all_goals go_ret
      all_goals exact ⟨rfl, by rename_i hH; exact hH.2.2.2.2.2.2.2⟩
end Go.Proofs.Ytdmcbdogpeidjaa
