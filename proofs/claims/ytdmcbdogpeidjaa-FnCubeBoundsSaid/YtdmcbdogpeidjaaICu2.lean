/-
  Contract of the program's Cube; nothing that was there is written.
-/
import Derived.Test.YtdmcbdogpeidjaaICu
namespace Go.Proofs.Ytdmcbdogpeidjaa
open Go.RowKit
set_option linter.unusedVariables false
set_option linter.unusedSimpArgs false

def cval (o : Option Value) : Nat := match o with
  | some (.int _ x) => 1 - gn x
  | _ => 0
/-- how many rests are not yet gone -/
def mes (w : World) (g : Nat) : Nat := cval (w.cell? ⟨g, 0, none⟩) + cval (w.cell? ⟨g, 1, none⟩) + cval (w.cell? ⟨g, 2, none⟩)
theorem mes_of {w : World} {g : Nat} {x y z : Int} (h : Bx w g x y z) : mes w g = (1 - gn x) + (1 - gn y) + (1 - gn z) := by
  unfold mes
  rw [h.c0, h.c1, h.c2]
  rfl
theorem bx_o3 {w : World} {g b : Nat} {u v s : Value} {x y z : Int} (h : Bx w g x y z) (hne : g ≠ b) : Bx (((w.setCell ⟨b, 0, none⟩ u).setCell ⟨b, 1, none⟩ v).setCell ⟨b, 2, none⟩ s) g x y z := ((h.other hne).other hne).other hne
theorem bx_s3 {w : World} {g : Nat} {x y z a b c : Int} (h : Bx w g x y z) : Bx (((w.setCell ⟨g, 0, none⟩ (.int .i64 a)).setCell ⟨g, 1, none⟩ (.int .i64 b)).setCell ⟨g, 2, none⟩ (.int .i64 c)) g a b c := ((h.set0 a).set1 b).set2 c
theorem bel_s3 {w v : World} {B g : Nat} {x y z : Value} (h : Below B w v) (hg : B ≤ g) : Below B w (((v.setCell ⟨g, 0, none⟩ x).setCell ⟨g, 1, none⟩ y).setCell ⟨g, 2, none⟩ z) := ((h.setCell hg _).setCell hg _).setCell hg _
/-- the node's cells -/
theorem node_at {w wr : World} {b o K : Nat} {l : List Kl} {c0 c1 c2 : Int} (h : Kls w (some ⟨b, o, none⟩) l) (hw : Below w.heap.size w wr) (hK : l[K]? = some (c0, c1, c2)) : b < w.heap.size ∧ wr.cell? ⟨b, o + K * 3, none⟩ = some (.int .i64 c0) ∧ wr.cell? ⟨b, o + K * 3 + 1, none⟩ = some (.int .i64 c1) ∧ wr.cell? ⟨b, o + K * 3 + 2, none⟩ = some (.int .i64 c2) := by
  obtain ⟨b', o', e, h1, k0, k1, k2⟩ := h K _ hK
  injection e with e
  injection e with e1 e2
  subst e1 e2
  have C := fun i => (bcell hw).1 b i h1
  exact ⟨h1, (C _).trans k0, (C _).trans k1, (C _).trans k2⟩
/-- what a state on the way gives the walk -/
theorem cu_facts {n : Int} {L : List Kl} {c : Kl} {t : Nat} {a0 a1 a2 x0 x1 x2 lf s0 s1 s2 : Int} (h : CubOk n L c) (ht : t ≤ 3) (e : cuIt n L c t = ((a0, a1, a2), (x0, x1, x2), lf, (s0, s1, s2))) :
    ∃ (K : Nat) (c0 c1 c2 : Int), (a0 * n + a1) * n + a2 = (K : Int) ∧ L[K]? = some (c0, c1, c2) ∧ nd n L (a0, a1, a2) = (c0, c1, c2) ∧ CoOk (c0, c1, c2) ∧ K < L.length ∧ (0 ≤ a0 ∧ a0 ≤ 100) ∧ (0 ≤ a1 ∧ a1 ≤ 100) ∧ (0 ≤ a2 ∧ a2 ≤ 100) ∧ (0 ≤ lf ∧ lf ≤ 65535) ∧ (0 ≤ s0 ∧ s0 ≤ 4294836225) ∧ (0 ≤ s1 ∧ s1 ≤ 4294836225) ∧ (0 ≤ s2 ∧ s2 ≤ 4294836225) := by
  have hV := cuV_it h t ht
  have hB := cuB_of h.1 h.2.2.2
  rw [e] at hV
  obtain ⟨p, q, r⟩ := hV.at hB
  have hp := plc_bd (a := (a0, a1, a2)) hB.n0 hB.n1 p q r
  obtain ⟨K, hK, hg⟩ := nd_get hp h.2.1
  have hok := nd_ok hp h.2.1 h.2.2.1
  have h1 := hV.l0
  have h2 := hV.l1
  have h3 := hV.s0
  have h4 := hV.s1
  have h5 := hV.s2
  have h9 := hB.n1
  simp only at p q r h1 h2 h3 h4 h5
  refine ⟨K, (nd n L (a0, a1, a2)).1, (nd n L (a0, a1, a2)).2.1, (nd n L (a0, a1, a2)).2.2, hK, hg, rfl, hok, (List.getElem?_eq_some_iff.1 hg).1, by omega, by omega, by omega, ⟨h1, h2⟩, by omega, by omega, by omega⟩

set_option maxRecDepth 100000 in
set_option maxHeartbeats 6400000 in
theorem icub_any (n : Int) (a : Option Addr) (cap : Nat) (l : List Kl) (x y z : Int) (w : World) (hl : l.length ≤ maxLen) (hk : Kls w a l) :
    Calls Try.prog 13 #[.int .i64 n, .slice a l.length cap, ag3 x y z] w fun e w' => e = .returned (kv (cubOf n l (x, y, z))) ∧ Below w.heap.size w w' := by
  have hk' := hide hk
  have hl' := hide hl
  clear hk hl
  by_cases hT : TabOk n l
  · by_cases hX : CoOk (x, y, z)
    · have hOK : CubOk n l (x, y, z) := ⟨hT.1, hT.2.1, hT.2.2, hX⟩
      rw [cub_yes hOK]
      have hB := cuB_of hT.1 hX
      have h8 := cube_bd hT.1
      have hlen : 8 ≤ l.length := by have := hT.2.1; omega
      have hlen9 : l.length ≤ 729 := by have := hT.2.1; omega
      obtain ⟨b, o, _, _, _, rfl, _, hbl, _, _, _⟩ := kls_at (k := 0) (unhide hk') (Below.refl _ _) (by omega)
      obtain ⟨i, hi⟩ : ∃ i, plI x (n - 1) = i := ⟨_, rfl⟩
      obtain ⟨j, hj⟩ : ∃ i, plI y (n - 1) = i := ⟨_, rfl⟩
      obtain ⟨k, hk⟩ : ∃ i, plI z (n - 1) = i := ⟨_, rfl⟩
      obtain ⟨p, hp⟩ : ∃ i, plR x (n - 1) = i := ⟨_, rfl⟩
      obtain ⟨q, hq⟩ : ∃ i, plR y (n - 1) = i := ⟨_, rfl⟩
      obtain ⟨r, hr⟩ : ∃ i, plR z (n - 1) = i := ⟨_, rfl⟩
      have hall : Hid (plI x (n - 1) = i ∧ plI y (n - 1) = j ∧ plI z (n - 1) = k ∧ plR x (n - 1) = p ∧ plR y (n - 1) = q ∧ plR z (n - 1) = r) := hide ⟨hi, hj, hk, hp, hq, hr⟩
      have hst : Hid (cuIt n l (x, y, z) 0 = ((i, j, k), (p, q, r), 65535, (0, 0, 0))) := hide (by show cuSt n (x, y, z) = _; unfold cuSt; rw [hi, hj, hk, hp, hq, hr])
      obtain ⟨V0, V1, V2, hV⟩ : ∃ V0 V1 V2, cuRnd (cuFin n l (cuIt n l (x, y, z) 3)) = (V0, V1, V2) := ⟨_, _, _, rfl⟩
      rw [hV]
      have hV' := hide hV
      have n0 := hB.n0
      have n1 := hB.n1
      have hn100 : 0 ≤ n ∧ n ≤ 100 := by omega
      have hnn := hide hn100
      have hT' := hide hT
      have hX' := hide hX
      have hOK' := hide hOK
      have hS := hide (decide_eq_true hX)
      have bi := hB.i0
      have bj := hB.i1
      have bk := hB.i2
      simp only at bi bj bk
      rw [hi, hp] at bi
      rw [hj, hq] at bj
      rw [hk, hr] at bk
      have Bi := hide bi
      have Bj := hide bj
      have Bk := hide bk
      clear hT hX hOK hB hV hi hj hk hp hq hr h8 bi bj bk hn100
      go_enter Try.func13, Try.ntmps13
      go_wp2_with fail
      refine (itab_any n (some ⟨b, o, none⟩) cap l true _ (unhide hl') ((unhide hk').below (((Below.refl _ _).alloc (Nat.le_refl _) _).alloc (by simp) _)) ⟨fun _ => unhide hT', fun _ => rfl⟩).mono ?_
      rintro e w1 ⟨rfl, hb1⟩
      have I1 : Bx w1 w.heap.size x y z := Bx.below (w := ((w.alloc (.cells #[.int .i64 x, .int .i64 y, .int .i64 z] 26)).alloc (.cells #[.int .i64 0, .int .i64 0, .int .i64 0] 26))) ⟨by simp [go_sem], by simp [go_sem], by simp [go_sem], by simp [go_sem], by simp [go_sem], by simp [go_sem]⟩ hb1
      have R1 : Hid (Bx w1 (w.heap.size + 1) 0 0 0) := hide (Bx.below (w := ((w.alloc (.cells #[.int .i64 x, .int .i64 y, .int .i64 z] 26)).alloc (.cells #[.int .i64 0, .int .i64 0, .int .i64 0] 26))) ⟨by simp [go_sem], by simp [go_sem], by simp [go_sem], by simp [go_sem], by simp [go_sem], by simp [go_sem]⟩ hb1)
      have H1 : Hid (Below w.heap.size w w1) := hide ((((Below.refl _ _).alloc (Nat.le_refl _) _).alloc (by simp) _).trans (hb1.mono (by simp; omega)))
      have I1' := hide I1
      obtain ⟨i0, i1, i2, _, _, _⟩ := I1
      clear hb1
      go_wp2_with fail
      refine (ico_any x y z true _ (unhide hS)).mono ?_
      rintro e w2 ⟨rfl, hb2⟩
      have R2 := hide ((unhide R1).below hb2)
      have H2 := hide (laterB (unhide H1) hb2)
      obtain ⟨j0, j1, j2, _, _, _⟩ := (unhide I1').below hb2
      clear hb2 R1 H1 I1' i0 i1 i2
      go_wp2_with fail
      refine (corners_any n x y z i j k p q r _ ⟨n0, n1⟩ (unhide hX') (unhide hall).1 (unhide hall).2.1 (unhide hall).2.2.1 (unhide hall).2.2.2.1 (unhide hall).2.2.2.2.1 (unhide hall).2.2.2.2.2).mono ?_
      rintro e w3 ⟨rfl, hb3⟩
      have R3 := hide ((unhide R2).below hb3)
      have H3 := hide (laterB (unhide H2) hb3)
      have hs3 : w.heap.size + 1 < w3.heap.size := (unhide R3).lt
      clear hb3 R2 H2 j0 j1 j2
      obtain ⟨WW, hWW⟩ : ∃ WW, WW = ((((w3.alloc (.cells #[.int .i64 i, .int .i64 j, .int .i64 k] 62)).alloc (.cells #[.int .i64 (i + 1), .int .i64 (j + 1), .int .i64 (k + 1)] 62)).alloc (.cells #[.int .i64 p, .int .i64 q, .int .i64 r] 62)).alloc (.cells #[.int .i64 0, .int .i64 0, .int .i64 0] 62)).alloc (.cells #[.int .i64 i, .int .i64 j, .int .i64 k] 62) := ⟨_, rfl⟩
      have hal : Hid (Below w3.heap.size w3 WW) := hide (by rw [hWW]; exact (((((Below.refl _ _).alloc (Nat.le_refl _) _).alloc (by simp) _).alloc (by simp; omega) _).alloc (by simp; omega) _).alloc (by simp; omega) _)
      have F0 : Hid (Bx WW (w3.heap.size + 1) (i + 1) (j + 1) (k + 1)) := hide (by rw [hWW]; exact ⟨by simp [go_sem], by simp [go_sem], by simp [go_sem], by simp [go_sem], by simp [go_sem], by simp [go_sem]⟩)
      have X0 : Hid (Bx WW (w3.heap.size + 1 + 1) p q r) := hide (by rw [hWW]; exact ⟨by simp [go_sem], by simp [go_sem], by simp [go_sem], by simp [go_sem], by simp [go_sem], by simp [go_sem]⟩)
      have U0 : Hid (Bx WW (w3.heap.size + 1 + 1 + 1) 0 0 0) := hide (by rw [hWW]; exact ⟨by simp [go_sem], by simp [go_sem], by simp [go_sem], by simp [go_sem], by simp [go_sem], by simp [go_sem]⟩)
      have C0 : Hid (Bx WW (w3.heap.size + 1 + 1 + 1 + 1) i j k) := hide (by rw [hWW]; exact ⟨by simp [go_sem], by simp [go_sem], by simp [go_sem], by simp [go_sem], by simp [go_sem], by simp [go_sem]⟩)
      have R4 := hide ((unhide R3).below (unhide hal))
      have H4 := hide (laterB (unhide H3) (unhide hal))
      have hWh := hide hWW
      clear R3 H3 hal hWW
      go_wp2
      rw [← unhide hWh]
      clear hWh
      generalize w3.heap.size = g at *
      go_loopw [11] (fun lf wr => ∃ (t : Nat) (a0 a1 a2 x0 x1 x2 L s0 s1 s2 : Int), t ≤ 3 ∧ lf = .int .i64 L ∧ Hid (cuIt n l (x, y, z) t = ((a0, a1, a2), (x0, x1, x2), L, (s0, s1, s2))) ∧ Hid (Bx wr (g + 1) (i + 1) (j + 1) (k + 1)) ∧ Hid (Bx wr (g + 1 + 1) x0 x1 x2) ∧ Hid (Bx wr (g + 1 + 1 + 1) s0 s1 s2) ∧ Hid (Bx wr (g + 1 + 1 + 1 + 1) a0 a1 a2) ∧ Hid (Bx wr (w.heap.size + 1) 0 0 0) ∧ Hid (Below w.heap.size w wr)) (fun _ wr => mes wr (g + 1 + 1))
      case atStart => exact ⟨0, i, j, k, p, q, r, 65535, 0, 0, 0, by omega, rfl, hst, F0, X0, U0, C0, R4, H4⟩
      case round =>
        clear F0 X0 U0 C0 R4 H4 hst
        obtain ⟨t, a0, a1, a2, x0, x1, x2, L, s0, s1, s2, ht, rfl, hσ, hF, hXr, hU, hC, hR, hH⟩ := hrel
        obtain ⟨K, c0, c1, c2, eK, hKl, hnd, hco, hKlen, ba0, ba1, ba2, ⟨L0, L1⟩, bs0, bs1, bs2⟩ := cu_facts (unhide hOK') ht (unhide hσ)
        have hVt := cuV_it (unhide hOK') t ht
        rw [unhide hσ] at hVt
        obtain ⟨v0, v1, v2, vc, _, _, vl0, vl1, vl2, _, _, _⟩ := hVt
        simp only at v0 v1 v2 vc vl0 vl1 vl2
        rw [(unhide hall).1, (unhide hall).2.2.2.1] at v0
        rw [(unhide hall).2.1, (unhide hall).2.2.2.2.1] at v1
        rw [(unhide hall).2.2.1, (unhide hall).2.2.2.2.2] at v2
        have hmes := hide (mes_of (unhide hXr))
        have hKl' := hide hKl
        have hnd' := hide hnd
        have hco' := hide hco
        have eK' := hide eK
        clear hKl hnd hco eK
        obtain ⟨f0, f1, f2, _, _, _⟩ := unhide hF
        obtain ⟨p0, p1, p2, _, _, _⟩ := unhide hC
        obtain ⟨r0, r1, r2, _, _, _⟩ := unhide hXr
        have hn3 := neq3 a0 a1 a2 (i + 1) (j + 1) (k + 1)
        unfold Dir at v0 v1 v2
        by_cases h3 : t = 3
        · subst h3
          have g0 := gn_le x0
          have g1 := gn_le x1
          have g2 := gn_le x2
          have e0 : x0 = -1 := by rcases v0 with h | h; · exact h.1
                                  · have : gn x0 = 0 := gn_nn (by omega)
                                    omega
          have e1 : x1 = -1 := by rcases v1 with h | h; · exact h.1
                                  · have : gn x1 = 0 := gn_nn (by omega)
                                    omega
          have e2 : x2 = -1 := by rcases v2 with h | h; · exact h.1
                                  · have : gn x2 = 0 := gn_nn (by omega)
                                    omega
          have q0 := (unhide Bi).2.2.1
          have q1 := (unhide Bj).2.2.1
          have q2 := (unhide Bk).2.2.1
          have A0 : a0 = i + 1 := by omega
          have A1 : a1 = j + 1 := by omega
          have A2 : a2 = k + 1 := by omega
          have hb : (!((a0 == i + 1) && (a1 == j + 1) && (a2 == k + 1))) = false := by rw [A0, A1, A2]; simp
          rw [hb] at hn3
          have hE := unhide hV'
          rw [unhide hσ] at hE
          have hfin : cuFin n l ((a0, a1, a2), (x0, x1, x2), L, (s0, s1, s2)) = (s0 + c0 * L, s1 + c1 * L, s2 + c2 * L) := by
            unfold cuFin addw
            simp only
            rw [unhide hnd']
          rw [hfin] at hE
          unfold cuRnd at hE
          simp only at hE
          injection hE with E0 hE
          injection hE with E1 E2
          obtain ⟨mc0, mc1⟩ := mul_nn (a := 65535) (b := 65535) (unhide hco').1 ⟨L0, L1⟩
          obtain ⟨md0, md1⟩ := mul_nn (a := 65535) (b := 65535) (unhide hco').2.1 ⟨L0, L1⟩
          obtain ⟨me0, me1⟩ := mul_nn (a := 65535) (b := 65535) (unhide hco').2.2 ⟨L0, L1⟩
          simp only at mc0 mc1 md0 md1 me0 me1
          have E0' := hide E0
          have E1' := hide E1
          have E2' := hide E2
          have bT0 : 0 ≤ s0 + c0 * L ∧ s0 + c0 * L ≤ 10000000000 := by omega
          have bT1 : 0 ≤ s1 + c1 * L ∧ s1 + c1 * L ≤ 10000000000 := by omega
          have bT2 : 0 ≤ s2 + c2 * L ∧ s2 + c2 * L ≤ 10000000000 := by omega
          have eK2 : Hid (((i + 1) * n + (j + 1)) * n + (k + 1) = (K : Int)) := hide (by rw [← A0, ← A1, ← A2]; exact unhide eK')
          have ci : 0 ≤ i + 1 ∧ i + 1 ≤ 100 := by omega
          have cj : 0 ≤ j + 1 ∧ j + 1 ≤ 100 := by omega
          have ck : 0 ≤ k + 1 ∧ k + 1 ≤ 100 := by omega
          obtain ⟨hbl2, m0, m1, m2⟩ := node_at (unhide hk') (unhide hH) (unhide hKl')
          have hM := hide (And.intro m0 (And.intro m1 m2))
          clear v0 v1 v2 vl0 vl1 vl2 hσ hfin E0 E1 E2 e0 e1 e2 A0 A1 A2 hb mc0 mc1 md0 md1 me0 me1 m0 m1 m2 vc g0 g1 g2
          go_wp2_with fail
          refine reg12 wr n b o l.length cap (g + 1 + 1 + 1) (g + 1) K (i + 1) (j + 1) (k + 1) L s0 s1 s2 c0 c1 c2 (unhide hnn) ci cj ck (unhide eK2) hKlen (by omega) L0 L1 (by omega) (by omega) (by omega) (unhide hco') (unhide hU) (unhide hF) (unhide hM).1 (unhide hM).2.1 (unhide hM).2.2 (by omega) (by omega) ?_
          intro y63 y64 y65 y66 y67 y68 y69 y70 y71 w5 hb5
          have R5 := hide (bx_o3 (b := g + 1 + 1 + 1) (u := .int .i64 (s0 + c0 * L)) (v := .int .i64 (s1 + c1 * L)) (s := .int .i64 (s2 + c2 * L)) ((unhide hR).below hb5) (by omega))
          have U5 := hide (bx_s3 (a := s0 + c0 * L) (b := s1 + c1 * L) (c := s2 + c2 * L) ((unhide hU).below hb5))
          have H5 := hide (bel_s3 (g := g + 1 + 1 + 1) (x := .int .i64 (s0 + c0 * L)) (y := .int .i64 (s1 + c1 * L)) (z := .int .i64 (s2 + c2 * L)) (laterB (unhide hH) hb5) (by omega))
          clear hb5 hM hF hXr hU hC hR hH f0 f1 f2 p0 p1 p2 r0 r1 r2 hn3 hmes
          generalize hW6 : (((w5.setCell ⟨g + 1 + 1 + 1, 0, none⟩ (.int .i64 (s0 + c0 * L))).setCell ⟨g + 1 + 1 + 1, 1, none⟩ (.int .i64 (s1 + c1 * L))).setCell ⟨g + 1 + 1 + 1, 2, none⟩ (.int .i64 (s2 + c2 * L))) = w6 at *
          clear hW6
          generalize s0 + c0 * L = T0 at *
          generalize s1 + c1 * L = T1 at *
          generalize s2 + c2 * L = T2 at *
          obtain ⟨b0, b1⟩ := bT0
          obtain ⟨b2, b3⟩ := bT1
          obtain ⟨b4, b5⟩ := bT2
          obtain ⟨ix0, ix1, ix2⟩ := ix3 T0 T1 T2
          obtain ⟨p0, p1, p2, _, _, _⟩ := unhide U5
          go_wp2
          clear p0 p1 p2
          go_loopw [73] (fun t wr => Hid (Below w.heap.size w wr) ∧ Hid (Bx wr (w.heap.size + 1) 0 0 0) ∧ ((t = .int .i64 0 ∧ Hid (Bx wr (g + 1 + 1 + 1) T0 T1 T2)) ∨ (t = .int .i64 1 ∧ Hid (Bx wr (g + 1 + 1 + 1) V0 T1 T2)) ∨ (t = .int .i64 2 ∧ Hid (Bx wr (g + 1 + 1 + 1) V0 V1 T2)) ∨ (t = .int .i64 3 ∧ Hid (Bx wr (g + 1 + 1 + 1) V0 V1 V2)))) (fun t _ => 3 - (intOf t).toNat)
          case atStart => exact ⟨H5, R5, Or.inl ⟨rfl, U5⟩⟩
          case round =>
            clear H5 R5 U5
            obtain ⟨hH, hR, ⟨rfl, hU⟩ | ⟨rfl, hU⟩ | ⟨rfl, hU⟩ | ⟨rfl, hU⟩⟩ := hrel
            · obtain ⟨p0, p1, p2, fp0, fp1, fp2⟩ := unhide hU
              have hnew := hide ((unhide hU).set0 V0)
              go_wp2_with fail
              refine (irnd_any T0 65535 V0 _ (by omega) (by omega) (by omega) (unhide E0')).mono ?_
              rintro e w9 ⟨rfl, hw0⟩
              have hw1 := hw0.symm
              subst hw1
              go_wp2
              go_roundw
              case rel => exact ⟨hide ((unhide hH).setCell (by simp <;> omega) _), hide ((unhide hR).other (by omega)), Or.inr (Or.inl ⟨rfl, hnew⟩)⟩
              case measure => simp [intOf]
            · obtain ⟨p0, p1, p2, fp0, fp1, fp2⟩ := unhide hU
              have hnew := hide ((unhide hU).set1 V1)
              go_wp2_with fail
              refine (irnd_any T1 65535 V1 _ (by omega) (by omega) (by omega) (unhide E1')).mono ?_
              rintro e w9 ⟨rfl, hw0⟩
              have hw1 := hw0.symm
              subst hw1
              go_wp2
              go_roundw
              case rel => exact ⟨hide ((unhide hH).setCell (by simp <;> omega) _), hide ((unhide hR).other (by omega)), Or.inr (Or.inr (Or.inl ⟨rfl, hnew⟩))⟩
              case measure => simp [intOf]
            · obtain ⟨p0, p1, p2, fp0, fp1, fp2⟩ := unhide hU
              have hnew := hide ((unhide hU).set2 V2)
              go_wp2_with fail
              refine (irnd_any T2 65535 V2 _ (by omega) (by omega) (by omega) (unhide E2')).mono ?_
              rintro e w9 ⟨rfl, hw0⟩
              have hw1 := hw0.symm
              subst hw1
              go_wp2
              go_roundw
              case rel => exact ⟨hide ((unhide hH).setCell (by simp <;> omega) _), hide ((unhide hR).other (by omega)), Or.inr (Or.inr (Or.inr ⟨rfl, hnew⟩))⟩
              case measure => simp [intOf]
            · obtain ⟨p0, p1, p2, fp0, fp1, fp2⟩ := unhide hU
              go_wp2_with fail
              refine (colour_any V0 V1 V2 _).mono ?_
              rintro e w7 ⟨rfl, hb7⟩
              obtain ⟨r0, r1, r2, fr0, fr1, fr2⟩ := (unhide hR).below hb7
              have H7 := hide (laterB (unhide hH) hb7)
              clear hb7
              go_wp2
              refine bodyPost_ret (v := ag3 V0 V1 V2) (by simp [results, Try.results13, go_sem, r0, r1, r2]) rfl ⟨rfl, ?_⟩
              exact (((unhide H7).setCell (by simp <;> omega) _).setCell (by simp <;> omega) _).setCell (by simp <;> omega) _
        · have ht3 : t < 3 := by omega
          have hnall : ¬ (a0 = i + 1 ∧ a1 = j + 1 ∧ a2 = k + 1) := by
            rintro ⟨h1, h2, h4⟩
            have e0 : x0 = -1 := by omega
            have e1 : x1 = -1 := by omega
            have e2 : x2 = -1 := by omega
            rw [e0, e1, e2, gn_m] at vc
            omega
          have hb : (!((a0 == i + 1) && (a1 == j + 1) && (a2 == k + 1))) = true := by
            rw [Bool.not_eq_true', Bool.eq_false_iff]
            intro h
            simp at h
            exact hnall ⟨h.1.1, h.1.2, h.2⟩
          rw [hb] at hn3
          have hpos : 0 ≤ x0 ∨ 0 ≤ x1 ∨ 0 ≤ x2 := by omega
          clear hnall hb
          rcases bst_cases x0 x1 x2 with ⟨e, u, v⟩ | ⟨e, u, v⟩ | ⟨e, u, v⟩
          · have hx : 0 ≤ x0 := by omega
            have hxl : x0 ≤ L := by omega
            have e' := hide e
            have hnew : Hid (cuIt n l (x, y, z) (t + 1) = ((a0 + 1, a1, a2), (-1, x1, x2), x0, (s0 + c0 * (L - x0), s1 + c1 * (L - x0), s2 + c2 * (L - x0)))) := hide (by
              show stp n l (cuIt n l (x, y, z) t) = _
              rw [unhide hσ]
              unfold stp
              simp only
              rw [if_pos (unhide e')]
              rw [unhide hnd']
              rfl)
            clear e u v v0 v1 v2 vl0 vl1 vl2 hpos hσ
            go_wp2_with fail
            refine (great_any x0 x1 x2 0 _ (unhide e')).mono ?_
            rintro e w4 ⟨rfl, hb4⟩
            have F4 := hide ((unhide hF).below hb4)
            have X4 := hide ((unhide hXr).below hb4)
            have U4 := hide ((unhide hU).below hb4)
            have C4 := hide ((unhide hC).below hb4)
            have R4 := hide ((unhide hR).below hb4)
            have H4 := hide (laterB (unhide hH) hb4)
            obtain ⟨hbl2, m0, m1, m2⟩ := node_at (unhide hk') (unhide H4) (unhide hKl')
            have hM := hide (And.intro m0 (And.intro m1 m2))
            clear hb4 f0 f1 f2 p0 p1 p2 r0 r1 r2 hF hXr hU hC hR hH hn3 m0 m1 m2
            go_wp2_with fail
            refine reg8 w4 n b o l.length cap (g + 1 + 1) (g + 1 + 1 + 1) (g + 1 + 1 + 1 + 1) K 0 0 a0 a1 a2 L x0 s0 s1 s2 c0 c1 c2 (unhide hnn) ba0 ba1 ba2 (unhide eK') hKlen (by omega) L0 L1 hx hxl (by omega) (by rfl) (unhide X4).c0 (by omega) (by omega) (by omega) (unhide hco') (unhide U4) (unhide C4) (unhide hM).1 (unhide hM).2.1 (unhide hM).2.2 (by omega) (by omega) (by omega) ?_
            intro y40 y41 y42 y43 y44 y45 y46 y47 y48 y49 y50 y51 y52 w5 hb5
            have F5 := hide (bx_o3 (b := g + 1 + 1 + 1) (u := .int .i64 (s0 + c0 * (L - x0))) (v := .int .i64 (s1 + c1 * (L - x0))) (s := .int .i64 (s2 + c2 * (L - x0))) ((unhide F4).below hb5) (by omega))
            have X5 := hide (bx_o3 (b := g + 1 + 1 + 1) (u := .int .i64 (s0 + c0 * (L - x0))) (v := .int .i64 (s1 + c1 * (L - x0))) (s := .int .i64 (s2 + c2 * (L - x0))) ((unhide X4).below hb5) (by omega))
            have C5 := hide (bx_o3 (b := g + 1 + 1 + 1) (u := .int .i64 (s0 + c0 * (L - x0))) (v := .int .i64 (s1 + c1 * (L - x0))) (s := .int .i64 (s2 + c2 * (L - x0))) ((unhide C4).below hb5) (by omega))
            have R5 := hide (bx_o3 (b := g + 1 + 1 + 1) (u := .int .i64 (s0 + c0 * (L - x0))) (v := .int .i64 (s1 + c1 * (L - x0))) (s := .int .i64 (s2 + c2 * (L - x0))) ((unhide R4).below hb5) (by omega))
            have U5 := hide (bx_s3 (a := s0 + c0 * (L - x0)) (b := s1 + c1 * (L - x0)) (c := s2 + c2 * (L - x0)) ((unhide U4).below hb5))
            have H5 := hide (bel_s3 (g := g + 1 + 1 + 1) (x := .int .i64 (s0 + c0 * (L - x0))) (y := .int .i64 (s1 + c1 * (L - x0))) (z := .int .i64 (s2 + c2 * (L - x0))) (laterB (unhide H4) hb5) (by omega))
            clear hb5 F4 X4 U4 C4 R4 H4 hM
            generalize hW6 : (((w5.setCell ⟨g + 1 + 1 + 1, 0, none⟩ (.int .i64 (s0 + c0 * (L - x0)))).setCell ⟨g + 1 + 1 + 1, 1, none⟩ (.int .i64 (s1 + c1 * (L - x0)))).setCell ⟨g + 1 + 1 + 1, 2, none⟩ (.int .i64 (s2 + c2 * (L - x0)))) = w6 at *
            clear hW6
            obtain ⟨p0, p1, p2, fp0, fp1, fp2⟩ := unhide C5
            obtain ⟨r0, r1, r2, fr0, fr1, fr2⟩ := unhide X5
            have C6 := hide ((unhide C5).set0 (a0 + 1))
            have X6 := hide (Bx.set0 ((unhide X5).other (b := g + 1 + 1 + 1 + 1) (i := 0) (v := .int .i64 (a0 + 1)) (by omega)) (-1))
            have hmn := hide (mes_of (unhide X6))
            have hg1 : gn x0 = 0 := gn_nn hx
            go_wp2
            go_roundw
            case rel => exact ⟨t + 1, a0 + 1, a1, a2, -1, x1, x2, x0, _, _, _, by omega, rfl, hnew, hide (((unhide F5).other (by omega)).other (by omega)), X6, hide (((unhide U5).other (by omega)).other (by omega)), hide ((unhide C6).other (by omega)), hide (((unhide R5).other (by omega)).other (by omega)), hide (((unhide H5).setCell (by simp <;> omega) _).setCell (by simp <;> omega) _)⟩
            case measure =>
              rw [unhide hmn, unhide hmes, hg1, gn_m]
              omega
          · have hx : 0 ≤ x1 := by omega
            have hxl : x1 ≤ L := by omega
            have e' := hide e
            have hnew : Hid (cuIt n l (x, y, z) (t + 1) = ((a0, a1 + 1, a2), (x0, -1, x2), x1, (s0 + c0 * (L - x1), s1 + c1 * (L - x1), s2 + c2 * (L - x1)))) := hide (by
              show stp n l (cuIt n l (x, y, z) t) = _
              rw [unhide hσ]
              unfold stp
              simp only
              rw [if_neg (by rw [unhide e']; omega), if_pos (unhide e')]
              rw [unhide hnd']
              rfl)
            clear e u v v0 v1 v2 vl0 vl1 vl2 hpos hσ
            go_wp2_with fail
            refine (great_any x0 x1 x2 1 _ (unhide e')).mono ?_
            rintro e w4 ⟨rfl, hb4⟩
            have F4 := hide ((unhide hF).below hb4)
            have X4 := hide ((unhide hXr).below hb4)
            have U4 := hide ((unhide hU).below hb4)
            have C4 := hide ((unhide hC).below hb4)
            have R4 := hide ((unhide hR).below hb4)
            have H4 := hide (laterB (unhide hH) hb4)
            obtain ⟨hbl2, m0, m1, m2⟩ := node_at (unhide hk') (unhide H4) (unhide hKl')
            have hM := hide (And.intro m0 (And.intro m1 m2))
            clear hb4 f0 f1 f2 p0 p1 p2 r0 r1 r2 hF hXr hU hC hR hH hn3 m0 m1 m2
            go_wp2_with fail
            refine reg8 w4 n b o l.length cap (g + 1 + 1) (g + 1 + 1 + 1) (g + 1 + 1 + 1 + 1) K 1 1 a0 a1 a2 L x1 s0 s1 s2 c0 c1 c2 (unhide hnn) ba0 ba1 ba2 (unhide eK') hKlen (by omega) L0 L1 hx hxl (by omega) (by rfl) (unhide X4).c1 (by omega) (by omega) (by omega) (unhide hco') (unhide U4) (unhide C4) (unhide hM).1 (unhide hM).2.1 (unhide hM).2.2 (by omega) (by omega) (by omega) ?_
            intro y40 y41 y42 y43 y44 y45 y46 y47 y48 y49 y50 y51 y52 w5 hb5
            have F5 := hide (bx_o3 (b := g + 1 + 1 + 1) (u := .int .i64 (s0 + c0 * (L - x1))) (v := .int .i64 (s1 + c1 * (L - x1))) (s := .int .i64 (s2 + c2 * (L - x1))) ((unhide F4).below hb5) (by omega))
            have X5 := hide (bx_o3 (b := g + 1 + 1 + 1) (u := .int .i64 (s0 + c0 * (L - x1))) (v := .int .i64 (s1 + c1 * (L - x1))) (s := .int .i64 (s2 + c2 * (L - x1))) ((unhide X4).below hb5) (by omega))
            have C5 := hide (bx_o3 (b := g + 1 + 1 + 1) (u := .int .i64 (s0 + c0 * (L - x1))) (v := .int .i64 (s1 + c1 * (L - x1))) (s := .int .i64 (s2 + c2 * (L - x1))) ((unhide C4).below hb5) (by omega))
            have R5 := hide (bx_o3 (b := g + 1 + 1 + 1) (u := .int .i64 (s0 + c0 * (L - x1))) (v := .int .i64 (s1 + c1 * (L - x1))) (s := .int .i64 (s2 + c2 * (L - x1))) ((unhide R4).below hb5) (by omega))
            have U5 := hide (bx_s3 (a := s0 + c0 * (L - x1)) (b := s1 + c1 * (L - x1)) (c := s2 + c2 * (L - x1)) ((unhide U4).below hb5))
            have H5 := hide (bel_s3 (g := g + 1 + 1 + 1) (x := .int .i64 (s0 + c0 * (L - x1))) (y := .int .i64 (s1 + c1 * (L - x1))) (z := .int .i64 (s2 + c2 * (L - x1))) (laterB (unhide H4) hb5) (by omega))
            clear hb5 F4 X4 U4 C4 R4 H4 hM
            generalize hW6 : (((w5.setCell ⟨g + 1 + 1 + 1, 0, none⟩ (.int .i64 (s0 + c0 * (L - x1)))).setCell ⟨g + 1 + 1 + 1, 1, none⟩ (.int .i64 (s1 + c1 * (L - x1)))).setCell ⟨g + 1 + 1 + 1, 2, none⟩ (.int .i64 (s2 + c2 * (L - x1)))) = w6 at *
            clear hW6
            obtain ⟨p0, p1, p2, fp0, fp1, fp2⟩ := unhide C5
            obtain ⟨r0, r1, r2, fr0, fr1, fr2⟩ := unhide X5
            have C6 := hide ((unhide C5).set1 (a1 + 1))
            have X6 := hide (Bx.set1 ((unhide X5).other (b := g + 1 + 1 + 1 + 1) (i := 1) (v := .int .i64 (a1 + 1)) (by omega)) (-1))
            have hmn := hide (mes_of (unhide X6))
            have hg1 : gn x1 = 0 := gn_nn hx
            go_wp2
            go_roundw
            case rel => exact ⟨t + 1, a0, a1 + 1, a2, x0, -1, x2, x1, _, _, _, by omega, rfl, hnew, hide (((unhide F5).other (by omega)).other (by omega)), X6, hide (((unhide U5).other (by omega)).other (by omega)), hide ((unhide C6).other (by omega)), hide (((unhide R5).other (by omega)).other (by omega)), hide (((unhide H5).setCell (by simp <;> omega) _).setCell (by simp <;> omega) _)⟩
            case measure =>
              rw [unhide hmn, unhide hmes, hg1, gn_m]
              omega
          · have hx : 0 ≤ x2 := by omega
            have hxl : x2 ≤ L := by omega
            have e' := hide e
            have hnew : Hid (cuIt n l (x, y, z) (t + 1) = ((a0, a1, a2 + 1), (x0, x1, -1), x2, (s0 + c0 * (L - x2), s1 + c1 * (L - x2), s2 + c2 * (L - x2)))) := hide (by
              show stp n l (cuIt n l (x, y, z) t) = _
              rw [unhide hσ]
              unfold stp
              simp only
              rw [if_neg (by rw [unhide e']; omega), if_neg (by rw [unhide e']; omega)]
              rw [unhide hnd']
              rfl)
            clear e u v v0 v1 v2 vl0 vl1 vl2 hpos hσ
            go_wp2_with fail
            refine (great_any x0 x1 x2 2 _ (unhide e')).mono ?_
            rintro e w4 ⟨rfl, hb4⟩
            have F4 := hide ((unhide hF).below hb4)
            have X4 := hide ((unhide hXr).below hb4)
            have U4 := hide ((unhide hU).below hb4)
            have C4 := hide ((unhide hC).below hb4)
            have R4 := hide ((unhide hR).below hb4)
            have H4 := hide (laterB (unhide hH) hb4)
            obtain ⟨hbl2, m0, m1, m2⟩ := node_at (unhide hk') (unhide H4) (unhide hKl')
            have hM := hide (And.intro m0 (And.intro m1 m2))
            clear hb4 f0 f1 f2 p0 p1 p2 r0 r1 r2 hF hXr hU hC hR hH hn3 m0 m1 m2
            go_wp2_with fail
            refine reg8 w4 n b o l.length cap (g + 1 + 1) (g + 1 + 1 + 1) (g + 1 + 1 + 1 + 1) K 2 2 a0 a1 a2 L x2 s0 s1 s2 c0 c1 c2 (unhide hnn) ba0 ba1 ba2 (unhide eK') hKlen (by omega) L0 L1 hx hxl (by omega) (by rfl) (unhide X4).c2 (by omega) (by omega) (by omega) (unhide hco') (unhide U4) (unhide C4) (unhide hM).1 (unhide hM).2.1 (unhide hM).2.2 (by omega) (by omega) (by omega) ?_
            intro y40 y41 y42 y43 y44 y45 y46 y47 y48 y49 y50 y51 y52 w5 hb5
            have F5 := hide (bx_o3 (b := g + 1 + 1 + 1) (u := .int .i64 (s0 + c0 * (L - x2))) (v := .int .i64 (s1 + c1 * (L - x2))) (s := .int .i64 (s2 + c2 * (L - x2))) ((unhide F4).below hb5) (by omega))
            have X5 := hide (bx_o3 (b := g + 1 + 1 + 1) (u := .int .i64 (s0 + c0 * (L - x2))) (v := .int .i64 (s1 + c1 * (L - x2))) (s := .int .i64 (s2 + c2 * (L - x2))) ((unhide X4).below hb5) (by omega))
            have C5 := hide (bx_o3 (b := g + 1 + 1 + 1) (u := .int .i64 (s0 + c0 * (L - x2))) (v := .int .i64 (s1 + c1 * (L - x2))) (s := .int .i64 (s2 + c2 * (L - x2))) ((unhide C4).below hb5) (by omega))
            have R5 := hide (bx_o3 (b := g + 1 + 1 + 1) (u := .int .i64 (s0 + c0 * (L - x2))) (v := .int .i64 (s1 + c1 * (L - x2))) (s := .int .i64 (s2 + c2 * (L - x2))) ((unhide R4).below hb5) (by omega))
            have U5 := hide (bx_s3 (a := s0 + c0 * (L - x2)) (b := s1 + c1 * (L - x2)) (c := s2 + c2 * (L - x2)) ((unhide U4).below hb5))
            have H5 := hide (bel_s3 (g := g + 1 + 1 + 1) (x := .int .i64 (s0 + c0 * (L - x2))) (y := .int .i64 (s1 + c1 * (L - x2))) (z := .int .i64 (s2 + c2 * (L - x2))) (laterB (unhide H4) hb5) (by omega))
            clear hb5 F4 X4 U4 C4 R4 H4 hM
            generalize hW6 : (((w5.setCell ⟨g + 1 + 1 + 1, 0, none⟩ (.int .i64 (s0 + c0 * (L - x2)))).setCell ⟨g + 1 + 1 + 1, 1, none⟩ (.int .i64 (s1 + c1 * (L - x2)))).setCell ⟨g + 1 + 1 + 1, 2, none⟩ (.int .i64 (s2 + c2 * (L - x2)))) = w6 at *
            clear hW6
            obtain ⟨p0, p1, p2, fp0, fp1, fp2⟩ := unhide C5
            obtain ⟨r0, r1, r2, fr0, fr1, fr2⟩ := unhide X5
            have C6 := hide ((unhide C5).set2 (a2 + 1))
            have X6 := hide (Bx.set2 ((unhide X5).other (b := g + 1 + 1 + 1 + 1) (i := 2) (v := .int .i64 (a2 + 1)) (by omega)) (-1))
            have hmn := hide (mes_of (unhide X6))
            have hg1 : gn x2 = 0 := gn_nn hx
            go_wp2
            go_roundw
            case rel => exact ⟨t + 1, a0, a1, a2 + 1, x0, x1, -1, x2, _, _, _, by omega, rfl, hnew, hide (((unhide F5).other (by omega)).other (by omega)), X6, hide (((unhide U5).other (by omega)).other (by omega)), hide ((unhide C6).other (by omega)), hide (((unhide R5).other (by omega)).other (by omega)), hide (((unhide H5).setCell (by simp <;> omega) _).setCell (by simp <;> omega) _)⟩
            case measure =>
              rw [unhide hmn, unhide hmes, hg1, gn_m]
              omega
    · rw [cub_no (fun h => hX h.2.2.2)]
      have hT' := hide hT
      have hS := hide (decide_eq_false hX)
      clear hT hX
      go_enter Try.func13, Try.ntmps13
      go_wp2_with fail
      refine (itab_any n a cap l true _ (unhide hl') ((unhide hk').below (((Below.refl _ _).alloc (Nat.le_refl _) _).alloc (by simp) _)) ⟨fun _ => unhide hT', fun _ => rfl⟩).mono ?_
      rintro e w1 ⟨rfl, hb1⟩
      have I1 : Bx w1 w.heap.size x y z := Bx.below (w := ((w.alloc (.cells #[.int .i64 x, .int .i64 y, .int .i64 z] 26)).alloc (.cells #[.int .i64 0, .int .i64 0, .int .i64 0] 26))) ⟨by simp [go_sem], by simp [go_sem], by simp [go_sem], by simp [go_sem], by simp [go_sem], by simp [go_sem]⟩ hb1
      have R1 : Hid (Bx w1 (w.heap.size + 1) 0 0 0) := hide (Bx.below (w := ((w.alloc (.cells #[.int .i64 x, .int .i64 y, .int .i64 z] 26)).alloc (.cells #[.int .i64 0, .int .i64 0, .int .i64 0] 26))) ⟨by simp [go_sem], by simp [go_sem], by simp [go_sem], by simp [go_sem], by simp [go_sem], by simp [go_sem]⟩ hb1)
      have H1 : Hid (Below w.heap.size w w1) := hide ((((Below.refl _ _).alloc (Nat.le_refl _) _).alloc (by simp) _).trans (hb1.mono (by simp; omega)))
      obtain ⟨i0, i1, i2, _, _, _⟩ := I1
      clear hb1
      go_wp2_with fail
      refine (ico_any x y z false _ (unhide hS)).mono ?_
      rintro e w2 ⟨rfl, hb2⟩
      obtain ⟨r0, r1, r2, fr0, fr1, fr2⟩ := (unhide R1).below hb2
      have H2 := hide (laterB (unhide H1) hb2)
      clear hb2 R1 H1 i0 i1 i2
      go_wp2
      refine bodyPost_ret (v := ag3 0 0 0) (by simp [results, Try.results13, go_sem, r0, r1, r2]) rfl ⟨rfl, ?_⟩
      exact (((unhide H2).setCell (by simp <;> omega) _).setCell (by simp <;> omega) _).setCell (by simp <;> omega) _
  · rw [cub_no (fun h => hT ⟨h.1, h.2.1, h.2.2.1⟩)]
    have hT' := hide hT
    clear hT
    go_enter Try.func13, Try.ntmps13
    go_wp2_with fail
    refine (itab_any n a cap l false _ (unhide hl') ((unhide hk').below (((Below.refl _ _).alloc (Nat.le_refl _) _).alloc (by simp) _)) ⟨(fun h => by cases h), fun h => absurd h (unhide hT')⟩).mono ?_
    rintro e w1 ⟨rfl, hb1⟩
    obtain ⟨r0, r1, r2, fr0, fr1, fr2⟩ : Bx w1 (w.heap.size + 1) 0 0 0 := Bx.below (w := ((w.alloc (.cells #[.int .i64 x, .int .i64 y, .int .i64 z] 26)).alloc (.cells #[.int .i64 0, .int .i64 0, .int .i64 0] 26))) ⟨by simp [go_sem], by simp [go_sem], by simp [go_sem], by simp [go_sem], by simp [go_sem], by simp [go_sem]⟩ hb1
    have H1 : Hid (Below w.heap.size w w1) := hide ((((Below.refl _ _).alloc (Nat.le_refl _) _).alloc (by simp) _).trans (hb1.mono (by simp; omega)))
    clear hb1
    go_wp2
    refine bodyPost_ret (v := ag3 0 0 0) (by simp [results, Try.results13, go_sem, r0, r1, r2]) rfl ⟨rfl, ?_⟩
    exact (((unhide H1).setCell (by simp <;> omega) _).setCell (by simp <;> omega) _).setCell (by simp <;> omega) _
end Go.Proofs.Ytdmcbdogpeidjaa
