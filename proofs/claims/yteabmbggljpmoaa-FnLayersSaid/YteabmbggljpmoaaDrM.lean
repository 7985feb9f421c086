/-
  Contract of the model's draw of a picture and a move: it answers with new memory; nothing that was there is written.
-/
import Derived.Test.YteabmbggljpmoaaDrC
namespace Go.Proofs.Yteabmbggljpmoaa
open Go.RowKit
set_option linter.unusedVariables false
set_option linter.unusedSimpArgs false

theorem from3_any (B g : Nat) (a : Option Addr) (len cap : Nat) (w : World) (hB : B ≤ g) (hl : len ≤ 9223372036854775807) (hc : CurAt w g a len cap) (hr : RdB w B a len) :
    Calls Try.prog 57 #[.pointer (some ⟨g, 0, none⟩), .int .i64 (-3), .int .i64 3] w fun e w' => ∃ x, e = .returned (.int .i64 x) ∧ CurAt w' g a len cap ∧ w.grownBy w' (some g) := by
  have hc' := hide hc
  have hr' := hide hr
  clear hc hr
  go_enter Try.func57, Try.ntmps57
  go_wp2_with fail
  refine (below_any B g a len cap 7 _ hB hl (unhide hc') (unhide hr') (by omega)).mono ?_
  rintro e w1 ⟨x, rfl, x0, x1, k1, g1⟩
  go_wp2
  go_ret
  exact ⟨_, rfl, k1, g1⟩
/-- the draw's state: the cursor below B1, an owned list from B1 on -/
structure Dm (W w1 : World) (g : Nat) (a : Option Addr) (len cap : Nat) (G n c : Nat) (L : List Kl) (wr : World) : Prop where
  cur : CurAt wr g a len cap
  rd : RdB wr W.heap.size a len
  bel : Below W.heap.size W wr
  own : Own wr w1.heap.size G n c L
  sz : w1.heap.size ≤ wr.heap.size
theorem Dm.call {W w1 wr w2 : World} {g : Nat} {a : Option Addr} {len cap G n c : Nat} {L : List Kl} (h : Dm W w1 g a len cap G n c L wr) (h1 : W.heap.size ≤ g) (h2 : g < w1.heap.size) (hc : CurAt w2 g a len cap) (hg : wr.grownBy w2 (some g)) : Dm W w1 g a len cap G n c L w2 :=
  ⟨hc, h.rd.grown hg h1, below_grown h.bel hg h1, own_kept h.own hg (by have := own_ge h.own; omega), Nat.le_trans h.sz hg.size⟩
theorem RdB.belowB {w w1 : World} {N B : Nat} {a : Option Addr} {len : Nat} (h : RdB w B a len) (hb : Below N w w1) (hB : B ≤ N) : RdB w1 B a len := by
  intro j hj
  obtain ⟨b, o, z, e, h1, h2, h3⟩ := h j hj
  exact ⟨b, o, z, e, h1, (hb.cell (p := ⟨b, o + j, none⟩) (by show b < N; omega)).trans h2, h3⟩
theorem Dm.below {W w1 wr w2 : World} {g : Nat} {a : Option Addr} {len cap G n c : Nat} {L : List Kl} (h : Dm W w1 g a len cap G n c L wr) (hb : Below wr.heap.size wr w2) : Dm W w1 g a len cap G n c L w2 :=
  ⟨h.cur.below hb, h.rd.belowB hb h.bel.size, laterB h.bel hb, ownsRow_below h.own hb, Nat.le_trans h.sz hb.size⟩
theorem Dm.app {W w1 wr w2 : World} {g : Nat} {a : Option Addr} {len cap G n c G' n' c' : Nat} {L L' : List Kl} (h : Dm W w1 g a len cap G n c L wr) (h2 : g < w1.heap.size) (h3 : W.heap.size ≤ w1.heap.size) (ho : Own w2 w1.heap.size G' n' c' L') (hb : Below w1.heap.size wr w2) : Dm W w1 g a len cap G' n' c' L' w2 :=
  ⟨h.cur.other (hb.block g h2), h.rd.belowB hb h3, h.bel.trans (hb.mono h3), ho, Nat.le_trans h.sz hb.size⟩
/-- the answer -/
theorem own_room {w : World} {B e m n g cap : Nat} {xs : List Value} (h : w.ownsRow B e m (.slice (some ⟨g, 0, none⟩) n cap) n xs) : n ≤ cap ∧ cap ≤ maxLen := by
  rcases h.2 with ⟨h0, _⟩ | ⟨g', cap', cur, hv, _, _, h1, h2, _⟩
  · cases h0
  · cases hv; exact ⟨h1, h2⟩
theorem kls_tail {w : World} {B g n c : Nat} {x : Kl} {L : List Kl} (h : Own w B g n c (x :: L)) : Kls w (some ⟨g, 4, none⟩) L := by
  intro j z hj
  obtain ⟨c0, c1, c2, c3⟩ := own_cells (k := j + 1) (l := x :: L) (by simpa using hj) h
  have e : (j + 1) * 4 = 4 + j * 4 := by omega
  rw [e] at c0 c1 c2 c3
  exact ⟨g, 4, rfl, own_lt h, c0, c1, c2, c3⟩
theorem own_green {w : World} {B g n c : Nat} {x : Kl} {L : List Kl} (v : Int) (h : Own w B g n c (x :: L)) : Own (w.setCell ⟨g, 1, none⟩ (.int .i64 v)) B g n c ((x.1, v, x.2.2.1, x.2.2.2) :: L) := by
  have h1 := (h.stored 1 (iv v)).1
  have e : (flK (x :: L)).set 1 (iv v) = flK ((x.1, v, x.2.2.1, x.2.2.2) :: L) := by simp [flK]
  rw [e] at h1
  exact h1
theorem lit_at {w w1 : World} {g k : Nat} {T : TypeId} {o : Array Value} {v : Int} (hg : (w.alloc (.cells o T)).grownBy w1 (some g)) (hne : g < w.heap.size) (h : (w.alloc (.cells o T)).cell? ⟨w.heap.size, k, none⟩ = some (.int .i64 v)) : w1.cell? ⟨w.heap.size, k, none⟩ = some (.int .i64 v) :=
  grown_cell hg (by omega) h
def DmR (W : World) (e : Ending) (w' : World) : Prop := ∃ (p q dx dy : Int) (A : Option Addr) (c : Nat) (L : List Kl), e = .returned (.tuple #[.int .i64 p, .int .i64 q, .slice A L.length c, .int .i64 dx, .int .i64 dy]) ∧ L.length ≤ 16 ∧ Kls w' A L ∧ Below W.heap.size W w'

set_option maxHeartbeats 6400000 in
theorem dmv_any {W : World} (a : Option Addr) (len cap : Nat) (hl : len ≤ 4096) (hr : RdB W W.heap.size a len) :
    Calls Try.prog 31 #[.slice a len cap] W (DmR W) := by
  have hr' := hide hr
  have hl9 : len ≤ 9223372036854775807 := by omega
  clear hr
  go_enter Try.func31, Try.ntmps31
  go_wp2_with fail
  refine (new_any a len cap _ hl9 (by omega) (unhide hr')).mono ?_
  rintro e w1 ⟨g, rfl, hWg, hc1, hb1⟩
  have hg1 := hc1.lt
  have hW1 := hb1.size
  have D0 : Hid (Dm W w1 g a len cap w1.heap.size 0 0 [] (w1.alloc (.cells #[] 25))) := hide ((⟨hc1.below ((Below.refl _ _).alloc (Nat.le_refl _) _), ((unhide hr').belowB hb1 (Nat.le_refl _)).belowB ((Below.refl w1.heap.size w1).alloc (Nat.le_refl _) _) hW1, hb1.alloc hW1 _, own_lit0 w1 (Nat.le_refl _), by simp⟩))
  have S0 : Hid (CurAt w1 g a len cap ∧ RdB w1 W.heap.size a len ∧ Below W.heap.size W w1) := hide ⟨hc1, (unhide hr').belowB hb1 (Nat.le_refl _), hb1⟩
  clear hc1 hb1 D0
  go_wp2_with fail
  refine (below_any W.heap.size g a len cap 4 _ hWg hl9 (unhide S0).1 (unhide S0).2.1 (by omega)).mono ?_
  rintro e w2 ⟨p, rfl, p0, p1, k2, gr2⟩
  have S1 : Hid (CurAt w2 g a len cap ∧ RdB w2 W.heap.size a len ∧ Below W.heap.size W w2) := hide ⟨k2, (unhide S0).2.1.grown gr2 hWg, below_grown (unhide S0).2.2 gr2 hWg⟩
  obtain ⟨P, hP⟩ : ∃ P : Nat, 1 + p = P := ⟨(1 + p).toNat, by omega⟩
  have hw1 : IntKind.i64.wrap (1 + p) = P := by rw [IntKind.wrap_i64]; omega
  have hP4 : 1 ≤ P ∧ P ≤ 4 := by omega
  clear S0 k2 gr2 p0 p1 hP
  go_wp2_with fail
  refine (below_any W.heap.size g a len cap 4 _ hWg hl9 (unhide S1).1 (unhide S1).2.1 (by omega)).mono ?_
  rintro e w3 ⟨q, rfl, q0, q1, k2, gr2⟩
  have hc3 := k2
  have hr3 := (unhide S1).2.1.grown gr2 hWg
  have hb3 := below_grown (unhide S1).2.2 gr2 hWg
  clear S1 k2 gr2 hg1 hW1
  have hg1 := hc3.lt
  have hW1 := hb3.size
  have D0 : Hid (Dm W w3 g a len cap w3.heap.size 0 0 [] (w3.alloc (.cells #[] 25))) := hide (⟨hc3.below ((Below.refl _ _).alloc (Nat.le_refl _) _), hr3.belowB ((Below.refl w3.heap.size w3).alloc (Nat.le_refl _) _) hW1, hb3.alloc hW1 _, own_lit0 w3 (Nat.le_refl _), by simp⟩)
  clear hc3 hr3 hb3
  obtain ⟨Q, hQ⟩ : ∃ Q : Nat, 1 + q = Q := ⟨(1 + q).toNat, by omega⟩
  obtain ⟨M, hM⟩ : ∃ M : Nat, P * Q = M := ⟨_, rfl⟩
  have hM1 : 1 ≤ M ∧ M ≤ 16 := by
    rw [← hM]
    exact ⟨Nat.mul_pos (by omega) (by omega), Nat.mul_le_mul (show P ≤ 4 by omega) (show Q ≤ 4 by omega)⟩
  have hw2 : IntKind.i64.wrap (1 + q) = Q := by rw [IntKind.wrap_i64]; omega
  have hw3 : IntKind.i64.wrap ((P : Int) * Q) = M := by rw [← Int.natCast_mul, hM, IntKind.wrap_i64]; omega
  obtain ⟨M0, M1⟩ := hM1
  clear hQ hM q0 q1 hP4
  go_wp2
  go_loopw [10, 11] (fun s t wr => ∃ (i G c : Nat) (L : List Kl), i ≤ M ∧ t = .int .i64 i ∧ s = .slice (some ⟨G, 0, none⟩) i c ∧ L.length = i ∧ G < wr.heap.size ∧ Hid (Dm W w3 g a len cap G i c L wr)) (fun _ t _ => M - (intOf t).toNat)
  case atStart => exact ⟨0, w3.heap.size, 0, [], by omega, rfl, rfl, rfl, by simp, D0⟩
  case round =>
    clear D0
    obtain ⟨i, G, c, L, hi, rfl, rfl, hLn, hGl, D⟩ := hrel
    by_cases hlt : i < M
    · skip
      go_wp2_with fail
      refine (below_any W.heap.size g a len cap 256 _ hWg hl9 (unhide D).cur (unhide D).rd (by omega)).mono ?_
      rintro e w2 ⟨y, rfl, y0, y1, k2, gr2⟩
      have D2 := hide ((unhide D).call hWg hg1 k2 gr2)
      clear D k2 gr2
      have D := D2
      clear D2
      go_wp2_with fail
      refine (below_any W.heap.size g a len cap (y + 1) _ hWg hl9 (unhide D).cur (unhide D).rd (by omega)).mono ?_
      rintro e w4 ⟨z, rfl, z0, z1, k2, gr2⟩
      have D2 := hide ((unhide D).call hWg hg1 k2 gr2)
      clear D k2 gr2
      have hG4 : G < w4.heap.size := own_lt (unhide D2).own
      have hsz := (unhide D2).sz
      go_wp2_with (at_builtin; refine wpList_kN Try.underlying32 (B := w3.heap.size) (C := w4.heap.size) (wr := w4) (g := G) (n := i) (cap := c) (L := L) rfl _ _ rfl rfl (unhide D2).own (hX := by repeat first | exact Below.refl _ _ | refine Below.setCell ?_ (by simp <;> omega) _ | refine Below.alloc ?_ (by simp <;> omega) _) hG4 w4.heap.size (by simp) rfl (by omega) (by omega) (by omega) ?_)
      intro G' c' w5 ho hbB hge hlt2
      have D3 := hide ((unhide D2).app hg1 hW1 ho hbB)
      clear ho hbB D2
      go_wp2
      go_roundw
      case rel => exact ⟨i + 1, G', c', _, by omega, by go_num, rfl, by simp [hLn], hlt2, D3⟩
      case measure => simp [intOf]; omega
    · have hiM : i = M := by omega
      subst hiM
      have tM : ((i : Int) < i) = False := by simp
      go_wp2_with fail
      refine (from3_any W.heap.size g a len cap _ hWg hl9 (unhide D).cur (unhide D).rd).mono ?_
      rintro e w2 ⟨dx, rfl, k2, gr2⟩
      have D2 := hide ((unhide D).call hWg hg1 k2 gr2)
      clear D k2 gr2
      have D := D2
      clear D2
      go_wp2_with fail
      refine (from3_any W.heap.size g a len cap _ hWg hl9 (unhide D).cur (unhide D).rd).mono ?_
      rintro e w2 ⟨dy, rfl, k2, gr2⟩
      have D2 := hide ((unhide D).call hWg hg1 k2 gr2)
      clear D k2 gr2
      have D := D2
      clear D2
      have hcp := own_room (unhide D).own
      unfold maxLen at hcp
      go_wp2_with fail
      refine (once_any W.heap.size g a len cap 14 _ hWg hl9 (unhide D).cur (unhide D).rd (by omega)).mono ?_
      rintro e w2 ⟨x, rfl, k2, gr2⟩
      have D2 := hide ((unhide D).call hWg hg1 k2 gr2)
      clear D k2 gr2
      have D := D2
      clear D2
      cases x
      · go_wp2
        exact bodyPost_ret (v := .tuple #[.int .i64 P, .int .i64 Q, .slice (some ⟨G, 0, none⟩) L.length c, .int .i64 dx, .int .i64 dy]) (by simp [results, Try.results31, go_sem, hLn]) rfl ⟨P, Q, dx, dy, some ⟨G, 0, none⟩, c, L, rfl, by omega, kls_own (unhide D).own, (unhide D).bel⟩
      go_wp2_with fail
      refine (below_any W.heap.size g a len cap 5 _ hWg hl9 (unhide D).cur (unhide D).rd (by omega)).mono ?_
      rintro e w2 ⟨t, rfl, t0, t1, k2, gr2⟩
      have D2 := hide ((unhide D).call hWg hg1 k2 gr2)
      clear D k2 gr2
      have D := D2
      clear D2
      have ht : t = 0 ∨ t = 1 ∨ t = 2 ∨ t = 3 ∨ t = 4 := by omega
      clear t0 t1
      rcases ht with rfl | rfl | rfl | rfl | rfl
      · skip
        have hgw : g < w2.heap.size := (unhide D).cur.lt
        have DA := hide ((unhide D).below ((Below.refl _ _).alloc (Nat.le_refl _) (.cells #[.int .i64 0, .int .i64 64, .int .i64 65, .int .i64 (-1)] 2)))
        clear D
        go_wp2_with fail
        refine (below_any W.heap.size g a len cap 4 _ hWg hl9 (unhide DA).cur (unhide DA).rd (by omega)).mono ?_
        rintro e w6 ⟨y, rfl, y0, y1, k2, gr2⟩
        obtain ⟨y, rfl⟩ : ∃ y' : Nat, y = y' := ⟨y.toNat, by omega⟩
        obtain ⟨v, hv⟩ := lit4 (w := w2) (T := 2) (k := y) (a0 := 0) (a1 := 64) (a2 := 65) (a3 := (-1)) (by omega)
        have hv6 := lit_at gr2 hgw hv
        have D := hide ((unhide DA).call hWg hg1 k2 gr2)
        clear DA k2 gr2 hv
        go_wp2
        exact bodyPost_ret (v := .tuple #[.int .i64 v, .int .i64 Q, .slice (some ⟨G, 0, none⟩) L.length c, .int .i64 dx, .int .i64 dy]) (by simp [results, Try.results31, go_sem, hLn]) rfl ⟨v, Q, dx, dy, some ⟨G, 0, none⟩, c, L, rfl, by omega, kls_own (unhide D).own, (unhide D).bel⟩
      · obtain ⟨z, L', rfl⟩ : ∃ z L', L = z :: L' := by
          cases L with
          | nil => simp at hLn; omega
          | cons z L' => exact ⟨z, L', rfl⟩
        have hL2 : L'.length = i - 1 := by simp at hLn; omega
        clear hLn
        by_cases hc1 : c = 1
        · have hi1 : i = 1 := by omega
          subst hc1
          subst hi1
          have hL3 : L' = [] := by cases L' with | nil => rfl | cons _ _ => simp at hL2
          subst hL3
          go_wp2
          exact bodyPost_ret (v := .tuple #[.int .i64 P, .int .i64 Q, .slice (some ⟨G, 0, none⟩) ([] : List Kl).length 0, .int .i64 dx, .int .i64 dy]) (by simp [results, Try.results31, go_sem]) rfl ⟨P, Q, dx, dy, some ⟨G, 0, none⟩, 0, [], rfl, by simp, Kls.nil, (unhide D).bel⟩
        · go_wp2
          exact bodyPost_ret (v := .tuple #[.int .i64 P, .int .i64 Q, .slice (some ⟨G, 4, none⟩) L'.length (c - 1), .int .i64 dx, .int .i64 dy]) (by simp [results, Try.results31, go_sem, hL2]) rfl ⟨P, Q, dx, dy, some ⟨G, 4, none⟩, c - 1, L', rfl, by omega, kls_tail (unhide D).own, (unhide D).bel⟩
      · obtain ⟨z, L', rfl⟩ : ∃ z L', L = z :: L' := by
          cases L with
          | nil => simp at hLn; omega
          | cons z L' => exact ⟨z, L', rfl⟩
        obtain ⟨c0, c1, c2, c3⟩ := own_cells (k := 0) (l := z :: L') rfl (unhide D).own
        rw [Nat.zero_mul] at c0 c1 c2 c3
        have f1 := (unhide D).own.frozenAt 1
        have hGe : W.heap.size ≤ G := by have := own_ge (unhide D).own; omega
        rw [Nat.zero_add] at c1
        have hO := hide (own_green 300 (unhide D).own)
        have hE : Hid (Below W.heap.size W (w2.setCell ⟨G, 1, none⟩ (.int .i64 300))) := hide ((unhide D).bel.setCell hGe _)
        have hl3 : ((z.1, 300, z.2.2.1, z.2.2.2) :: L' : List Kl).length = i := by simpa using hLn
        clear hLn c0 c2 c3
        go_wp2
        exact bodyPost_ret (v := .tuple #[.int .i64 P, .int .i64 Q, .slice (some ⟨G, 0, none⟩) ((z.1, 300, z.2.2.1, z.2.2.2) :: L' : List Kl).length c, .int .i64 dx, .int .i64 dy]) (by simp only [hl3]; simp [results, Try.results31, go_sem]) rfl ⟨P, Q, dx, dy, some ⟨G, 0, none⟩, c, ((z.1, 300, z.2.2.1, z.2.2.2) :: L' : List Kl), rfl, by rw [hl3]; omega, kls_own (unhide hO), unhide hE⟩
      · skip
        have hgw : g < w2.heap.size := (unhide D).cur.lt
        have DA := hide ((unhide D).below ((Below.refl _ _).alloc (Nat.le_refl _) (.cells #[.int .i64 10000000, .int .i64 10000001, .int .i64 (-9223372036854775808)] 2)))
        clear D
        go_wp2_with fail
        refine (below_any W.heap.size g a len cap 3 _ hWg hl9 (unhide DA).cur (unhide DA).rd (by omega)).mono ?_
        rintro e w6 ⟨y, rfl, y0, y1, k2, gr2⟩
        obtain ⟨y, rfl⟩ : ∃ y' : Nat, y = y' := ⟨y.toNat, by omega⟩
        obtain ⟨v, hv⟩ := lit3 (w := w2) (T := 2) (k := y) (a0 := 10000000) (a1 := 10000001) (a2 := (-9223372036854775808)) (by omega)
        have hv6 := lit_at gr2 hgw hv
        have D := hide ((unhide DA).call hWg hg1 k2 gr2)
        clear DA k2 gr2 hv
        go_wp2
        exact bodyPost_ret (v := .tuple #[.int .i64 P, .int .i64 Q, .slice (some ⟨G, 0, none⟩) L.length c, .int .i64 v, .int .i64 dy]) (by simp [results, Try.results31, go_sem, hLn]) rfl ⟨P, Q, v, dy, some ⟨G, 0, none⟩, c, L, rfl, by omega, kls_own (unhide D).own, (unhide D).bel⟩
      · skip
        have hgw : g < w2.heap.size := (unhide D).cur.lt
        have DA := hide ((unhide D).below ((Below.refl _ _).alloc (Nat.le_refl _) (.cells #[.int .i64 (-10000000), .int .i64 (-10000001), .int .i64 4611686018427387904] 2)))
        clear D
        go_wp2_with fail
        refine (below_any W.heap.size g a len cap 3 _ hWg hl9 (unhide DA).cur (unhide DA).rd (by omega)).mono ?_
        rintro e w6 ⟨y, rfl, y0, y1, k2, gr2⟩
        obtain ⟨y, rfl⟩ : ∃ y' : Nat, y = y' := ⟨y.toNat, by omega⟩
        obtain ⟨v, hv⟩ := lit3 (w := w2) (T := 2) (k := y) (a0 := (-10000000)) (a1 := (-10000001)) (a2 := 4611686018427387904) (by omega)
        have hv6 := lit_at gr2 hgw hv
        have D := hide ((unhide DA).call hWg hg1 k2 gr2)
        clear DA k2 gr2 hv
        go_wp2
        exact bodyPost_ret (v := .tuple #[.int .i64 P, .int .i64 Q, .slice (some ⟨G, 0, none⟩) L.length c, .int .i64 dx, .int .i64 v]) (by simp [results, Try.results31, go_sem, hLn]) rfl ⟨P, Q, dx, v, some ⟨G, 0, none⟩, c, L, rfl, by omega, kls_own (unhide D).own, (unhide D).bel⟩

end Go.Proofs.Yteabmbggljpmoaa
