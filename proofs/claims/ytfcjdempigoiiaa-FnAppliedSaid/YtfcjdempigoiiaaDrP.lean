/-
  Contract of the model's draw for Apply: it answers a list of clips and a list of changes in memory of their own, and writes into nothing that was there.
-/
import Derived.Test.YtfcjdempigoiiaaDrH
import Derived.Test.YtfcjdempigoiiaaSCh
namespace Go.Proofs.Ytfcjdempigoiiaa
open Go.RowKit
set_option linter.unusedVariables false
set_option linter.unusedSimpArgs false

theorem lit6 {w : World} {T : TypeId} {k : Nat} {a0 a1 a2 a3 a4 a5 : Int} (hk : k < 6) : ∃ v : Int, (w.alloc (.cells #[.int .i64 a0, .int .i64 a1, .int .i64 a2, .int .i64 a3, .int .i64 a4, .int .i64 a5] T)).cell? ⟨w.heap.size, k, none⟩ = some (.int .i64 v) := by
  match k, hk with
  | 0, _ => exact ⟨a0, by simp [go_sem]⟩
  | 1, _ => exact ⟨a1, by simp [go_sem]⟩
  | 2, _ => exact ⟨a2, by simp [go_sem]⟩
  | 3, _ => exact ⟨a3, by simp [go_sem]⟩
  | 4, _ => exact ⟨a4, by simp [go_sem]⟩
  | 5, _ => exact ⟨a5, by simp [go_sem]⟩
theorem flC_any (l : List Ch) : ∀ (i : Nat) (v : Int), ∃ l', l'.length = l.length ∧ (flC l).set i (iv v) = flC l' := by
  induction l with
  | nil => intro i v; exact ⟨[], rfl, by simp [flC]⟩
  | cons x l ih =>
    intro i v
    obtain ⟨x1, x2, x3, x4⟩ := x
    match i with
    | 0 => exact ⟨(v, x2, x3, x4) :: l, rfl, rfl⟩
    | 1 => exact ⟨(x1, v, x3, x4) :: l, rfl, rfl⟩
    | 2 => exact ⟨(x1, x2, v, x4) :: l, rfl, rfl⟩
    | 3 => exact ⟨(x1, x2, x3, v) :: l, rfl, rfl⟩
    | i + 4 =>
      obtain ⟨l', h1, h2⟩ := ih i v
      exact ⟨(x1, x2, x3, x4) :: l', by simp [h1], by simp [flC, h2]⟩
def sliceLen : Value → Nat
  | .slice _ n _ => n
  | _ => 0

set_option maxHeartbeats 400000 in
theorem from_any (B g : Nat) (a : Option Addr) (len cap : Nat) (lo hi : Int) (w : World) (hB : B ≤ g) (hl : len ≤ 9223372036854775807) (hc : CurAt w g a len cap) (hr : RdB w B a len) (h0 : -10 ≤ lo) (h1 : hi ≤ 10) (h2 : lo ≤ hi) :
    Calls Try.prog 45 #[.pointer (some ⟨g, 0, none⟩), .int .i64 lo, .int .i64 hi] w fun e w' => ∃ x, e = .returned (.int .i64 x) ∧ CurAt w' g a len cap ∧ w.grownBy w' (some g) := by
  have hc' := hide hc
  have hr' := hide hr
  clear hc hr
  go_enter Try.func45, Try.ntmps45
  go_wp2_with fail
  refine (below_any B g a len cap (hi - lo + 1) _ hB hl (unhide hc') (unhide hr') (by omega)).mono ?_
  rintro e w1 ⟨x, rfl, x0, x1, k1, g1⟩
  go_wp2
  go_ret
  exact ⟨_, rfl, k1, g1⟩

/-- a cut and a list of changes that were drawn -/
def DrA2 (w w' : World) (G c : Nat) (L : List Kl) (H d : Nat) (C : List Ch) : Prop :=
  L.length ≤ 1000 ∧ C.length ≤ 200000 ∧ Own w' w.heap.size G L.length c L ∧ OwnC w' w.heap.size H C.length d C ∧ Below w.heap.size w w'
/-- the state: the cursor, the cut, the changes -/
structure AS (w : World) (B g : Nat) (a : Option Addr) (len cap : Nat) (wr : World) (G c : Nat) (L : List Kl) (gC cC : Nat) (C : List Ch) : Prop where
  ds : DS w B g a len cap wr
  l : Own wr w.heap.size G L.length c L
  c : OwnC wr w.heap.size gC C.length cC C
  ne : G ≠ gC
section
variable {w wr w1 : World} {B g : Nat} {a : Option Addr} {len cap G c gC cC : Nat} {L : List Kl} {C : List Ch}
theorem AS.call (h : AS w B g a len cap wr G c L gC cC C) (hB : B ≤ g) (hg : g < w.heap.size) (hc : CurAt w1 g a len cap) (hgr : wr.grownBy w1 (some g)) : AS w B g a len cap w1 G c L gC cC C :=
  ⟨h.ds.step hB hc hgr, own_kept h.l hgr (by have := own_ge h.l; omega), own_kept h.c hgr (by have := own_ge h.c; omega), h.ne⟩
theorem AS.later (h : AS w B g a len cap wr G c L gC cC C) (hB : B ≤ g) (hb : Below wr.heap.size wr w1) : AS w B g a len cap w1 G c L gC cC C :=
  ⟨h.ds.later hB hb, ownsRow_below h.l hb, ownsRow_below h.c hb, h.ne⟩
theorem AS.app (h : AS w B g a len cap wr G c L gC cC C) (hB : B ≤ g) (hg : g < w.heap.size) {g' c' : Nat} {v : Ch} (ho : OwnC w1 w.heap.size g' (C.length + 1) c' (C ++ [v])) (hgr : wr.grownBy w1 (some gC)) (hn : g' = gC ∨ g' = wr.heap.size) : AS w B g a len cap w1 G c L g' c' (C ++ [v]) := by
  have e : (C ++ [v]).length = C.length + 1 := by simp
  have hgC := own_ge h.c
  refine ⟨h.ds.wide hg hB (below_grown' hgr hgC h.ds.gr.size), own_kept h.l hgr h.ne, by rw [e]; exact ho, ?_⟩
  rcases hn with rfl | rfl
  · exact h.ne
  · have := own_lt h.l; omega
theorem AS.set (h : AS w B g a len cap wr G c L gC cC C) (hB : B ≤ g) (hg : g < w.heap.size) (i : Nat) (v : Int) : ∃ C', C'.length = C.length ∧ AS w B g a len cap (wr.setCell ⟨gC, i, none⟩ (.int .i64 v)) G c L gC cC C' := by
  obtain ⟨C', h1, h2⟩ := flC_any C i v
  have ho := (h.c.stored i (iv v)).1
  rw [h2] at ho
  have hgr : wr.grownBy (wr.setCell ⟨gC, i, none⟩ (.int .i64 v)) (some gC) := grown_set (World.grownBy.refl _ _)
  refine ⟨C', h1, h.ds.wide hg hB (below_grown' hgr (own_ge h.c) h.ds.gr.size), own_kept h.l hgr h.ne, by rw [h1]; exact ho, h.ne⟩
theorem AS.fin {W : World} (h : AS w B g a len cap wr G c L gC cC C) (hL : L.length ≤ 1000) (hs : W.heap.size ≤ w.heap.size) (hg0 : W.heap.size ≤ g) (hb : Below W.heap.size W w) (hC : C.length ≤ 200000) : DrA2 W wr G c L gC cC C :=
  ⟨hL, hC, own_mono h.l hs, own_mono h.c hs, below_grown hb h.ds.gr hg0⟩
end

set_option maxRecDepth 10000 in
set_option maxHeartbeats 12800000 in
theorem dapl_any (a : Option Addr) (len cap : Nat) (w : World) (hl : len ≤ 4096) (hr : RdB w w.heap.size a len) :
    Calls Try.prog 17 #[.slice a len cap] w fun e w' => ∃ G c L H d C, e = .returned (.tuple #[.slice (some ⟨G, 0, none⟩) L.length c, .slice (some ⟨H, 0, none⟩) C.length d]) ∧ DrA2 w w' G c L H d C := by
  have hl' : len ≤ 9223372036854775807 := by omega
  have hr' := hide hr
  clear hr
  go_enter Try.func17, Try.ntmps17
  go_wp2_with fail
  refine (new_any a len cap w hl' (by omega) (unhide hr')).mono ?_
  rintro e w1 ⟨g, rfl, hg0, hcur, hb1⟩
  have r1 : RdB w1 w.heap.size a len := by
    intro j hj
    obtain ⟨b, o, z, e, hb, hc, h0, h1⟩ := unhide hr' j hj
    exact ⟨b, o, z, e, hb, ((bcell hb1).1 _ _ hb).trans hc, h0, h1⟩
  have D1 := hide (show DS w1 w.heap.size g a len cap w1 from ⟨hcur, r1, World.grownBy.refl _ _⟩)
  have H1 := hide hb1
  have hs1 := hb1.size
  have hg1 := hcur.lt
  clear hcur r1 hb1 hr'
  go_wp2_with fail
  refine (dtrack_any w.heap.size g a len cap _ hg0 hl' (unhide D1).cur (unhide D1).rd).mono ?_
  rintro e w2 ⟨G, c, L, rfl, hL, T⟩
  have T2 := hide T
  have hmL : L.length ≤ maxLen := by unfold maxLen; omega
  clear T D1
  go_wp2_with fail
  refine (dnext_any w.heap.size g a len cap (some ⟨G, 0, none⟩) c L _ hg0 hl' (unhide T2).ds.cur (unhide T2).ds.rd hL (kls_own (unhide T2).ow)).mono ?_
  rintro e w3 ⟨H, d, M, rfl, hMl, T⟩
  have T3 := hide ((unhide T2).call hg0 hg1 T.ds.cur T.ds.gr)
  have oM := hide T.ow
  have hmM : M.length ≤ maxLen := by unfold maxLen; omega
  clear T T2
  have hCl := changes_len L M
  go_wp2_with fail
  refine (schanges_any (some ⟨G, 0, none⟩) (some ⟨H, 0, none⟩) c d L M _ hmL hmM (kls_own (unhide T3).ow) (kls_own (unhide oM))).mono ?_
  rintro e w4 hE
  generalize changesOf L M = C at hE hCl
  obtain ⟨gC, cC, rfl, q4, n4, b4⟩ := hE
  have S4 := hide (show AS w1 w.heap.size g a len cap w4 G c L gC cC C from ⟨(unhide T3).ds.later hg0 b4, ownsRow_below (unhide T3).ow b4, own_mono n4 (unhide T3).ds.gr.size, by have := own_lt (unhide T3).ow; omega⟩)
  clear q4 n4 b4 T3 oM
  go_wp2_with fail
  refine (once_any w.heap.size g a len cap 3 _ hg0 hl' (unhide S4).ds.cur (unhide S4).ds.rd (by omega)).mono ?_
  rintro e w5 ⟨q, rfl, k5, g5⟩
  have S5 := hide ((unhide S4).call hg0 hg1 k5 g5)
  clear k5 g5 S4
  cases q with
  | false =>
    have SX := S5
    clear S5
    go_wp2_with fail
    refine (once_any w.heap.size g a len cap 12 _ hg0 hl' (unhide SX).ds.cur (unhide SX).ds.rd (by omega)).mono ?_
    rintro e x1 ⟨q, rfl, k1, g1⟩
    have S1 := hide ((unhide SX).call hg0 hg1 k1 g1)
    clear k1 g1 SX
    cases q with
    | false =>
      have hF := hide ((unhide S1).fin hL hs1 hg0 (unhide H1) (show C.length ≤ 200000 by omega))
      clear S1
      go_wp2
      exact bodyPost_ret (v := .tuple #[.slice (some ⟨G, 0, none⟩) L.length c, .slice (some ⟨gC, 0, none⟩) C.length cC]) (by simp [results, Try.results17, go_sem]) rfl ⟨G, c, L, gC, cC, C, rfl, unhide hF⟩
    | true =>
      by_cases hC0 : 0 < C.length
      · have hc1 : decide ((0 : Int) < C.length) = true := by rw [decide_eq_true_iff]; omega
        go_wp2_with fail
        refine (below_any w.heap.size g a len cap (C.length : Int) _ hg0 hl' (unhide S1).ds.cur (unhide S1).ds.rd (by omega)).mono ?_
        rintro e x2 ⟨dk, rfl, d0, d1, k1, g1⟩
        obtain ⟨k, rfl⟩ : ∃ k : Nat, dk = k := ⟨dk.toNat, by omega⟩
        have S2 := hide ((unhide S1).call hg0 hg1 k1 g1)
        clear k1 g1 S1
        have hk : k < C.length := by omega
        obtain ⟨⟨y1, y2, y3, y4⟩, hy⟩ : ∃ p, C[k]? = some p := ⟨_, List.getElem?_eq_getElem hk⟩
        have hy' := hide hy
        clear hy
        go_wp2_with fail
        refine (below_any w.heap.size g a len cap 4 _ hg0 hl' (unhide S2).ds.cur (unhide S2).ds.rd (by omega)).mono ?_
        rintro e x3 ⟨p, rfl, p0, p1, k1, g1⟩
        have S3 := hide ((unhide S2).call hg0 hg1 k1 g1)
        clear k1 g1 S2
        have hp : p = 0 ∨ p = 1 ∨ p = 2 ∨ p = 3 := by omega
        rcases hp with rfl | rfl | rfl | rfl
        · go_wp2_with fail
          refine (from_any w.heap.size g a len cap 0 4 _ hg0 hl' (unhide S3).ds.cur (unhide S3).ds.rd (by omega) (by omega) (by omega)).mono ?_
          rintro e x4 ⟨v, rfl, k1, g1⟩
          have S4 := hide ((unhide S3).call hg0 hg1 k1 g1)
          clear k1 g1 S3
          obtain ⟨z0, z1, z2, z3⟩ := ownc_cells (unhide hy') (unhide S4).c
          simp only at z0 z1 z2 z3
          have zf := (unhide S4).c.frozenAt (k * 4)
          have hSF := hide ((unhide S4).set hg0 hg1 (k * 4) v)
          clear S4
          obtain ⟨C', hC', SF⟩ := unhide hSF
          have hF := hide (SF.fin hL hs1 hg0 (unhide H1) (show C'.length ≤ 200000 by omega))
          have hC1 := hide hC'
          clear hSF SF hC'
          go_wp2
          exact bodyPost_ret (v := .tuple #[.slice (some ⟨G, 0, none⟩) L.length c, .slice (some ⟨gC, 0, none⟩) C.length cC]) (by simp [results, Try.results17, go_sem]) rfl ⟨G, c, L, gC, cC, C', by rw [unhide hC1], unhide hF⟩
        · obtain ⟨A, hA⟩ : ∃ A, IntKind.i64.wrap (y4 + 1) = A := ⟨_, rfl⟩
          have hAl : Below x3.heap.size x3 (x3.alloc (.cells #[.int .i64 0, .int .i64 (-1), .int .i64 A, .int .i64 10000000, .int .i64 10000001, .int .i64 4611686018427387904] 2)) := (Below.refl _ _).alloc (Nat.le_refl _) _
          have S4 := hide ((unhide S3).later hg0 hAl)
          have hlg : x3.heap.size ≠ g := by have := (unhide S3).ds.cur.lt; omega
          have hl6 := fun k hk => lit6 (w := x3) (T := 2) (k := k) (a0 := 0) (a1 := -1) (a2 := A) (a3 := 10000000) (a4 := 10000001) (a5 := 4611686018427387904) hk
          clear hAl
          obtain ⟨z0, z1, z2, z3⟩ := ownc_cells (unhide hy') (unhide S3).c
          simp only at z0 z1 z2 z3
          have hgx := own_lt (unhide S3).c
          have S4d := hide ((unhide S4).later hg0 ((Below.refl _ _).drew))
          have S3d := hide ((unhide S3).later hg0 ((Below.refl _ _).drew))
          go_wp2_with fail
          go_region_law ((first
            | (go_simp
               go_at_call 43
               refine (below_any w.heap.size g a len cap 6 (x3.alloc (.cells #[.int .i64 0, .int .i64 (-1), .int .i64 A, .int .i64 10000000, .int .i64 10000001, .int .i64 4611686018427387904] 2)).drew hg0 hl' (unhide S4d).ds.cur (unhide S4d).ds.rd (by omega)).mono ?_
               rintro e w6 ⟨d, rfl, dd0, dd1, kk, gg⟩
               obtain ⟨m, rfl⟩ : ∃ m : Nat, d = m := ⟨d.toNat, by omega⟩
               obtain ⟨u, hu⟩ := hl6 m (by omega)
               have hu2 := grown_cell gg hlg hu
               have S5 := hide ((unhide S4d).call hg0 hg1 kk gg)
               obtain ⟨m0, m1, m2, m3⟩ := ownc_cells (unhide hy') (unhide S5).c
               simp only at m0 m1 m2 m3
               have mf := (unhide S5).c.frozenAt (k * 4 + 3)
               have ml := own_lt (unhide S5).c
               clear kk gg hu)
            | (go_simp
               go_at_call 43
               refine (below_any w.heap.size g a len cap 6 x3.drew hg0 hl' (unhide S3d).ds.cur (unhide S3d).ds.rd (by omega)).mono ?_
               rintro e w6 ⟨d, rfl, dd0, dd1, kk, gg⟩
               obtain ⟨m, rfl⟩ : ∃ m : Nat, d = m := ⟨d.toNat, by omega⟩
               obtain ⟨u, hu2⟩ := lit6 (w := w6) (T := 2) (k := m) (a0 := 0) (a1 := -1) (a2 := A) (a3 := 10000000) (a4 := 10000001) (a5 := 4611686018427387904) (by omega)
               have S5 := hide ((unhide S3d).call hg0 hg1 kk gg)
               obtain ⟨m0, m1, m2, m3⟩ := ownc_cells (unhide hy') (unhide S5).c
               simp only at m0 m1 m2 m3
               have mf := (unhide S5).c.frozenAt (k * 4 + 3)
               have ml := own_lt (unhide S5).c
               clear kk gg)))
          all_goals (
            have hSA := hide ((unhide S5).set hg0 hg1 (k * 4 + 3) u)
            clear S5 S4 S3 S4d S3d
            obtain ⟨C', hC', SF⟩ := unhide hSA
            have hFA := hide (SF.fin hL hs1 hg0 (unhide H1) (show C'.length ≤ 200000 by omega))
            have hFB := hide ((SF.later hg0 ((Below.refl _ _).alloc (Nat.le_refl _) (.cells #[.int .i64 0, .int .i64 (-1), .int .i64 A, .int .i64 10000000, .int .i64 10000001, .int .i64 4611686018427387904] 2))).fin hL hs1 hg0 (unhide H1) (show C'.length ≤ 200000 by omega))
            have hC1 := hide hC'
            clear hSA SF hC'
            go_wp2
            exact bodyPost_ret (v := .tuple #[.slice (some ⟨G, 0, none⟩) L.length c, .slice (some ⟨gC, 0, none⟩) C.length cC]) (by simp [results, Try.results17, go_sem]) rfl (by first | exact ⟨G, c, L, gC, cC, C', by rw [unhide hC1], unhide hFA⟩ | exact ⟨G, c, L, gC, cC, C', by rw [unhide hC1], unhide hFB⟩))
        · go_wp2_with fail
          refine (from_any w.heap.size g a len cap (-1) 3 _ hg0 hl' (unhide S3).ds.cur (unhide S3).ds.rd (by omega) (by omega) (by omega)).mono ?_
          rintro e x4 ⟨v, rfl, k1, g1⟩
          have S4 := hide ((unhide S3).call hg0 hg1 k1 g1)
          clear k1 g1 S3
          obtain ⟨z0, z1, z2, z3⟩ := ownc_cells (unhide hy') (unhide S4).c
          simp only at z0 z1 z2 z3
          have zf := (unhide S4).c.frozenAt (k * 4 + 1)
          have hSF := hide ((unhide S4).set hg0 hg1 (k * 4 + 1) v)
          clear S4
          obtain ⟨C', hC', SF⟩ := unhide hSF
          have hF := hide (SF.fin hL hs1 hg0 (unhide H1) (show C'.length ≤ 200000 by omega))
          have hC1 := hide hC'
          clear hSF SF hC'
          go_wp2
          exact bodyPost_ret (v := .tuple #[.slice (some ⟨G, 0, none⟩) L.length c, .slice (some ⟨gC, 0, none⟩) C.length cC]) (by simp [results, Try.results17, go_sem]) rfl ⟨G, c, L, gC, cC, C', by rw [unhide hC1], unhide hF⟩
        · obtain ⟨z0, z1, z2, z3⟩ := ownc_cells (unhide hy') (unhide S3).c
          simp only at z0 z1 z2 z3
          have kX := (Below.refl x3.heap.size x3).alloc (Nat.le_refl _) (.cells #[.int .i64 y1, .int .i64 y2, .int .i64 y3, .int .i64 y4] 60)
          have S4 := hide ((unhide S3).later hg0 kX)
          have hXn := hide (World.alloc_heap_new x3 (.cells #[.int .i64 y1, .int .i64 y2, .int .i64 y3, .int .i64 y4] 60))
          have hsz : w1.heap.size ≤ (x3.alloc (.cells #[.int .i64 y1, .int .i64 y2, .int .i64 y3, .int .i64 y4] 60)).heap.size := (unhide S4).ds.gr.size
          clear kX S3
          go_wp2_with (at_builtin; refine wpList_c Try.underlying27 _ rfl _ _ rfl w1.heap.size gC C.length cC C (y1, y2, y3, y4) rfl (unhide S4).c x3.heap.size rfl (unhide hXn) (by omega) hsz ?_)
          intro gX cX wX h1 h2 h3
          have SZ := (unhide S4).app hg0 hg1 h1 h2 (h3.imp id (fun h => h.trans (by simp)))
          have hF := hide (SZ.fin hL hs1 hg0 (unhide H1) (by simp; omega))
          have hC1 := hide (show (C ++ [(y1, y2, y3, y4)]).length = C.length + 1 by simp)
          clear h1 h2 h3 SZ S4 hXn
          go_wp2
          exact bodyPost_ret (v := .tuple #[.slice (some ⟨G, 0, none⟩) L.length c, .slice (some ⟨gX, 0, none⟩) (C.length + 1) cX]) (by simp [results, Try.results17, go_sem]) rfl ⟨G, c, L, gX, cX, _, by rw [unhide hC1], unhide hF⟩
      · have hc1 : decide ((0 : Int) < C.length) = false := by rw [decide_eq_false_iff_not]; omega
        have hF := hide ((unhide S1).fin hL hs1 hg0 (unhide H1) (show C.length ≤ 200000 by omega))
        clear S1
        go_wp2
        exact bodyPost_ret (v := .tuple #[.slice (some ⟨G, 0, none⟩) L.length c, .slice (some ⟨gC, 0, none⟩) C.length cC]) (by simp [results, Try.results17, go_sem]) rfl ⟨G, c, L, gC, cC, C, rfl, unhide hF⟩
  | true =>
    obtain ⟨Z, hZ⟩ : ∃ Z, Z = w5.alloc (.cells #[] 60) := ⟨_, rfl⟩
    have SE := hide (show AS w1 w.heap.size g a len cap Z G c L w5.heap.size 0 [] from by
      have hb : Below w5.heap.size w5 Z := by rw [hZ]; exact (Below.refl _ _).alloc (Nat.le_refl _) _
      have h := (unhide S5).later hg0 hb
      exact ⟨h.ds, h.l, by rw [hZ]; exact ownc_lit0 w5 (unhide S5).ds.gr.size, by have := own_lt (unhide S5).l; omega⟩)
    have hZ' := hide hZ
    clear hZ S5
    by_cases hT : TOk L
    · have hv := hide (show decide (TOk L) = true from decide_eq_true hT)
      have hAO := hide hT.2.1
      have hN1 := hT.2.2
      generalize hNe : clen L = NL at hN1
      have hNe' := hide hNe
      clear hT hNe
      go_wp2_with fail
      rw [← unhide hZ']
      refine (strack_any (some ⟨G, 0, none⟩) c L true _ hmL (kls_own (unhide SE).l) (unhide hv)).mono ?_
      rintro e w6 ⟨rfl, b6⟩
      have SE := hide ((unhide SE).later hg0 b6)
      clear b6 hv
      go_wp2_with fail
      refine (slen_any (some ⟨G, 0, none⟩) c L _ (by omega) (unhide hAO) (kls_own (unhide SE).l)).mono ?_
      rintro e w7 ⟨rfl, hw7⟩
      have hw8 := hw7.symm
      subst hw8
      rw [unhide hNe']
      go_wp2
      go_loopw [6, 7] (fun s t wr => ∃ (gC cC : Nat) (C : List Ch) (left : Int), C.length ≤ 20 ∧ left ≤ 10000000 ∧ t = .int .i64 left ∧ s = .slice (some ⟨gC, 0, none⟩) C.length cC ∧ Hid (AS w1 w.heap.size g a len cap wr G c L gC cC C)) (fun s _ _ => 20 - sliceLen s)
      case atStart => exact ⟨w5.heap.size, 0, [], NL, by simp, by omega, rfl, rfl, SE⟩
      case round =>
        clear SE
        obtain ⟨gC, cC, C, left, hC, hleft, rfl, rfl, hS⟩ := hrel
        by_cases hl0 : 0 < left
        · have hl1 : decide (0 < left) = true := by simpa using hl0
          by_cases hl2 : C.length < 20
          · have hl3 : decide ((C.length : Int) < 20) = true := by rw [decide_eq_true_iff]; omega
            go_wp2_with fail
            refine (below_any w.heap.size g a len cap left _ hg0 hl' (unhide hS).ds.cur (unhide hS).ds.rd hl0).mono ?_
            rintro e v1 ⟨x, rfl, xx0, xx1, k1, g1⟩
            have R1 := hide ((unhide hS).call hg0 hg1 k1 g1)
            clear k1 g1 hS
            go_wp2_with fail
            refine (below_any w.heap.size g a len cap 3 _ hg0 hl' (unhide R1).ds.cur (unhide R1).ds.rd (by omega)).mono ?_
            rintro e v2 ⟨p, rfl, p0, p1, k1, g1⟩
            have R2 := hide ((unhide R1).call hg0 hg1 k1 g1)
            clear k1 g1 R1
            have hp : p = 0 ∨ p = 1 ∨ p = 2 := by omega
            rcases hp with rfl | rfl | rfl
            · have kX := (Below.refl v2.heap.size v2).alloc (Nat.le_refl _) (.cells #[.int .i64 1, .int .i64 0, .int .i64 0, .int .i64 (1 + x)] 60)
              have R3 := hide ((unhide R2).later hg0 kX)
              have hXn := hide (World.alloc_heap_new v2 (.cells #[.int .i64 1, .int .i64 0, .int .i64 0, .int .i64 (1 + x)] 60))
              have hsz : w1.heap.size ≤ (v2.alloc (.cells #[.int .i64 1, .int .i64 0, .int .i64 0, .int .i64 (1 + x)] 60)).heap.size := (unhide R3).ds.gr.size
              clear kX R2
              go_wp2_with (at_builtin; refine wpList_c Try.underlying27 _ rfl _ _ rfl w1.heap.size gC C.length cC C (1, 0, 0, 1 + x) rfl (unhide R3).c v2.heap.size rfl (unhide hXn) (by omega) hsz ?_)
              intro gX cX wX h1 h2 h3
              have SZ := hide ((unhide R3).app hg0 hg1 h1 h2 (h3.imp id (fun h => h.trans (by simp))))
              have hC1 := hide (show (C ++ [(1, 0, 0, 1 + x)]).length = C.length + 1 by simp)
              clear h1 h2 h3 R3 hXn
              go_wp2
              go_roundw
              case rel => exact ⟨gX, cX, C ++ [(1, 0, 0, 1 + x)], left - (1 + x), by rw [unhide hC1]; omega, by omega, by go_num, by rw [unhide hC1], SZ⟩
              case measure => simp [sliceLen, unhide hC1]; omega
            · have kX := (Below.refl v2.heap.size v2).alloc (Nat.le_refl _) (.cells #[.int .i64 2, .int .i64 0, .int .i64 0, .int .i64 (1 + x)] 60)
              have R3 := hide ((unhide R2).later hg0 kX)
              have hXn := hide (World.alloc_heap_new v2 (.cells #[.int .i64 2, .int .i64 0, .int .i64 0, .int .i64 (1 + x)] 60))
              have hsz : w1.heap.size ≤ (v2.alloc (.cells #[.int .i64 2, .int .i64 0, .int .i64 0, .int .i64 (1 + x)] 60)).heap.size := (unhide R3).ds.gr.size
              clear kX R2
              go_wp2_with (at_builtin; refine wpList_c Try.underlying27 _ rfl _ _ rfl w1.heap.size gC C.length cC C (2, 0, 0, 1 + x) rfl (unhide R3).c v2.heap.size rfl (unhide hXn) (by omega) hsz ?_)
              intro gX cX wX h1 h2 h3
              have SZ := hide ((unhide R3).app hg0 hg1 h1 h2 (h3.imp id (fun h => h.trans (by simp))))
              have hC1 := hide (show (C ++ [(2, 0, 0, 1 + x)]).length = C.length + 1 by simp)
              clear h1 h2 h3 R3 hXn
              go_wp2
              go_roundw
              case rel => exact ⟨gX, cX, C ++ [(2, 0, 0, 1 + x)], left - (1 + x), by rw [unhide hC1]; omega, by omega, by go_num, by rw [unhide hC1], SZ⟩
              case measure => simp [sliceLen, unhide hC1]; omega
            · go_wp2_with fail
              refine (dclip_any w.heap.size g a len cap _ hg0 (by have := (unhide R2).ds.gr.size; omega) hl' (unhide R2).ds.cur (unhide R2).ds.rd).mono ?_
              rintro e v3 ⟨y1, y2, y3, rfl, d3⟩
              have R3 := hide ((unhide R2).call hg0 hg1 d3.cur d3.gr)
              clear d3 R2
              have kY := (Below.refl v3.heap.size v3).alloc (Nat.le_refl _) (.cells #[.int .i64 y1, .int .i64 y2, .int .i64 y3] 63)
              have R4 := hide ((unhide R3).later hg0 kY)
              have kX := (Below.refl (v3.alloc (.cells #[.int .i64 y1, .int .i64 y2, .int .i64 y3] 63)).heap.size (v3.alloc (.cells #[.int .i64 y1, .int .i64 y2, .int .i64 y3] 63))).alloc (Nat.le_refl _) (.cells #[.int .i64 3, .int .i64 y1, .int .i64 y2, .int .i64 y3] 60)
              have R5 := hide ((unhide R4).later hg0 kX)
              have hXn := hide (show ((v3.alloc (.cells #[.int .i64 y1, .int .i64 y2, .int .i64 y3] 63)).alloc (.cells #[.int .i64 3, .int .i64 y1, .int .i64 y2, .int .i64 y3] 60)).heap[v3.heap.size + 1]? = some (.cells #[.int .i64 3, .int .i64 y1, .int .i64 y2, .int .i64 y3] 60) by have h := World.alloc_heap_new (v3.alloc (.cells #[.int .i64 y1, .int .i64 y2, .int .i64 y3] 63)) (.cells #[.int .i64 3, .int .i64 y1, .int .i64 y2, .int .i64 y3] 60); rwa [World.size_alloc] at h)
              have hsz : w1.heap.size ≤ ((v3.alloc (.cells #[.int .i64 y1, .int .i64 y2, .int .i64 y3] 63)).alloc (.cells #[.int .i64 3, .int .i64 y1, .int .i64 y2, .int .i64 y3] 60)).heap.size := (unhide R5).ds.gr.size
              clear kX kY R3 R4
              go_wp2_with (at_builtin; refine wpList_c Try.underlying27 _ rfl _ _ rfl w1.heap.size gC C.length cC C (3, y1, y2, y3) rfl (unhide R5).c (v3.heap.size + 1) rfl (unhide hXn) (by omega) hsz ?_)
              intro gX cX wX h1 h2 h3
              have SZ := hide ((unhide R5).app hg0 hg1 h1 h2 (h3.imp id (fun h => h.trans (by simp))))
              have hC1 := hide (show (C ++ [(3, y1, y2, y3)]).length = C.length + 1 by simp)
              clear h1 h2 h3 R5 hXn
              go_wp2
              go_roundw
              case rel => exact ⟨gX, cX, C ++ [(3, y1, y2, y3)], left, by rw [unhide hC1]; omega, by omega, rfl, by rw [unhide hC1], SZ⟩
              case measure => simp [sliceLen, unhide hC1]; omega
          · have hl3 : decide ((C.length : Int) < 20) = false := by rw [decide_eq_false_iff_not]; omega
            have SX := hS
            clear hS
            go_wp2_with fail
            refine (once_any w.heap.size g a len cap 12 _ hg0 hl' (unhide SX).ds.cur (unhide SX).ds.rd (by omega)).mono ?_
            rintro e x1 ⟨q, rfl, k1, g1⟩
            have S1 := hide ((unhide SX).call hg0 hg1 k1 g1)
            clear k1 g1 SX
            cases q with
            | false =>
              have hF := hide ((unhide S1).fin hL hs1 hg0 (unhide H1) (show C.length ≤ 200000 by omega))
              clear S1
              go_wp2
              exact bodyPost_ret (v := .tuple #[.slice (some ⟨G, 0, none⟩) L.length c, .slice (some ⟨gC, 0, none⟩) C.length cC]) (by simp [results, Try.results17, go_sem]) rfl ⟨G, c, L, gC, cC, C, rfl, unhide hF⟩
            | true =>
              by_cases hC0 : 0 < C.length
              · have hc1 : decide ((0 : Int) < C.length) = true := by rw [decide_eq_true_iff]; omega
                go_wp2_with fail
                refine (below_any w.heap.size g a len cap (C.length : Int) _ hg0 hl' (unhide S1).ds.cur (unhide S1).ds.rd (by omega)).mono ?_
                rintro e x2 ⟨dk, rfl, d0, d1, k1, g1⟩
                obtain ⟨k, rfl⟩ : ∃ k : Nat, dk = k := ⟨dk.toNat, by omega⟩
                have S2 := hide ((unhide S1).call hg0 hg1 k1 g1)
                clear k1 g1 S1
                have hk : k < C.length := by omega
                obtain ⟨⟨y1, y2, y3, y4⟩, hy⟩ : ∃ p, C[k]? = some p := ⟨_, List.getElem?_eq_getElem hk⟩
                have hy' := hide hy
                clear hy
                go_wp2_with fail
                refine (below_any w.heap.size g a len cap 4 _ hg0 hl' (unhide S2).ds.cur (unhide S2).ds.rd (by omega)).mono ?_
                rintro e x3 ⟨p, rfl, p0, p1, k1, g1⟩
                have S3 := hide ((unhide S2).call hg0 hg1 k1 g1)
                clear k1 g1 S2
                have hp : p = 0 ∨ p = 1 ∨ p = 2 ∨ p = 3 := by omega
                rcases hp with rfl | rfl | rfl | rfl
                · go_wp2_with fail
                  refine (from_any w.heap.size g a len cap 0 4 _ hg0 hl' (unhide S3).ds.cur (unhide S3).ds.rd (by omega) (by omega) (by omega)).mono ?_
                  rintro e x4 ⟨v, rfl, k1, g1⟩
                  have S4 := hide ((unhide S3).call hg0 hg1 k1 g1)
                  clear k1 g1 S3
                  obtain ⟨z0, z1, z2, z3⟩ := ownc_cells (unhide hy') (unhide S4).c
                  simp only at z0 z1 z2 z3
                  have zf := (unhide S4).c.frozenAt (k * 4)
                  have hSF := hide ((unhide S4).set hg0 hg1 (k * 4) v)
                  clear S4
                  obtain ⟨C', hC', SF⟩ := unhide hSF
                  have hF := hide (SF.fin hL hs1 hg0 (unhide H1) (show C'.length ≤ 200000 by omega))
                  have hC1 := hide hC'
                  clear hSF SF hC'
                  go_wp2
                  exact bodyPost_ret (v := .tuple #[.slice (some ⟨G, 0, none⟩) L.length c, .slice (some ⟨gC, 0, none⟩) C.length cC]) (by simp [results, Try.results17, go_sem]) rfl ⟨G, c, L, gC, cC, C', by rw [unhide hC1], unhide hF⟩
                · obtain ⟨A, hA⟩ : ∃ A, IntKind.i64.wrap (y4 + 1) = A := ⟨_, rfl⟩
                  have hAl : Below x3.heap.size x3 (x3.alloc (.cells #[.int .i64 0, .int .i64 (-1), .int .i64 A, .int .i64 10000000, .int .i64 10000001, .int .i64 4611686018427387904] 2)) := (Below.refl _ _).alloc (Nat.le_refl _) _
                  have S4 := hide ((unhide S3).later hg0 hAl)
                  have hlg : x3.heap.size ≠ g := by have := (unhide S3).ds.cur.lt; omega
                  have hl6 := fun k hk => lit6 (w := x3) (T := 2) (k := k) (a0 := 0) (a1 := -1) (a2 := A) (a3 := 10000000) (a4 := 10000001) (a5 := 4611686018427387904) hk
                  clear hAl
                  obtain ⟨z0, z1, z2, z3⟩ := ownc_cells (unhide hy') (unhide S3).c
                  simp only at z0 z1 z2 z3
                  have hgx := own_lt (unhide S3).c
                  have S4d := hide ((unhide S4).later hg0 ((Below.refl _ _).drew))
                  have S3d := hide ((unhide S3).later hg0 ((Below.refl _ _).drew))
                  go_wp2_with fail
                  go_region_law ((first
                    | (go_simp
                       go_at_call 43
                       refine (below_any w.heap.size g a len cap 6 (x3.alloc (.cells #[.int .i64 0, .int .i64 (-1), .int .i64 A, .int .i64 10000000, .int .i64 10000001, .int .i64 4611686018427387904] 2)).drew hg0 hl' (unhide S4d).ds.cur (unhide S4d).ds.rd (by omega)).mono ?_
                       rintro e w6 ⟨d, rfl, dd0, dd1, kk, gg⟩
                       obtain ⟨m, rfl⟩ : ∃ m : Nat, d = m := ⟨d.toNat, by omega⟩
                       obtain ⟨u, hu⟩ := hl6 m (by omega)
                       have hu2 := grown_cell gg hlg hu
                       have S5 := hide ((unhide S4d).call hg0 hg1 kk gg)
                       obtain ⟨m0, m1, m2, m3⟩ := ownc_cells (unhide hy') (unhide S5).c
                       simp only at m0 m1 m2 m3
                       have mf := (unhide S5).c.frozenAt (k * 4 + 3)
                       have ml := own_lt (unhide S5).c
                       clear kk gg hu)
                    | (go_simp
                       go_at_call 43
                       refine (below_any w.heap.size g a len cap 6 x3.drew hg0 hl' (unhide S3d).ds.cur (unhide S3d).ds.rd (by omega)).mono ?_
                       rintro e w6 ⟨d, rfl, dd0, dd1, kk, gg⟩
                       obtain ⟨m, rfl⟩ : ∃ m : Nat, d = m := ⟨d.toNat, by omega⟩
                       obtain ⟨u, hu2⟩ := lit6 (w := w6) (T := 2) (k := m) (a0 := 0) (a1 := -1) (a2 := A) (a3 := 10000000) (a4 := 10000001) (a5 := 4611686018427387904) (by omega)
                       have S5 := hide ((unhide S3d).call hg0 hg1 kk gg)
                       obtain ⟨m0, m1, m2, m3⟩ := ownc_cells (unhide hy') (unhide S5).c
                       simp only at m0 m1 m2 m3
                       have mf := (unhide S5).c.frozenAt (k * 4 + 3)
                       have ml := own_lt (unhide S5).c
                       clear kk gg)))
                  all_goals (
                    have hSA := hide ((unhide S5).set hg0 hg1 (k * 4 + 3) u)
                    clear S5 S4 S3 S4d S3d
                    obtain ⟨C', hC', SF⟩ := unhide hSA
                    have hFA := hide (SF.fin hL hs1 hg0 (unhide H1) (show C'.length ≤ 200000 by omega))
                    have hFB := hide ((SF.later hg0 ((Below.refl _ _).alloc (Nat.le_refl _) (.cells #[.int .i64 0, .int .i64 (-1), .int .i64 A, .int .i64 10000000, .int .i64 10000001, .int .i64 4611686018427387904] 2))).fin hL hs1 hg0 (unhide H1) (show C'.length ≤ 200000 by omega))
                    have hC1 := hide hC'
                    clear hSA SF hC'
                    go_wp2
                    exact bodyPost_ret (v := .tuple #[.slice (some ⟨G, 0, none⟩) L.length c, .slice (some ⟨gC, 0, none⟩) C.length cC]) (by simp [results, Try.results17, go_sem]) rfl (by first | exact ⟨G, c, L, gC, cC, C', by rw [unhide hC1], unhide hFA⟩ | exact ⟨G, c, L, gC, cC, C', by rw [unhide hC1], unhide hFB⟩))
                · go_wp2_with fail
                  refine (from_any w.heap.size g a len cap (-1) 3 _ hg0 hl' (unhide S3).ds.cur (unhide S3).ds.rd (by omega) (by omega) (by omega)).mono ?_
                  rintro e x4 ⟨v, rfl, k1, g1⟩
                  have S4 := hide ((unhide S3).call hg0 hg1 k1 g1)
                  clear k1 g1 S3
                  obtain ⟨z0, z1, z2, z3⟩ := ownc_cells (unhide hy') (unhide S4).c
                  simp only at z0 z1 z2 z3
                  have zf := (unhide S4).c.frozenAt (k * 4 + 1)
                  have hSF := hide ((unhide S4).set hg0 hg1 (k * 4 + 1) v)
                  clear S4
                  obtain ⟨C', hC', SF⟩ := unhide hSF
                  have hF := hide (SF.fin hL hs1 hg0 (unhide H1) (show C'.length ≤ 200000 by omega))
                  have hC1 := hide hC'
                  clear hSF SF hC'
                  go_wp2
                  exact bodyPost_ret (v := .tuple #[.slice (some ⟨G, 0, none⟩) L.length c, .slice (some ⟨gC, 0, none⟩) C.length cC]) (by simp [results, Try.results17, go_sem]) rfl ⟨G, c, L, gC, cC, C', by rw [unhide hC1], unhide hF⟩
                · obtain ⟨z0, z1, z2, z3⟩ := ownc_cells (unhide hy') (unhide S3).c
                  simp only at z0 z1 z2 z3
                  have kX := (Below.refl x3.heap.size x3).alloc (Nat.le_refl _) (.cells #[.int .i64 y1, .int .i64 y2, .int .i64 y3, .int .i64 y4] 60)
                  have S4 := hide ((unhide S3).later hg0 kX)
                  have hXn := hide (World.alloc_heap_new x3 (.cells #[.int .i64 y1, .int .i64 y2, .int .i64 y3, .int .i64 y4] 60))
                  have hsz : w1.heap.size ≤ (x3.alloc (.cells #[.int .i64 y1, .int .i64 y2, .int .i64 y3, .int .i64 y4] 60)).heap.size := (unhide S4).ds.gr.size
                  clear kX S3
                  go_wp2_with (at_builtin; refine wpList_c Try.underlying27 _ rfl _ _ rfl w1.heap.size gC C.length cC C (y1, y2, y3, y4) rfl (unhide S4).c x3.heap.size rfl (unhide hXn) (by omega) hsz ?_)
                  intro gX cX wX h1 h2 h3
                  have SZ := (unhide S4).app hg0 hg1 h1 h2 (h3.imp id (fun h => h.trans (by simp)))
                  have hF := hide (SZ.fin hL hs1 hg0 (unhide H1) (by simp; omega))
                  have hC1 := hide (show (C ++ [(y1, y2, y3, y4)]).length = C.length + 1 by simp)
                  clear h1 h2 h3 SZ S4 hXn
                  go_wp2
                  exact bodyPost_ret (v := .tuple #[.slice (some ⟨G, 0, none⟩) L.length c, .slice (some ⟨gX, 0, none⟩) (C.length + 1) cX]) (by simp [results, Try.results17, go_sem]) rfl ⟨G, c, L, gX, cX, _, by rw [unhide hC1], unhide hF⟩
              · have hc1 : decide ((0 : Int) < C.length) = false := by rw [decide_eq_false_iff_not]; omega
                have hF := hide ((unhide S1).fin hL hs1 hg0 (unhide H1) (show C.length ≤ 200000 by omega))
                clear S1
                go_wp2
                exact bodyPost_ret (v := .tuple #[.slice (some ⟨G, 0, none⟩) L.length c, .slice (some ⟨gC, 0, none⟩) C.length cC]) (by simp [results, Try.results17, go_sem]) rfl ⟨G, c, L, gC, cC, C, rfl, unhide hF⟩
        · have hl1 : decide (0 < left) = false := by simpa using hl0
          have SX := hS
          clear hS
          go_wp2_with fail
          refine (once_any w.heap.size g a len cap 12 _ hg0 hl' (unhide SX).ds.cur (unhide SX).ds.rd (by omega)).mono ?_
          rintro e x1 ⟨q, rfl, k1, g1⟩
          have S1 := hide ((unhide SX).call hg0 hg1 k1 g1)
          clear k1 g1 SX
          cases q with
          | false =>
            have hF := hide ((unhide S1).fin hL hs1 hg0 (unhide H1) (show C.length ≤ 200000 by omega))
            clear S1
            go_wp2
            exact bodyPost_ret (v := .tuple #[.slice (some ⟨G, 0, none⟩) L.length c, .slice (some ⟨gC, 0, none⟩) C.length cC]) (by simp [results, Try.results17, go_sem]) rfl ⟨G, c, L, gC, cC, C, rfl, unhide hF⟩
          | true =>
            by_cases hC0 : 0 < C.length
            · have hc1 : decide ((0 : Int) < C.length) = true := by rw [decide_eq_true_iff]; omega
              go_wp2_with fail
              refine (below_any w.heap.size g a len cap (C.length : Int) _ hg0 hl' (unhide S1).ds.cur (unhide S1).ds.rd (by omega)).mono ?_
              rintro e x2 ⟨dk, rfl, d0, d1, k1, g1⟩
              obtain ⟨k, rfl⟩ : ∃ k : Nat, dk = k := ⟨dk.toNat, by omega⟩
              have S2 := hide ((unhide S1).call hg0 hg1 k1 g1)
              clear k1 g1 S1
              have hk : k < C.length := by omega
              obtain ⟨⟨y1, y2, y3, y4⟩, hy⟩ : ∃ p, C[k]? = some p := ⟨_, List.getElem?_eq_getElem hk⟩
              have hy' := hide hy
              clear hy
              go_wp2_with fail
              refine (below_any w.heap.size g a len cap 4 _ hg0 hl' (unhide S2).ds.cur (unhide S2).ds.rd (by omega)).mono ?_
              rintro e x3 ⟨p, rfl, p0, p1, k1, g1⟩
              have S3 := hide ((unhide S2).call hg0 hg1 k1 g1)
              clear k1 g1 S2
              have hp : p = 0 ∨ p = 1 ∨ p = 2 ∨ p = 3 := by omega
              rcases hp with rfl | rfl | rfl | rfl
              · go_wp2_with fail
                refine (from_any w.heap.size g a len cap 0 4 _ hg0 hl' (unhide S3).ds.cur (unhide S3).ds.rd (by omega) (by omega) (by omega)).mono ?_
                rintro e x4 ⟨v, rfl, k1, g1⟩
                have S4 := hide ((unhide S3).call hg0 hg1 k1 g1)
                clear k1 g1 S3
                obtain ⟨z0, z1, z2, z3⟩ := ownc_cells (unhide hy') (unhide S4).c
                simp only at z0 z1 z2 z3
                have zf := (unhide S4).c.frozenAt (k * 4)
                have hSF := hide ((unhide S4).set hg0 hg1 (k * 4) v)
                clear S4
                obtain ⟨C', hC', SF⟩ := unhide hSF
                have hF := hide (SF.fin hL hs1 hg0 (unhide H1) (show C'.length ≤ 200000 by omega))
                have hC1 := hide hC'
                clear hSF SF hC'
                go_wp2
                exact bodyPost_ret (v := .tuple #[.slice (some ⟨G, 0, none⟩) L.length c, .slice (some ⟨gC, 0, none⟩) C.length cC]) (by simp [results, Try.results17, go_sem]) rfl ⟨G, c, L, gC, cC, C', by rw [unhide hC1], unhide hF⟩
              · obtain ⟨A, hA⟩ : ∃ A, IntKind.i64.wrap (y4 + 1) = A := ⟨_, rfl⟩
                have hAl : Below x3.heap.size x3 (x3.alloc (.cells #[.int .i64 0, .int .i64 (-1), .int .i64 A, .int .i64 10000000, .int .i64 10000001, .int .i64 4611686018427387904] 2)) := (Below.refl _ _).alloc (Nat.le_refl _) _
                have S4 := hide ((unhide S3).later hg0 hAl)
                have hlg : x3.heap.size ≠ g := by have := (unhide S3).ds.cur.lt; omega
                have hl6 := fun k hk => lit6 (w := x3) (T := 2) (k := k) (a0 := 0) (a1 := -1) (a2 := A) (a3 := 10000000) (a4 := 10000001) (a5 := 4611686018427387904) hk
                clear hAl
                obtain ⟨z0, z1, z2, z3⟩ := ownc_cells (unhide hy') (unhide S3).c
                simp only at z0 z1 z2 z3
                have hgx := own_lt (unhide S3).c
                have S4d := hide ((unhide S4).later hg0 ((Below.refl _ _).drew))
                have S3d := hide ((unhide S3).later hg0 ((Below.refl _ _).drew))
                go_wp2_with fail
                go_region_law ((first
                  | (go_simp
                     go_at_call 43
                     refine (below_any w.heap.size g a len cap 6 (x3.alloc (.cells #[.int .i64 0, .int .i64 (-1), .int .i64 A, .int .i64 10000000, .int .i64 10000001, .int .i64 4611686018427387904] 2)).drew hg0 hl' (unhide S4d).ds.cur (unhide S4d).ds.rd (by omega)).mono ?_
                     rintro e w6 ⟨d, rfl, dd0, dd1, kk, gg⟩
                     obtain ⟨m, rfl⟩ : ∃ m : Nat, d = m := ⟨d.toNat, by omega⟩
                     obtain ⟨u, hu⟩ := hl6 m (by omega)
                     have hu2 := grown_cell gg hlg hu
                     have S5 := hide ((unhide S4d).call hg0 hg1 kk gg)
                     obtain ⟨m0, m1, m2, m3⟩ := ownc_cells (unhide hy') (unhide S5).c
                     simp only at m0 m1 m2 m3
                     have mf := (unhide S5).c.frozenAt (k * 4 + 3)
                     have ml := own_lt (unhide S5).c
                     clear kk gg hu)
                  | (go_simp
                     go_at_call 43
                     refine (below_any w.heap.size g a len cap 6 x3.drew hg0 hl' (unhide S3d).ds.cur (unhide S3d).ds.rd (by omega)).mono ?_
                     rintro e w6 ⟨d, rfl, dd0, dd1, kk, gg⟩
                     obtain ⟨m, rfl⟩ : ∃ m : Nat, d = m := ⟨d.toNat, by omega⟩
                     obtain ⟨u, hu2⟩ := lit6 (w := w6) (T := 2) (k := m) (a0 := 0) (a1 := -1) (a2 := A) (a3 := 10000000) (a4 := 10000001) (a5 := 4611686018427387904) (by omega)
                     have S5 := hide ((unhide S3d).call hg0 hg1 kk gg)
                     obtain ⟨m0, m1, m2, m3⟩ := ownc_cells (unhide hy') (unhide S5).c
                     simp only at m0 m1 m2 m3
                     have mf := (unhide S5).c.frozenAt (k * 4 + 3)
                     have ml := own_lt (unhide S5).c
                     clear kk gg)))
                all_goals (
                  have hSA := hide ((unhide S5).set hg0 hg1 (k * 4 + 3) u)
                  clear S5 S4 S3 S4d S3d
                  obtain ⟨C', hC', SF⟩ := unhide hSA
                  have hFA := hide (SF.fin hL hs1 hg0 (unhide H1) (show C'.length ≤ 200000 by omega))
                  have hFB := hide ((SF.later hg0 ((Below.refl _ _).alloc (Nat.le_refl _) (.cells #[.int .i64 0, .int .i64 (-1), .int .i64 A, .int .i64 10000000, .int .i64 10000001, .int .i64 4611686018427387904] 2))).fin hL hs1 hg0 (unhide H1) (show C'.length ≤ 200000 by omega))
                  have hC1 := hide hC'
                  clear hSA SF hC'
                  go_wp2
                  exact bodyPost_ret (v := .tuple #[.slice (some ⟨G, 0, none⟩) L.length c, .slice (some ⟨gC, 0, none⟩) C.length cC]) (by simp [results, Try.results17, go_sem]) rfl (by first | exact ⟨G, c, L, gC, cC, C', by rw [unhide hC1], unhide hFA⟩ | exact ⟨G, c, L, gC, cC, C', by rw [unhide hC1], unhide hFB⟩))
              · go_wp2_with fail
                refine (from_any w.heap.size g a len cap (-1) 3 _ hg0 hl' (unhide S3).ds.cur (unhide S3).ds.rd (by omega) (by omega) (by omega)).mono ?_
                rintro e x4 ⟨v, rfl, k1, g1⟩
                have S4 := hide ((unhide S3).call hg0 hg1 k1 g1)
                clear k1 g1 S3
                obtain ⟨z0, z1, z2, z3⟩ := ownc_cells (unhide hy') (unhide S4).c
                simp only at z0 z1 z2 z3
                have zf := (unhide S4).c.frozenAt (k * 4 + 1)
                have hSF := hide ((unhide S4).set hg0 hg1 (k * 4 + 1) v)
                clear S4
                obtain ⟨C', hC', SF⟩ := unhide hSF
                have hF := hide (SF.fin hL hs1 hg0 (unhide H1) (show C'.length ≤ 200000 by omega))
                have hC1 := hide hC'
                clear hSF SF hC'
                go_wp2
                exact bodyPost_ret (v := .tuple #[.slice (some ⟨G, 0, none⟩) L.length c, .slice (some ⟨gC, 0, none⟩) C.length cC]) (by simp [results, Try.results17, go_sem]) rfl ⟨G, c, L, gC, cC, C', by rw [unhide hC1], unhide hF⟩
              · obtain ⟨z0, z1, z2, z3⟩ := ownc_cells (unhide hy') (unhide S3).c
                simp only at z0 z1 z2 z3
                have kX := (Below.refl x3.heap.size x3).alloc (Nat.le_refl _) (.cells #[.int .i64 y1, .int .i64 y2, .int .i64 y3, .int .i64 y4] 60)
                have S4 := hide ((unhide S3).later hg0 kX)
                have hXn := hide (World.alloc_heap_new x3 (.cells #[.int .i64 y1, .int .i64 y2, .int .i64 y3, .int .i64 y4] 60))
                have hsz : w1.heap.size ≤ (x3.alloc (.cells #[.int .i64 y1, .int .i64 y2, .int .i64 y3, .int .i64 y4] 60)).heap.size := (unhide S4).ds.gr.size
                clear kX S3
                go_wp2_with (at_builtin; refine wpList_c Try.underlying27 _ rfl _ _ rfl w1.heap.size gC C.length cC C (y1, y2, y3, y4) rfl (unhide S4).c x3.heap.size rfl (unhide hXn) (by omega) hsz ?_)
                intro gX cX wX h1 h2 h3
                have SZ := (unhide S4).app hg0 hg1 h1 h2 (h3.imp id (fun h => h.trans (by simp)))
                have hF := hide (SZ.fin hL hs1 hg0 (unhide H1) (by simp; omega))
                have hC1 := hide (show (C ++ [(y1, y2, y3, y4)]).length = C.length + 1 by simp)
                clear h1 h2 h3 SZ S4 hXn
                go_wp2
                exact bodyPost_ret (v := .tuple #[.slice (some ⟨G, 0, none⟩) L.length c, .slice (some ⟨gX, 0, none⟩) (C.length + 1) cX]) (by simp [results, Try.results17, go_sem]) rfl ⟨G, c, L, gX, cX, _, by rw [unhide hC1], unhide hF⟩
            · have hc1 : decide ((0 : Int) < C.length) = false := by rw [decide_eq_false_iff_not]; omega
              have hF := hide ((unhide S1).fin hL hs1 hg0 (unhide H1) (show C.length ≤ 200000 by omega))
              clear S1
              go_wp2
              exact bodyPost_ret (v := .tuple #[.slice (some ⟨G, 0, none⟩) L.length c, .slice (some ⟨gC, 0, none⟩) C.length cC]) (by simp [results, Try.results17, go_sem]) rfl ⟨G, c, L, gC, cC, C, rfl, unhide hF⟩
    · have hv := hide (show decide (TOk L) = false from decide_eq_false hT)
      clear hT
      go_wp2_with fail
      rw [← unhide hZ']
      refine (strack_any (some ⟨G, 0, none⟩) c L false _ hmL (kls_own (unhide SE).l) (unhide hv)).mono ?_
      rintro e w6 ⟨rfl, b6⟩
      have SE := hide ((unhide SE).later hg0 b6)
      clear b6 hv
      go_wp2
      go_loopw [6, 7] (fun s t wr => ∃ (gC cC : Nat) (C : List Ch) (left : Int), C.length ≤ 20 ∧ left ≤ 10000000 ∧ t = .int .i64 left ∧ s = .slice (some ⟨gC, 0, none⟩) C.length cC ∧ Hid (AS w1 w.heap.size g a len cap wr G c L gC cC C)) (fun s _ _ => 20 - sliceLen s)
      case atStart => exact ⟨w5.heap.size, 0, [], 5, by simp, by omega, rfl, rfl, SE⟩
      case round =>
        clear SE
        obtain ⟨gC, cC, C, left, hC, hleft, rfl, rfl, hS⟩ := hrel
        by_cases hl0 : 0 < left
        · have hl1 : decide (0 < left) = true := by simpa using hl0
          by_cases hl2 : C.length < 20
          · have hl3 : decide ((C.length : Int) < 20) = true := by rw [decide_eq_true_iff]; omega
            go_wp2_with fail
            refine (below_any w.heap.size g a len cap left _ hg0 hl' (unhide hS).ds.cur (unhide hS).ds.rd hl0).mono ?_
            rintro e v1 ⟨x, rfl, xx0, xx1, k1, g1⟩
            have R1 := hide ((unhide hS).call hg0 hg1 k1 g1)
            clear k1 g1 hS
            go_wp2_with fail
            refine (below_any w.heap.size g a len cap 3 _ hg0 hl' (unhide R1).ds.cur (unhide R1).ds.rd (by omega)).mono ?_
            rintro e v2 ⟨p, rfl, p0, p1, k1, g1⟩
            have R2 := hide ((unhide R1).call hg0 hg1 k1 g1)
            clear k1 g1 R1
            have hp : p = 0 ∨ p = 1 ∨ p = 2 := by omega
            rcases hp with rfl | rfl | rfl
            · have kX := (Below.refl v2.heap.size v2).alloc (Nat.le_refl _) (.cells #[.int .i64 1, .int .i64 0, .int .i64 0, .int .i64 (1 + x)] 60)
              have R3 := hide ((unhide R2).later hg0 kX)
              have hXn := hide (World.alloc_heap_new v2 (.cells #[.int .i64 1, .int .i64 0, .int .i64 0, .int .i64 (1 + x)] 60))
              have hsz : w1.heap.size ≤ (v2.alloc (.cells #[.int .i64 1, .int .i64 0, .int .i64 0, .int .i64 (1 + x)] 60)).heap.size := (unhide R3).ds.gr.size
              clear kX R2
              go_wp2_with (at_builtin; refine wpList_c Try.underlying27 _ rfl _ _ rfl w1.heap.size gC C.length cC C (1, 0, 0, 1 + x) rfl (unhide R3).c v2.heap.size rfl (unhide hXn) (by omega) hsz ?_)
              intro gX cX wX h1 h2 h3
              have SZ := hide ((unhide R3).app hg0 hg1 h1 h2 (h3.imp id (fun h => h.trans (by simp))))
              have hC1 := hide (show (C ++ [(1, 0, 0, 1 + x)]).length = C.length + 1 by simp)
              clear h1 h2 h3 R3 hXn
              go_wp2
              go_roundw
              case rel => exact ⟨gX, cX, C ++ [(1, 0, 0, 1 + x)], left - (1 + x), by rw [unhide hC1]; omega, by omega, by go_num, by rw [unhide hC1], SZ⟩
              case measure => simp [sliceLen, unhide hC1]; omega
            · have kX := (Below.refl v2.heap.size v2).alloc (Nat.le_refl _) (.cells #[.int .i64 2, .int .i64 0, .int .i64 0, .int .i64 (1 + x)] 60)
              have R3 := hide ((unhide R2).later hg0 kX)
              have hXn := hide (World.alloc_heap_new v2 (.cells #[.int .i64 2, .int .i64 0, .int .i64 0, .int .i64 (1 + x)] 60))
              have hsz : w1.heap.size ≤ (v2.alloc (.cells #[.int .i64 2, .int .i64 0, .int .i64 0, .int .i64 (1 + x)] 60)).heap.size := (unhide R3).ds.gr.size
              clear kX R2
              go_wp2_with (at_builtin; refine wpList_c Try.underlying27 _ rfl _ _ rfl w1.heap.size gC C.length cC C (2, 0, 0, 1 + x) rfl (unhide R3).c v2.heap.size rfl (unhide hXn) (by omega) hsz ?_)
              intro gX cX wX h1 h2 h3
              have SZ := hide ((unhide R3).app hg0 hg1 h1 h2 (h3.imp id (fun h => h.trans (by simp))))
              have hC1 := hide (show (C ++ [(2, 0, 0, 1 + x)]).length = C.length + 1 by simp)
              clear h1 h2 h3 R3 hXn
              go_wp2
              go_roundw
              case rel => exact ⟨gX, cX, C ++ [(2, 0, 0, 1 + x)], left - (1 + x), by rw [unhide hC1]; omega, by omega, by go_num, by rw [unhide hC1], SZ⟩
              case measure => simp [sliceLen, unhide hC1]; omega
            · go_wp2_with fail
              refine (dclip_any w.heap.size g a len cap _ hg0 (by have := (unhide R2).ds.gr.size; omega) hl' (unhide R2).ds.cur (unhide R2).ds.rd).mono ?_
              rintro e v3 ⟨y1, y2, y3, rfl, d3⟩
              have R3 := hide ((unhide R2).call hg0 hg1 d3.cur d3.gr)
              clear d3 R2
              have kY := (Below.refl v3.heap.size v3).alloc (Nat.le_refl _) (.cells #[.int .i64 y1, .int .i64 y2, .int .i64 y3] 63)
              have R4 := hide ((unhide R3).later hg0 kY)
              have kX := (Below.refl (v3.alloc (.cells #[.int .i64 y1, .int .i64 y2, .int .i64 y3] 63)).heap.size (v3.alloc (.cells #[.int .i64 y1, .int .i64 y2, .int .i64 y3] 63))).alloc (Nat.le_refl _) (.cells #[.int .i64 3, .int .i64 y1, .int .i64 y2, .int .i64 y3] 60)
              have R5 := hide ((unhide R4).later hg0 kX)
              have hXn := hide (show ((v3.alloc (.cells #[.int .i64 y1, .int .i64 y2, .int .i64 y3] 63)).alloc (.cells #[.int .i64 3, .int .i64 y1, .int .i64 y2, .int .i64 y3] 60)).heap[v3.heap.size + 1]? = some (.cells #[.int .i64 3, .int .i64 y1, .int .i64 y2, .int .i64 y3] 60) by have h := World.alloc_heap_new (v3.alloc (.cells #[.int .i64 y1, .int .i64 y2, .int .i64 y3] 63)) (.cells #[.int .i64 3, .int .i64 y1, .int .i64 y2, .int .i64 y3] 60); rwa [World.size_alloc] at h)
              have hsz : w1.heap.size ≤ ((v3.alloc (.cells #[.int .i64 y1, .int .i64 y2, .int .i64 y3] 63)).alloc (.cells #[.int .i64 3, .int .i64 y1, .int .i64 y2, .int .i64 y3] 60)).heap.size := (unhide R5).ds.gr.size
              clear kX kY R3 R4
              go_wp2_with (at_builtin; refine wpList_c Try.underlying27 _ rfl _ _ rfl w1.heap.size gC C.length cC C (3, y1, y2, y3) rfl (unhide R5).c (v3.heap.size + 1) rfl (unhide hXn) (by omega) hsz ?_)
              intro gX cX wX h1 h2 h3
              have SZ := hide ((unhide R5).app hg0 hg1 h1 h2 (h3.imp id (fun h => h.trans (by simp))))
              have hC1 := hide (show (C ++ [(3, y1, y2, y3)]).length = C.length + 1 by simp)
              clear h1 h2 h3 R5 hXn
              go_wp2
              go_roundw
              case rel => exact ⟨gX, cX, C ++ [(3, y1, y2, y3)], left, by rw [unhide hC1]; omega, by omega, rfl, by rw [unhide hC1], SZ⟩
              case measure => simp [sliceLen, unhide hC1]; omega
          · have hl3 : decide ((C.length : Int) < 20) = false := by rw [decide_eq_false_iff_not]; omega
            have SX := hS
            clear hS
            go_wp2_with fail
            refine (once_any w.heap.size g a len cap 12 _ hg0 hl' (unhide SX).ds.cur (unhide SX).ds.rd (by omega)).mono ?_
            rintro e x1 ⟨q, rfl, k1, g1⟩
            have S1 := hide ((unhide SX).call hg0 hg1 k1 g1)
            clear k1 g1 SX
            cases q with
            | false =>
              have hF := hide ((unhide S1).fin hL hs1 hg0 (unhide H1) (show C.length ≤ 200000 by omega))
              clear S1
              go_wp2
              exact bodyPost_ret (v := .tuple #[.slice (some ⟨G, 0, none⟩) L.length c, .slice (some ⟨gC, 0, none⟩) C.length cC]) (by simp [results, Try.results17, go_sem]) rfl ⟨G, c, L, gC, cC, C, rfl, unhide hF⟩
            | true =>
              by_cases hC0 : 0 < C.length
              · have hc1 : decide ((0 : Int) < C.length) = true := by rw [decide_eq_true_iff]; omega
                go_wp2_with fail
                refine (below_any w.heap.size g a len cap (C.length : Int) _ hg0 hl' (unhide S1).ds.cur (unhide S1).ds.rd (by omega)).mono ?_
                rintro e x2 ⟨dk, rfl, d0, d1, k1, g1⟩
                obtain ⟨k, rfl⟩ : ∃ k : Nat, dk = k := ⟨dk.toNat, by omega⟩
                have S2 := hide ((unhide S1).call hg0 hg1 k1 g1)
                clear k1 g1 S1
                have hk : k < C.length := by omega
                obtain ⟨⟨y1, y2, y3, y4⟩, hy⟩ : ∃ p, C[k]? = some p := ⟨_, List.getElem?_eq_getElem hk⟩
                have hy' := hide hy
                clear hy
                go_wp2_with fail
                refine (below_any w.heap.size g a len cap 4 _ hg0 hl' (unhide S2).ds.cur (unhide S2).ds.rd (by omega)).mono ?_
                rintro e x3 ⟨p, rfl, p0, p1, k1, g1⟩
                have S3 := hide ((unhide S2).call hg0 hg1 k1 g1)
                clear k1 g1 S2
                have hp : p = 0 ∨ p = 1 ∨ p = 2 ∨ p = 3 := by omega
                rcases hp with rfl | rfl | rfl | rfl
                · go_wp2_with fail
                  refine (from_any w.heap.size g a len cap 0 4 _ hg0 hl' (unhide S3).ds.cur (unhide S3).ds.rd (by omega) (by omega) (by omega)).mono ?_
                  rintro e x4 ⟨v, rfl, k1, g1⟩
                  have S4 := hide ((unhide S3).call hg0 hg1 k1 g1)
                  clear k1 g1 S3
                  obtain ⟨z0, z1, z2, z3⟩ := ownc_cells (unhide hy') (unhide S4).c
                  simp only at z0 z1 z2 z3
                  have zf := (unhide S4).c.frozenAt (k * 4)
                  have hSF := hide ((unhide S4).set hg0 hg1 (k * 4) v)
                  clear S4
                  obtain ⟨C', hC', SF⟩ := unhide hSF
                  have hF := hide (SF.fin hL hs1 hg0 (unhide H1) (show C'.length ≤ 200000 by omega))
                  have hC1 := hide hC'
                  clear hSF SF hC'
                  go_wp2
                  exact bodyPost_ret (v := .tuple #[.slice (some ⟨G, 0, none⟩) L.length c, .slice (some ⟨gC, 0, none⟩) C.length cC]) (by simp [results, Try.results17, go_sem]) rfl ⟨G, c, L, gC, cC, C', by rw [unhide hC1], unhide hF⟩
                · obtain ⟨A, hA⟩ : ∃ A, IntKind.i64.wrap (y4 + 1) = A := ⟨_, rfl⟩
                  have hAl : Below x3.heap.size x3 (x3.alloc (.cells #[.int .i64 0, .int .i64 (-1), .int .i64 A, .int .i64 10000000, .int .i64 10000001, .int .i64 4611686018427387904] 2)) := (Below.refl _ _).alloc (Nat.le_refl _) _
                  have S4 := hide ((unhide S3).later hg0 hAl)
                  have hlg : x3.heap.size ≠ g := by have := (unhide S3).ds.cur.lt; omega
                  have hl6 := fun k hk => lit6 (w := x3) (T := 2) (k := k) (a0 := 0) (a1 := -1) (a2 := A) (a3 := 10000000) (a4 := 10000001) (a5 := 4611686018427387904) hk
                  clear hAl
                  obtain ⟨z0, z1, z2, z3⟩ := ownc_cells (unhide hy') (unhide S3).c
                  simp only at z0 z1 z2 z3
                  have hgx := own_lt (unhide S3).c
                  have S4d := hide ((unhide S4).later hg0 ((Below.refl _ _).drew))
                  have S3d := hide ((unhide S3).later hg0 ((Below.refl _ _).drew))
                  go_wp2_with fail
                  go_region_law ((first
                    | (go_simp
                       go_at_call 43
                       refine (below_any w.heap.size g a len cap 6 (x3.alloc (.cells #[.int .i64 0, .int .i64 (-1), .int .i64 A, .int .i64 10000000, .int .i64 10000001, .int .i64 4611686018427387904] 2)).drew hg0 hl' (unhide S4d).ds.cur (unhide S4d).ds.rd (by omega)).mono ?_
                       rintro e w6 ⟨d, rfl, dd0, dd1, kk, gg⟩
                       obtain ⟨m, rfl⟩ : ∃ m : Nat, d = m := ⟨d.toNat, by omega⟩
                       obtain ⟨u, hu⟩ := hl6 m (by omega)
                       have hu2 := grown_cell gg hlg hu
                       have S5 := hide ((unhide S4d).call hg0 hg1 kk gg)
                       obtain ⟨m0, m1, m2, m3⟩ := ownc_cells (unhide hy') (unhide S5).c
                       simp only at m0 m1 m2 m3
                       have mf := (unhide S5).c.frozenAt (k * 4 + 3)
                       have ml := own_lt (unhide S5).c
                       clear kk gg hu)
                    | (go_simp
                       go_at_call 43
                       refine (below_any w.heap.size g a len cap 6 x3.drew hg0 hl' (unhide S3d).ds.cur (unhide S3d).ds.rd (by omega)).mono ?_
                       rintro e w6 ⟨d, rfl, dd0, dd1, kk, gg⟩
                       obtain ⟨m, rfl⟩ : ∃ m : Nat, d = m := ⟨d.toNat, by omega⟩
                       obtain ⟨u, hu2⟩ := lit6 (w := w6) (T := 2) (k := m) (a0 := 0) (a1 := -1) (a2 := A) (a3 := 10000000) (a4 := 10000001) (a5 := 4611686018427387904) (by omega)
                       have S5 := hide ((unhide S3d).call hg0 hg1 kk gg)
                       obtain ⟨m0, m1, m2, m3⟩ := ownc_cells (unhide hy') (unhide S5).c
                       simp only at m0 m1 m2 m3
                       have mf := (unhide S5).c.frozenAt (k * 4 + 3)
                       have ml := own_lt (unhide S5).c
                       clear kk gg)))
                  all_goals (
                    have hSA := hide ((unhide S5).set hg0 hg1 (k * 4 + 3) u)
                    clear S5 S4 S3 S4d S3d
                    obtain ⟨C', hC', SF⟩ := unhide hSA
                    have hFA := hide (SF.fin hL hs1 hg0 (unhide H1) (show C'.length ≤ 200000 by omega))
                    have hFB := hide ((SF.later hg0 ((Below.refl _ _).alloc (Nat.le_refl _) (.cells #[.int .i64 0, .int .i64 (-1), .int .i64 A, .int .i64 10000000, .int .i64 10000001, .int .i64 4611686018427387904] 2))).fin hL hs1 hg0 (unhide H1) (show C'.length ≤ 200000 by omega))
                    have hC1 := hide hC'
                    clear hSA SF hC'
                    go_wp2
                    exact bodyPost_ret (v := .tuple #[.slice (some ⟨G, 0, none⟩) L.length c, .slice (some ⟨gC, 0, none⟩) C.length cC]) (by simp [results, Try.results17, go_sem]) rfl (by first | exact ⟨G, c, L, gC, cC, C', by rw [unhide hC1], unhide hFA⟩ | exact ⟨G, c, L, gC, cC, C', by rw [unhide hC1], unhide hFB⟩))
                · go_wp2_with fail
                  refine (from_any w.heap.size g a len cap (-1) 3 _ hg0 hl' (unhide S3).ds.cur (unhide S3).ds.rd (by omega) (by omega) (by omega)).mono ?_
                  rintro e x4 ⟨v, rfl, k1, g1⟩
                  have S4 := hide ((unhide S3).call hg0 hg1 k1 g1)
                  clear k1 g1 S3
                  obtain ⟨z0, z1, z2, z3⟩ := ownc_cells (unhide hy') (unhide S4).c
                  simp only at z0 z1 z2 z3
                  have zf := (unhide S4).c.frozenAt (k * 4 + 1)
                  have hSF := hide ((unhide S4).set hg0 hg1 (k * 4 + 1) v)
                  clear S4
                  obtain ⟨C', hC', SF⟩ := unhide hSF
                  have hF := hide (SF.fin hL hs1 hg0 (unhide H1) (show C'.length ≤ 200000 by omega))
                  have hC1 := hide hC'
                  clear hSF SF hC'
                  go_wp2
                  exact bodyPost_ret (v := .tuple #[.slice (some ⟨G, 0, none⟩) L.length c, .slice (some ⟨gC, 0, none⟩) C.length cC]) (by simp [results, Try.results17, go_sem]) rfl ⟨G, c, L, gC, cC, C', by rw [unhide hC1], unhide hF⟩
                · obtain ⟨z0, z1, z2, z3⟩ := ownc_cells (unhide hy') (unhide S3).c
                  simp only at z0 z1 z2 z3
                  have kX := (Below.refl x3.heap.size x3).alloc (Nat.le_refl _) (.cells #[.int .i64 y1, .int .i64 y2, .int .i64 y3, .int .i64 y4] 60)
                  have S4 := hide ((unhide S3).later hg0 kX)
                  have hXn := hide (World.alloc_heap_new x3 (.cells #[.int .i64 y1, .int .i64 y2, .int .i64 y3, .int .i64 y4] 60))
                  have hsz : w1.heap.size ≤ (x3.alloc (.cells #[.int .i64 y1, .int .i64 y2, .int .i64 y3, .int .i64 y4] 60)).heap.size := (unhide S4).ds.gr.size
                  clear kX S3
                  go_wp2_with (at_builtin; refine wpList_c Try.underlying27 _ rfl _ _ rfl w1.heap.size gC C.length cC C (y1, y2, y3, y4) rfl (unhide S4).c x3.heap.size rfl (unhide hXn) (by omega) hsz ?_)
                  intro gX cX wX h1 h2 h3
                  have SZ := (unhide S4).app hg0 hg1 h1 h2 (h3.imp id (fun h => h.trans (by simp)))
                  have hF := hide (SZ.fin hL hs1 hg0 (unhide H1) (by simp; omega))
                  have hC1 := hide (show (C ++ [(y1, y2, y3, y4)]).length = C.length + 1 by simp)
                  clear h1 h2 h3 SZ S4 hXn
                  go_wp2
                  exact bodyPost_ret (v := .tuple #[.slice (some ⟨G, 0, none⟩) L.length c, .slice (some ⟨gX, 0, none⟩) (C.length + 1) cX]) (by simp [results, Try.results17, go_sem]) rfl ⟨G, c, L, gX, cX, _, by rw [unhide hC1], unhide hF⟩
              · have hc1 : decide ((0 : Int) < C.length) = false := by rw [decide_eq_false_iff_not]; omega
                have hF := hide ((unhide S1).fin hL hs1 hg0 (unhide H1) (show C.length ≤ 200000 by omega))
                clear S1
                go_wp2
                exact bodyPost_ret (v := .tuple #[.slice (some ⟨G, 0, none⟩) L.length c, .slice (some ⟨gC, 0, none⟩) C.length cC]) (by simp [results, Try.results17, go_sem]) rfl ⟨G, c, L, gC, cC, C, rfl, unhide hF⟩
        · have hl1 : decide (0 < left) = false := by simpa using hl0
          have SX := hS
          clear hS
          go_wp2_with fail
          refine (once_any w.heap.size g a len cap 12 _ hg0 hl' (unhide SX).ds.cur (unhide SX).ds.rd (by omega)).mono ?_
          rintro e x1 ⟨q, rfl, k1, g1⟩
          have S1 := hide ((unhide SX).call hg0 hg1 k1 g1)
          clear k1 g1 SX
          cases q with
          | false =>
            have hF := hide ((unhide S1).fin hL hs1 hg0 (unhide H1) (show C.length ≤ 200000 by omega))
            clear S1
            go_wp2
            exact bodyPost_ret (v := .tuple #[.slice (some ⟨G, 0, none⟩) L.length c, .slice (some ⟨gC, 0, none⟩) C.length cC]) (by simp [results, Try.results17, go_sem]) rfl ⟨G, c, L, gC, cC, C, rfl, unhide hF⟩
          | true =>
            by_cases hC0 : 0 < C.length
            · have hc1 : decide ((0 : Int) < C.length) = true := by rw [decide_eq_true_iff]; omega
              go_wp2_with fail
              refine (below_any w.heap.size g a len cap (C.length : Int) _ hg0 hl' (unhide S1).ds.cur (unhide S1).ds.rd (by omega)).mono ?_
              rintro e x2 ⟨dk, rfl, d0, d1, k1, g1⟩
              obtain ⟨k, rfl⟩ : ∃ k : Nat, dk = k := ⟨dk.toNat, by omega⟩
              have S2 := hide ((unhide S1).call hg0 hg1 k1 g1)
              clear k1 g1 S1
              have hk : k < C.length := by omega
              obtain ⟨⟨y1, y2, y3, y4⟩, hy⟩ : ∃ p, C[k]? = some p := ⟨_, List.getElem?_eq_getElem hk⟩
              have hy' := hide hy
              clear hy
              go_wp2_with fail
              refine (below_any w.heap.size g a len cap 4 _ hg0 hl' (unhide S2).ds.cur (unhide S2).ds.rd (by omega)).mono ?_
              rintro e x3 ⟨p, rfl, p0, p1, k1, g1⟩
              have S3 := hide ((unhide S2).call hg0 hg1 k1 g1)
              clear k1 g1 S2
              have hp : p = 0 ∨ p = 1 ∨ p = 2 ∨ p = 3 := by omega
              rcases hp with rfl | rfl | rfl | rfl
              · go_wp2_with fail
                refine (from_any w.heap.size g a len cap 0 4 _ hg0 hl' (unhide S3).ds.cur (unhide S3).ds.rd (by omega) (by omega) (by omega)).mono ?_
                rintro e x4 ⟨v, rfl, k1, g1⟩
                have S4 := hide ((unhide S3).call hg0 hg1 k1 g1)
                clear k1 g1 S3
                obtain ⟨z0, z1, z2, z3⟩ := ownc_cells (unhide hy') (unhide S4).c
                simp only at z0 z1 z2 z3
                have zf := (unhide S4).c.frozenAt (k * 4)
                have hSF := hide ((unhide S4).set hg0 hg1 (k * 4) v)
                clear S4
                obtain ⟨C', hC', SF⟩ := unhide hSF
                have hF := hide (SF.fin hL hs1 hg0 (unhide H1) (show C'.length ≤ 200000 by omega))
                have hC1 := hide hC'
                clear hSF SF hC'
                go_wp2
                exact bodyPost_ret (v := .tuple #[.slice (some ⟨G, 0, none⟩) L.length c, .slice (some ⟨gC, 0, none⟩) C.length cC]) (by simp [results, Try.results17, go_sem]) rfl ⟨G, c, L, gC, cC, C', by rw [unhide hC1], unhide hF⟩
              · obtain ⟨A, hA⟩ : ∃ A, IntKind.i64.wrap (y4 + 1) = A := ⟨_, rfl⟩
                have hAl : Below x3.heap.size x3 (x3.alloc (.cells #[.int .i64 0, .int .i64 (-1), .int .i64 A, .int .i64 10000000, .int .i64 10000001, .int .i64 4611686018427387904] 2)) := (Below.refl _ _).alloc (Nat.le_refl _) _
                have S4 := hide ((unhide S3).later hg0 hAl)
                have hlg : x3.heap.size ≠ g := by have := (unhide S3).ds.cur.lt; omega
                have hl6 := fun k hk => lit6 (w := x3) (T := 2) (k := k) (a0 := 0) (a1 := -1) (a2 := A) (a3 := 10000000) (a4 := 10000001) (a5 := 4611686018427387904) hk
                clear hAl
                obtain ⟨z0, z1, z2, z3⟩ := ownc_cells (unhide hy') (unhide S3).c
                simp only at z0 z1 z2 z3
                have hgx := own_lt (unhide S3).c
                have S4d := hide ((unhide S4).later hg0 ((Below.refl _ _).drew))
                have S3d := hide ((unhide S3).later hg0 ((Below.refl _ _).drew))
                go_wp2_with fail
                go_region_law ((first
                  | (go_simp
                     go_at_call 43
                     refine (below_any w.heap.size g a len cap 6 (x3.alloc (.cells #[.int .i64 0, .int .i64 (-1), .int .i64 A, .int .i64 10000000, .int .i64 10000001, .int .i64 4611686018427387904] 2)).drew hg0 hl' (unhide S4d).ds.cur (unhide S4d).ds.rd (by omega)).mono ?_
                     rintro e w6 ⟨d, rfl, dd0, dd1, kk, gg⟩
                     obtain ⟨m, rfl⟩ : ∃ m : Nat, d = m := ⟨d.toNat, by omega⟩
                     obtain ⟨u, hu⟩ := hl6 m (by omega)
                     have hu2 := grown_cell gg hlg hu
                     have S5 := hide ((unhide S4d).call hg0 hg1 kk gg)
                     obtain ⟨m0, m1, m2, m3⟩ := ownc_cells (unhide hy') (unhide S5).c
                     simp only at m0 m1 m2 m3
                     have mf := (unhide S5).c.frozenAt (k * 4 + 3)
                     have ml := own_lt (unhide S5).c
                     clear kk gg hu)
                  | (go_simp
                     go_at_call 43
                     refine (below_any w.heap.size g a len cap 6 x3.drew hg0 hl' (unhide S3d).ds.cur (unhide S3d).ds.rd (by omega)).mono ?_
                     rintro e w6 ⟨d, rfl, dd0, dd1, kk, gg⟩
                     obtain ⟨m, rfl⟩ : ∃ m : Nat, d = m := ⟨d.toNat, by omega⟩
                     obtain ⟨u, hu2⟩ := lit6 (w := w6) (T := 2) (k := m) (a0 := 0) (a1 := -1) (a2 := A) (a3 := 10000000) (a4 := 10000001) (a5 := 4611686018427387904) (by omega)
                     have S5 := hide ((unhide S3d).call hg0 hg1 kk gg)
                     obtain ⟨m0, m1, m2, m3⟩ := ownc_cells (unhide hy') (unhide S5).c
                     simp only at m0 m1 m2 m3
                     have mf := (unhide S5).c.frozenAt (k * 4 + 3)
                     have ml := own_lt (unhide S5).c
                     clear kk gg)))
                all_goals (
                  have hSA := hide ((unhide S5).set hg0 hg1 (k * 4 + 3) u)
                  clear S5 S4 S3 S4d S3d
                  obtain ⟨C', hC', SF⟩ := unhide hSA
                  have hFA := hide (SF.fin hL hs1 hg0 (unhide H1) (show C'.length ≤ 200000 by omega))
                  have hFB := hide ((SF.later hg0 ((Below.refl _ _).alloc (Nat.le_refl _) (.cells #[.int .i64 0, .int .i64 (-1), .int .i64 A, .int .i64 10000000, .int .i64 10000001, .int .i64 4611686018427387904] 2))).fin hL hs1 hg0 (unhide H1) (show C'.length ≤ 200000 by omega))
                  have hC1 := hide hC'
                  clear hSA SF hC'
                  go_wp2
                  exact bodyPost_ret (v := .tuple #[.slice (some ⟨G, 0, none⟩) L.length c, .slice (some ⟨gC, 0, none⟩) C.length cC]) (by simp [results, Try.results17, go_sem]) rfl (by first | exact ⟨G, c, L, gC, cC, C', by rw [unhide hC1], unhide hFA⟩ | exact ⟨G, c, L, gC, cC, C', by rw [unhide hC1], unhide hFB⟩))
              · go_wp2_with fail
                refine (from_any w.heap.size g a len cap (-1) 3 _ hg0 hl' (unhide S3).ds.cur (unhide S3).ds.rd (by omega) (by omega) (by omega)).mono ?_
                rintro e x4 ⟨v, rfl, k1, g1⟩
                have S4 := hide ((unhide S3).call hg0 hg1 k1 g1)
                clear k1 g1 S3
                obtain ⟨z0, z1, z2, z3⟩ := ownc_cells (unhide hy') (unhide S4).c
                simp only at z0 z1 z2 z3
                have zf := (unhide S4).c.frozenAt (k * 4 + 1)
                have hSF := hide ((unhide S4).set hg0 hg1 (k * 4 + 1) v)
                clear S4
                obtain ⟨C', hC', SF⟩ := unhide hSF
                have hF := hide (SF.fin hL hs1 hg0 (unhide H1) (show C'.length ≤ 200000 by omega))
                have hC1 := hide hC'
                clear hSF SF hC'
                go_wp2
                exact bodyPost_ret (v := .tuple #[.slice (some ⟨G, 0, none⟩) L.length c, .slice (some ⟨gC, 0, none⟩) C.length cC]) (by simp [results, Try.results17, go_sem]) rfl ⟨G, c, L, gC, cC, C', by rw [unhide hC1], unhide hF⟩
              · obtain ⟨z0, z1, z2, z3⟩ := ownc_cells (unhide hy') (unhide S3).c
                simp only at z0 z1 z2 z3
                have kX := (Below.refl x3.heap.size x3).alloc (Nat.le_refl _) (.cells #[.int .i64 y1, .int .i64 y2, .int .i64 y3, .int .i64 y4] 60)
                have S4 := hide ((unhide S3).later hg0 kX)
                have hXn := hide (World.alloc_heap_new x3 (.cells #[.int .i64 y1, .int .i64 y2, .int .i64 y3, .int .i64 y4] 60))
                have hsz : w1.heap.size ≤ (x3.alloc (.cells #[.int .i64 y1, .int .i64 y2, .int .i64 y3, .int .i64 y4] 60)).heap.size := (unhide S4).ds.gr.size
                clear kX S3
                go_wp2_with (at_builtin; refine wpList_c Try.underlying27 _ rfl _ _ rfl w1.heap.size gC C.length cC C (y1, y2, y3, y4) rfl (unhide S4).c x3.heap.size rfl (unhide hXn) (by omega) hsz ?_)
                intro gX cX wX h1 h2 h3
                have SZ := (unhide S4).app hg0 hg1 h1 h2 (h3.imp id (fun h => h.trans (by simp)))
                have hF := hide (SZ.fin hL hs1 hg0 (unhide H1) (by simp; omega))
                have hC1 := hide (show (C ++ [(y1, y2, y3, y4)]).length = C.length + 1 by simp)
                clear h1 h2 h3 SZ S4 hXn
                go_wp2
                exact bodyPost_ret (v := .tuple #[.slice (some ⟨G, 0, none⟩) L.length c, .slice (some ⟨gX, 0, none⟩) (C.length + 1) cX]) (by simp [results, Try.results17, go_sem]) rfl ⟨G, c, L, gX, cX, _, by rw [unhide hC1], unhide hF⟩
            · have hc1 : decide ((0 : Int) < C.length) = false := by rw [decide_eq_false_iff_not]; omega
              have hF := hide ((unhide S1).fin hL hs1 hg0 (unhide H1) (show C.length ≤ 200000 by omega))
              clear S1
              go_wp2
              exact bodyPost_ret (v := .tuple #[.slice (some ⟨G, 0, none⟩) L.length c, .slice (some ⟨gC, 0, none⟩) C.length cC]) (by simp [results, Try.results17, go_sem]) rfl ⟨G, c, L, gC, cC, C, rfl, unhide hF⟩

end Go.Proofs.Ytfcjdempigoiiaa
