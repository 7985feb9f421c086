/-
  The reading of titles by the program; nothing that was there is written.
-/
import Derived.Test.YtcpllfjhhlbmiaaDoorRdG
import Derived.Lib.OwnKind
namespace Go.Proofs.YtcpllfjhhlbmiaaDoor
open Go.RowKit
set_option linter.unusedVariables false
set_option linter.unusedSimpArgs false

/-- what holds at each label -/
def J49 (w : World) (R : List Kl × Int) (l n : Nat) (a : Act) (W : World) : Prop := ∃ (q : Nat) (t : Array Value) (g c : Nat) (v : Value) (sr : ByteArray) (e : Int) (acc : List Kl) (ws r : List UInt8) (s : ByteArray), a = ⟨t, []⟩ ∧ At q g c acc.length v sr e t ∧ (⟨r.toArray⟩ : ByteArray) = sr ∧ acc.length ≤ 200 ∧
  ((l = 0 ∧ n = 2 * r.length ∧ r.length ≤ 1048576 ∧ L0 R acc e r ∧ ∃ x y, Rw w q g c acc v ws x y s W) ∨
   (l = 1 ∧ n = 2 * r.length ∧ r.length ≤ 1048576 ∧ L1 R acc e r ∧ ∃ x y, Rw w q g c acc v ws x y s W) ∨
   (l = 2 ∧ n = 2 * r.length ∧ ws.length + r.length ≤ 1048576 ∧ ∃ a b : Nat, L2 R acc a b ws r ∧ Rw w q g c acc v ws a b s W) ∨
   (l = 3 ∧ n = 2 * r.length + 1 ∧ ws.length + r.length ≤ 1048576 ∧ ∃ a b : Nat, L3 R acc a b ws r ∧ Rw w q g c acc v ws a b s W))
theorem go49 (w : World) (R : List Kl × Int) (q : Nat) : Go1 w R q (J49 w R) where
  j0 := fun h S hr hl hn hL => ⟨q, _, _, _, _, _, _, _, _, _, _, rfl, h, hr, hn, .inl ⟨rfl, rfl, hl, hL, _, _, S⟩⟩
  j1 := fun h S hr hl hn hL => ⟨q, _, _, _, _, _, _, _, _, _, _, rfl, h, hr, hn, .inr (.inl ⟨rfl, rfl, hl, hL, _, _, S⟩)⟩
  j2 := fun h S hr hl hn hL => ⟨q, _, _, _, _, _, _, _, _, _, _, rfl, h, hr, hn, .inr (.inr (.inl ⟨rfl, rfl, hl, _, _, hL, S⟩))⟩
  j3 := fun h S hr hl hn hL => ⟨q, _, _, _, _, _, _, _, _, _, _, rfl, h, hr, hn, .inr (.inr (.inr ⟨rfl, rfl, hl, _, _, hL, S⟩))⟩
theorem skip_seq {P : Program} {X : Code} {Q : Exit → Act → World → Prop} {a : Act} {w : World} (h : X.wp P Q a w) : (Code.seq .skip X).wp P Q a w := by
  apply wp_seq
  apply wp_skip
  exact h
set_option maxRecDepth 100000 in
theorem found0 : findLabel body49 0 = some (.seq .skip (X49 0)) := rfl
set_option maxRecDepth 100000 in
theorem found1 : findLabel body49 1 = some (.seq .skip (X49 1)) := rfl
set_option maxRecDepth 100000 in
theorem found2 : findLabel body49 2 = some (.seq .skip (X49 2)) := rfl
set_option maxRecDepth 100000 in
theorem found3 : findLabel body49 3 = some (.seq .skip (X49 3)) := rfl
theorem pass49 {w : World} {R : List Kl × Int} {Q : Exit → Act → World → Prop} (hM : MaxL w) (hT : Tab w) (hQ : EndQ w R Q) : ∀ l n a W, J49 w R l n a W → ∃ rest, findLabel body49 l = some rest ∧ rest.wp Tryd.prog (jmp (J49 w R) n Q) a W := by
  rintro l n a W ⟨q, t, g, c, v, sr, e, acc, ws, r, s, rfl, hA, hr, hn, h⟩
  have hG := go49 w R q
  rcases h with ⟨rfl, rfl, hl, hL, x, y, S⟩ | ⟨rfl, rfl, hl, hL, x, y, S⟩ | ⟨rfl, rfl, hl, a, b, hL, S⟩ | ⟨rfl, rfl, hl, a, b, hL, S⟩
  · exact ⟨_, found0, skip_seq (at0 hM hT hG hQ hA S hr hl hn hL)⟩
  · exact ⟨_, found1, skip_seq (at1 hM hT hG hQ hA S hr hl hn hL)⟩
  · exact ⟨_, found2, skip_seq (at2 hM hT hG hQ hA S hr hl hn hL)⟩
  · exact ⟨_, found3, skip_seq (at3 hM hT hG hQ hA S hr hl hn hL)⟩
theorem begin49 (w : World) : Rw w (w.heap.size + 1 + 1) w.heap.size 0 [] (.slice (some ⟨w.heap.size + 1, 0, none⟩) 0 0) [] 0 0 ⟨#[]⟩ (((w.alloc (.cells #[] 32)).alloc (.cells #[] 5)).alloc (.cells #[.int .i64 0, .int .i64 0, .string ⟨#[]⟩] 32)) := by
  have z1 : (w.alloc (.cells #[] 32)).heap.size = w.heap.size + 1 := by simp
  have z2 : ((w.alloc (.cells #[] 32)).alloc (.cells #[] 5)).heap.size = w.heap.size + 1 + 1 := by simp
  have h5 := ownB_lit0 (w.alloc (.cells #[] 32)) (B := w.heap.size) (by omega)
  have h6 := alloc_new ((w.alloc (.cells #[] 32)).alloc (.cells #[] 5)) (.cells #[.int .i64 0, .int .i64 0, .string ⟨#[]⟩] 32)
  rw [z1] at h5
  rw [z2] at h6
  exact ⟨((own_lit0 w (Nat.le_refl _)).alloc _).alloc _, h5.alloc _, (((Below.refl _ _).alloc (Nat.le_refl _) _).alloc (by simp) _).alloc (by simp; omega) _, h6, by omega, by omega⟩
set_option maxRecDepth 100000 in
set_option maxHeartbeats 6400000 in
theorem ird_any (s : ByteArray) (L : List UInt8) (R : List Kl × Int) (w : World) (hs : (⟨L.toArray⟩ : ByteArray) = s) (hl : L.length ≤ 1048576) (hM : MaxL w) (hT : Tab w) (hR : rdF (L.length + 1) [] 0 L = R) :
    Calls Tryd.prog 28 #[.string s] w fun e w' => ∃ g c, e = .returned (.tuple #[.slice (some ⟨g, 0, none⟩) R.1.length c, .int .i64 R.2]) ∧ R.1.length ≤ 200 ∧ Own w' w.heap.size g R.1.length c R.1 ∧ Below w.heap.size w w' := by
  have hL0 := hide (hR ▸ l0_begin L : L0 R [] 0 L)
  have S0 := hide (begin49 w)
  go_enter Tryd.func28, Tryd.ntmps28
  go_wp2
  refine wp_scope_all (J49 w R) (2 * L.length) (pass49 hM hT ?_) ?_
  · intro t W g c l k h2 h3 hR2 hn ho hb
    subst hR2
    exact bodyPost_ret (v := .tuple #[.slice (some ⟨g, 0, none⟩) l.length c, .int .i64 k]) (by
      have a2 : t[2]?.getD undef = .slice (some ⟨g, 0, none⟩) l.length c := by rw [← Array.getD_eq_getD_getElem?]; exact h2
      have a3 : t[3]?.getD undef = .int .i64 k := by rw [← Array.getD_eq_getD_getElem?]; exact h3
      simp [results, Tryd.results28, go_sem, a2, a3]) rfl ⟨_, _, rfl, hn, ho, hb⟩
  · go_wp2
    apply wp_label
    rename_i hK
    exact hK _ _ (at0 hM hT (go49 w R _) (by
      intro t W g c l k h2 h3 hR2 hn ho hb
      subst hR2
      exact bodyPost_ret (v := .tuple #[.slice (some ⟨g, 0, none⟩) l.length c, .int .i64 k]) (by
        have a2 : t[2]?.getD undef = .slice (some ⟨g, 0, none⟩) l.length c := by rw [← Array.getD_eq_getD_getElem?]; exact h2
        have a3 : t[3]?.getD undef = .int .i64 k := by rw [← Array.getD_eq_getD_getElem?]; exact h3
        simp [results, Tryd.results28, go_sem, a2, a3]) rfl ⟨_, _, rfl, hn, ho, hb⟩) ⟨rfl, rfl, rfl, rfl, rfl, rfl⟩ (unhide S0) hs hl (by simp) (unhide hL0))
/-- what is read of a text: the titles, a fault's code, the titles ahead of it -/
def rdT (L : List UInt8) : List Kl × Int × Int := if 40000 < L.length then ([], 1, 0) else if (rdF (L.length + 1) [] 0 L).2 = 0 then ((rdF (L.length + 1) [] 0 L).1, 0, 0) else ([], (rdF (L.length + 1) [] 0 L).2, ((rdF (L.length + 1) [] 0 L).1.length : Int))
abbrev fa (k n : Int) : Value := .agg #[.int .i64 k, .int .i64 n]
theorem put2 {X : World} {q : Nat} {t : TypeId} {a0 a1 v0 v1 : Value} (h : X.heap[q]? = some (.cells #[a0, a1] t (0, 0))) : ((X.setCell ⟨q, 0, none⟩ v0).setCell ⟨q, 1, none⟩ v1).heap[q]? = some (.cells #[v0, v1] t (0, 0)) := by
  simp [World.setCell, h, Array.getElem?_modify]
theorem blk2 {X : World} {q : Nat} {t : TypeId} {a0 a1 : Value} (h : X.heap[q]? = some (.cells #[a0, a1] t (0, 0))) : X.cell? ⟨q, 0, none⟩ = some a0 ∧ X.cell? ⟨q, 1, none⟩ = some a1 := by
  simp [World.cell?, h]
theorem set2 {w X : World} {B q : Nat} {v0 v1 : Value} (hb : Below B w X) (h : B ≤ q) : Below B w ((X.setCell ⟨q, 0, none⟩ v0).setCell ⟨q, 1, none⟩ v1) := (hb.setCell (p := ⟨q, 0, none⟩) h _).setCell (p := ⟨q, 1, none⟩) h _
theorem own2 {X : World} {B q g n c : Nat} {l : List Kl} {v0 v1 : Value} (ho : Own X B g n c l) (h : g ≠ q) : Own ((X.setCell ⟨q, 0, none⟩ v0).setCell ⟨q, 1, none⟩ v1) B g n c l := by
  have n1 : ∀ g', (Value.slice (some ⟨g, 0, none⟩) n c).ownBlock = some g' → g' ≠ q := by
    intro g' hg; simp [Value.ownBlock] at hg; omega
  exact own_set (own_set ho n1) n1
set_option maxRecDepth 100000 in
set_option maxHeartbeats 6400000 in
theorem iread_any (s : ByteArray) (L : List UInt8) (l : List Kl) (k n : Int) (w : World) (hs : (⟨L.toArray⟩ : ByteArray) = s) (hl : L.length ≤ 1048576) (hM : MaxL w) (hT : Tab w) (hR : rdT L = (l, k, n)) :
    Calls Tryd.prog 10 #[.string s] w fun e w' => ∃ g c, e = .returned (.tuple #[.slice (some ⟨g, 0, none⟩) l.length c, fa k n]) ∧ l.length ≤ 200 ∧ Own w' w.heap.size g l.length c l ∧ Below w.heap.size w w' := by
  have hsz : s.size = L.length := by rw [← hs]; show L.toArray.size = _; simp
  have A0 := (Below.refl w.heap.size w).alloc (Nat.le_refl _) (.cells #[.int .i64 0, .int .i64 0] 28)
  have W0 := alloc_new w (.cells #[.int .i64 0, .int .i64 0] 28)
  by_cases hb : 40000 < L.length
  · unfold rdT at hR
    rw [if_pos hb] at hR
    simp only [Prod.mk.injEq] at hR
    obtain ⟨rfl, rfl, rfl⟩ := hR
    have g0 : decide ((40000 : Int) < (s.size : Int)) = true := decide_eq_true (by omega)
    have O9 := own_lit0 (w.alloc (.cells #[.int .i64 1, .int .i64 0] 28)) (B := w.heap.size) (by simp)
    rw [show (w.alloc (.cells #[.int .i64 1, .int .i64 0] 28)).heap.size = w.heap.size + 1 by simp] at O9
    have O9 := hide O9
    have B9 := hide (((Below.refl w.heap.size w).alloc (Nat.le_refl _) (.cells #[.int .i64 1, .int .i64 0] 28)).alloc (by simp) (.cells #[] 32))
    clear hM hT hsz A0 W0
    go_enter Tryd.func10, Tryd.ntmps10
    go_wp2
    exact bodyPost_ret (v := .tuple #[.slice (some ⟨w.heap.size + 1, 0, none⟩) 0 0, fa 1 0]) (by simp [results, Tryd.results10, go_sem]) rfl ⟨_, _, rfl, by simp, unhide O9, unhide B9⟩
  have g0 : decide ((40000 : Int) < (s.size : Int)) = false := decide_eq_false (by omega)
  obtain ⟨R, hR1⟩ : ∃ R, rdF (L.length + 1) [] 0 L = R := ⟨_, rfl⟩
  unfold rdT at hR
  rw [if_neg hb, hR1] at hR
  have cR := hide (ird_any s L R (w.alloc (.cells #[.int .i64 0, .int .i64 0] 28)) hs hl (hM.below ((Below.refl _ _).alloc (Nat.le_refl _) _)) (hT.below ((Below.refl _ _).alloc (Nat.le_refl _) _)) hR1)
  obtain ⟨lR, kR⟩ := R
  simp only at hR cR
  have hR' := hide hR
  have A0 := hide A0
  have W0 := hide W0
  clear hM hT hsz hR hR1 hb hs
  by_cases hk : kR = 0
  · subst hk
    have hR2 := unhide hR'
    rw [if_pos rfl] at hR2
    simp only [Prod.mk.injEq] at hR2
    obtain ⟨rfl, rfl, rfl⟩ := hR2
    clear hR'
    go_enter Tryd.func10, Tryd.ntmps10
    go_wp2_with fail
    refine (unhide cR).mono ?_
    rintro e w1 ⟨g, c, rfl, hn, ho, kb⟩
    have hge := own_ge ho
    simp at hge
    have B1 := laterB (unhide A0) (kb.mono (by simp))
    have W1 := blk_below (unhide W0) (kb.mono (by simp))
    have O1 := own_mono ho (B' := w.heap.size) (by simp)
    obtain ⟨c0, c1⟩ := blk2 W1
    have f0 := Lib.frozen_of_heap W1 0
    have f1 := Lib.frozen_of_heap W1 1
    have P9 := hide (put2 (v0 := .int .i64 0) (v1 := .int .i64 0) W1)
    have B9 := hide (set2 (v0 := .int .i64 0) (v1 := .int .i64 0) B1 (Nat.le_refl w.heap.size))
    have O9 := hide (own2 (v0 := .int .i64 0) (v1 := .int .i64 0) (q := w.heap.size) O1 (by omega))
    clear W1 B1 O1 A0 W0 ho kb cR
    go_wp2
    generalize ((w1.setCell ⟨w.heap.size, 0, none⟩ (.int .i64 0)).setCell ⟨w.heap.size, 1, none⟩ (.int .i64 0)) = W9 at *
    clear c0 c1 f0 f1
    obtain ⟨c0, c1⟩ := blk2 (unhide P9)
    exact bodyPost_ret (v := .tuple #[.slice (some ⟨g, 0, none⟩) lR.length c, fa 0 0]) (by simp [results, Tryd.results10, go_sem, c0, c1]) rfl ⟨_, _, rfl, hn, unhide O9, unhide B9⟩
  have hR2 := unhide hR'
  rw [if_neg hk] at hR2
  simp only [Prod.mk.injEq] at hR2
  obtain ⟨rfl, rfl, rfl⟩ := hR2
  have hkb : (kR != 0) = true := by simpa using hk
  clear hR' hk
  go_enter Tryd.func10, Tryd.ntmps10
  go_wp2_with fail
  refine (unhide cR).mono ?_
  rintro e w1 ⟨g, c, rfl, hn, ho, kb⟩
  have B1 := laterB (unhide A0) (kb.mono (by simp))
  have W1 := blk_below (unhide W0) (kb.mono (by simp))
  have z1 := B1.size
  have z2 := lt_blk W1
  obtain ⟨c0, c1⟩ := blk2 W1
  have f0 := Lib.frozen_of_heap W1 0
  have f1 := Lib.frozen_of_heap W1 1
  obtain ⟨Y, hY⟩ : ∃ Y, ((w1.setCell ⟨w.heap.size, 0, none⟩ (.int .i64 kR)).setCell ⟨w.heap.size, 1, none⟩ (.int .i64 lR.length)) = Y := ⟨_, rfl⟩
  have hYz : Y.heap.size = w1.heap.size := by rw [← hY]; simp [World.setCell]
  have P9 := hide (show (Y.alloc (.cells #[] 32)).heap[w.heap.size]? = some (.cells #[.int .i64 kR, .int .i64 lR.length] 28 (0, 0)) from blk_below (hY ▸ put2 (v0 := .int .i64 kR) (v1 := .int .i64 lR.length) W1) ((Below.refl _ _).alloc (Nat.le_refl _) (.cells #[] 32)))
  have B9 := hide (show Below w.heap.size w (Y.alloc (.cells #[] 32)) from (hY ▸ set2 (v0 := .int .i64 kR) (v1 := .int .i64 lR.length) B1 (Nat.le_refl w.heap.size) : Below w.heap.size w Y).alloc (by omega) _)
  have O9 := hide (show Own (Y.alloc (.cells #[] 32)) w.heap.size w1.heap.size 0 0 [] from hYz ▸ own_lit0 Y (B := w.heap.size) (by omega))
  clear W1 B1 A0 W0 ho kb cR hYz
  go_wp2
  generalize hZ : Y.alloc (.cells #[] 32) = W9 at *
  clear c0 c1 f0 f1 hZ hY
  obtain ⟨c0, c1⟩ := blk2 (unhide P9)
  exact bodyPost_ret (v := .tuple #[.slice (some ⟨w1.heap.size, 0, none⟩) 0 0, fa kR lR.length]) (by simp [results, Tryd.results10, go_sem, c0, c1]) rfl ⟨_, _, rfl, by simp, unhide O9, unhide B9⟩


end Go.Proofs.YtcpllfjhhlbmiaaDoor
