/-
  The program's ReadList: its contract.
-/
import Derived.Test.YthjggjnkhhoigaaGreatDoorIRl
namespace Go.Proofs.YthjggjnkhhoigaaGreatDoor
open Go.RowKit
set_option linter.unusedVariables false
set_option linter.unusedSimpArgs false

theorem errT_below {w w' : World} (h : ErrT w) (hb : Below w.heap.size w w') : ErrT w' := cell_later hb h
theorem mem2 (w : World) (a b : Obj) : ((w.alloc a).alloc b).heap[w.heap.size]? = some a ∧ ((w.alloc a).alloc b).heap[w.heap.size + 1]? = some b := by
  refine ⟨?_, ?_⟩
  · rw [Below.heap_alloc _ _ _ (by simp)]; exact alloc_new _ _
  · have := alloc_new (w.alloc a) b
    simpa using this
theorem fr2 {X : World} {b : Nat} {t : TypeId} {v0 v1 : Value} (h : X.heap[b]? = some (.cells #[v0, v1] t (0, 0))) : X.frozen? ⟨b, 0, none⟩ = false ∧ X.frozen? ⟨b, 1, none⟩ = false := by constructor <;> simp [World.frozen?, h]
theorem own_st2 {w : World} {B b g n cap : Nat} {l : List Kl} {u v : Value} (h : Own w B g n cap l) (hne : b ≠ g) : Own ((w.setCell ⟨b, 0, none⟩ u).setCell ⟨b, 1, none⟩ v) B g n cap l := own_set (own_set h hne) hne
theorem bel_st2 {W w1 : World} {b : Nat} {u v : Value} (h : Below W.heap.size W w1) (hb : W.heap.size ≤ b) : Below W.heap.size W ((w1.setCell ⟨b, 0, none⟩ u).setCell ⟨b, 1, none⟩ v) := (h.setCell (p := ⟨b, 0, none⟩) hb u).setCell (p := ⟨b, 1, none⟩) hb v
theorem own_bel {w w1 : World} {B B' g n c : Nat} {l : List Kl} (h : Own w B g n c l) (hB : B' ≤ B) : Own w B' g n c l := own_mono h hB

set_option maxRecDepth 100000 in
set_option maxHeartbeats 2000000 in
theorem irdl_any (n d : Int) (dr : Bool) (s : ByteArray) (w : World) (hsm : s.size ≤ maxLen) (hM : MaxL w) (ht : Tab w) (hE : Sent w) (hT : ErrT w) :
    Calls Tryz.prog 6 #[.agg #[.int .i64 n, .int .i64 d, .bool dr], .string s] w (RlP w (rdO n d dr s.data.toList)) := by
  obtain ⟨R, hR⟩ : ∃ R, rdO n d dr s.data.toList = R := ⟨_, rfl⟩
  rw [hR]
  have hb0 : Below w.heap.size w ((w.alloc (.cells #[.int .i64 n, .int .i64 d, .bool dr] 29)).alloc (.cells #[.int .i64 0, .int .i64 0] 26)) := ((Below.refl _ _).alloc (Nat.le_refl _) _).alloc (by simp) _
  have B1 := hide (mem2 w (.cells #[.int .i64 n, .int .i64 d, .bool dr] 29) (.cells #[.int .i64 0, .int .i64 0] 26)).2
  have cl := hide (irl_any n d dr s _ hsm (hM.below hb0) (ht.below hb0) (hE.below hb0))
  rw [hR] at cl
  have hT' := hide hT
  have H0 := hide hb0
  clear hR hM ht hE hT hb0
  go_enter Tryz.func6, Tryz.ntmps6
  go_wp2_with fail
  refine (unhide cl).mono ?_
  clear cl
  rintro e w1 (⟨z1, z2, g, c, rfl, hO, hb1⟩ | ⟨z1, z2, er, rfl, z3, hb1⟩)
  · have P1 := (hb1.block _ (by simp)).trans (unhide B1)
    obtain ⟨o0, o1⟩ := blk2 P1
    obtain ⟨p0, p1⟩ := fr2 P1
    have H1 := hide (laterB (unhide H0) hb1)
    have hg : w.heap.size + 2 ≤ g := by have := own_ge hO; simpa using this
    have hO' := hide hO
    obtain ⟨T, c1, c2⟩ := R
    simp only at z1 z2
    subst z1
    subst z2
    clear hb1 B1 H0 P1 hO
    go_wp2
    refine bodyPost_ret (v := .tuple #[.slice (some ⟨g, 0, none⟩) T.length c, .agg #[.int .i64 0, .int .i64 0]]) (by simp [results, Tryz.results6, go_sem, o0, o1]) rfl ⟨g, c, rfl, by omega, own_st2 (b := w.heap.size + 1) (own_mono (unhide hO') (by simp; omega)) (by omega), bel_st2 (unhide H1) (by omega)⟩
  · have P1 := (hb1.block _ (by simp)).trans (unhide B1)
    have hlt1 := (Array.getElem?_eq_some_iff.1 P1).1
    have H1 := hide (laterB (unhide H0) hb1)
    have P1' := hide P1
    obtain ⟨T, c1, c2⟩ := R
    simp only at z1 z2 z3
    subst z2
    have hal : Below w1.heap.size w1 (w1.alloc (.cells #[] 37)) := (Below.refl _ _).alloc (Nat.le_refl _) _
    have hfl : Hid (Calls Tryz.prog 14 #[er] (w1.alloc (.cells #[] 37)) fun e w' => e = .returned (.agg #[.int .i64 c1, .int .i64 c2]) ∧ Below (w1.alloc (.cells #[] 37)).heap.size (w1.alloc (.cells #[] 37)) w') := hide (by
      rcases z3 with ⟨rfl, rfl⟩ | rfl
      · exact fault_code c1 _ (errT_below (unhide hT') (laterB (unhide H1) hal))
      · exact fault_line c2 c1 _ (errT_below (unhide hT') (laterB (unhide H1) hal)))
    obtain ⟨o0, o1⟩ := blk2 P1
    obtain ⟨p0, p1⟩ := fr2 P1
    clear hb1 B1 H0 P1 hal
    rcases z3 with ⟨z4, z5⟩ | z5
    · subst z5
      subst z4
      go_wp2_with fail
      refine (unhide hfl).mono ?_
      rintro e w2 ⟨rfl, hb2⟩
      have hal : Below w1.heap.size w1 (w1.alloc (.cells #[] 37)) := (Below.refl _ _).alloc (Nat.le_refl _) _
      have P2 := (hb2.block _ (by simp; omega)).trans ((hal.block _ hlt1).trans (unhide P1'))
      have hOw : Own w2 w.heap.size w1.heap.size 0 0 [] := ownsRow_below (own_lit0 w1 (unhide H1).size) hb2
      have H2 := hide (laterB (laterB (unhide H1) hal) hb2)
      have hOw' := hide hOw
      obtain ⟨q0, q1⟩ := blk2 P2
      obtain ⟨r0, r1⟩ := fr2 P2
      clear hal P2 hOw hb2 P1' o0 o1 p0 p1 hfl
      go_wp2
      refine bodyPost_ret (v := .tuple #[.slice (some ⟨w1.heap.size, 0, none⟩) 0 0, .agg #[.int .i64 c1, .int .i64 0]]) (by simp [results, Tryz.results6, go_sem, q0, q1]) rfl ⟨w1.heap.size, 0, rfl, (unhide H1).size, own_st2 (b := w.heap.size + 1) (unhide hOw') (by omega), bel_st2 (unhide H2) (by omega)⟩
    · subst z5
      go_wp2_with fail
      refine (unhide hfl).mono ?_
      rintro e w2 ⟨rfl, hb2⟩
      have hal : Below w1.heap.size w1 (w1.alloc (.cells #[] 37)) := (Below.refl _ _).alloc (Nat.le_refl _) _
      have P2 := (hb2.block _ (by simp; omega)).trans ((hal.block _ hlt1).trans (unhide P1'))
      have hOw : Own w2 w.heap.size w1.heap.size 0 0 [] := ownsRow_below (own_lit0 w1 (unhide H1).size) hb2
      have H2 := hide (laterB (laterB (unhide H1) hal) hb2)
      have hOw' := hide hOw
      obtain ⟨q0, q1⟩ := blk2 P2
      obtain ⟨r0, r1⟩ := fr2 P2
      clear hal P2 hOw hb2 P1' o0 o1 p0 p1 hfl
      go_wp2
      refine bodyPost_ret (v := .tuple #[.slice (some ⟨w1.heap.size, 0, none⟩) 0 0, .agg #[.int .i64 c1, .int .i64 c2]]) (by simp [results, Tryz.results6, go_sem, q0, q1]) rfl ⟨w1.heap.size, 0, rfl, (unhide H1).size, own_st2 (b := w.heap.size + 1) (unhide hOw') (by omega), bel_st2 (unhide H2) (by omega)⟩
end Go.Proofs.YthjggjnkhhoigaaGreatDoor
