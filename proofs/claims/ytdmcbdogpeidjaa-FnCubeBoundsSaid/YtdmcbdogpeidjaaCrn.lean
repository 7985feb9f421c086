/-
  Contract of the program's corners around a colour; nothing that was there is written.
-/
import Derived.Test.YtdmcbdogpeidjaaTri
namespace Go.Proofs.Ytdmcbdogpeidjaa
open Go.RowKit
set_option linter.unusedVariables false
set_option linter.unusedSimpArgs false

/-- the six boxes: three answers, the near corner, the far one, the rests -/
def CbI (wr : World) (h : Nat) (a0 a1 a2 b0 b1 b2 c0 c1 c2 : Int) : Prop :=
  Bx wr (h + 1) 0 0 0 ∧ Bx wr (h + 1 + 1) 0 0 0 ∧ Bx wr (h + 1 + 1 + 1) 0 0 0 ∧ Bx wr (h + 1 + 1 + 1 + 1) a0 a1 a2 ∧ Bx wr (h + 1 + 1 + 1 + 1 + 1) b0 b1 b2 ∧ Bx wr (h + 1 + 1 + 1 + 1 + 1 + 1) c0 c1 c2
theorem cb_step0 {wr : World} {h : Nat} {a0 a1 a2 b0 b1 b2 c0 c1 c2 : Int} (H : CbI wr h a0 a1 a2 b0 b1 b2 c0 c1 c2) (u v s : Int) : CbI (((wr.setCell ⟨h + 1 + 1 + 1 + 1, 0, none⟩ (.int .i64 u)).setCell ⟨h + 1 + 1 + 1 + 1 + 1 + 1, 0, none⟩ (.int .i64 s)).setCell ⟨h + 1 + 1 + 1 + 1 + 1, 0, none⟩ (.int .i64 v)) h u a1 a2 v b1 b2 s c1 c2 := by
  obtain ⟨r1, r2, r3, n, f, s⟩ := H
  exact ⟨((r1.other (by omega)).other (by omega)).other (by omega), ((r2.other (by omega)).other (by omega)).other (by omega), ((r3.other (by omega)).other (by omega)).other (by omega), ((n.set0 _).other (by omega)).other (by omega), ((f.other (by omega)).other (by omega)).set0 _, ((s.other (by omega)).set0 _).other (by omega)⟩
theorem cb_step1 {wr : World} {h : Nat} {a0 a1 a2 b0 b1 b2 c0 c1 c2 : Int} (H : CbI wr h a0 a1 a2 b0 b1 b2 c0 c1 c2) (u v s : Int) : CbI (((wr.setCell ⟨h + 1 + 1 + 1 + 1, 1, none⟩ (.int .i64 u)).setCell ⟨h + 1 + 1 + 1 + 1 + 1 + 1, 1, none⟩ (.int .i64 s)).setCell ⟨h + 1 + 1 + 1 + 1 + 1, 1, none⟩ (.int .i64 v)) h a0 u a2 b0 v b2 c0 s c2 := by
  obtain ⟨r1, r2, r3, n, f, s⟩ := H
  exact ⟨((r1.other (by omega)).other (by omega)).other (by omega), ((r2.other (by omega)).other (by omega)).other (by omega), ((r3.other (by omega)).other (by omega)).other (by omega), ((n.set1 _).other (by omega)).other (by omega), ((f.other (by omega)).other (by omega)).set1 _, ((s.other (by omega)).set1 _).other (by omega)⟩
theorem cb_step2 {wr : World} {h : Nat} {a0 a1 a2 b0 b1 b2 c0 c1 c2 : Int} (H : CbI wr h a0 a1 a2 b0 b1 b2 c0 c1 c2) (u v s : Int) : CbI (((wr.setCell ⟨h + 1 + 1 + 1 + 1, 2, none⟩ (.int .i64 u)).setCell ⟨h + 1 + 1 + 1 + 1 + 1 + 1, 2, none⟩ (.int .i64 s)).setCell ⟨h + 1 + 1 + 1 + 1 + 1, 2, none⟩ (.int .i64 v)) h a0 a1 u b0 b1 v c0 c1 s := by
  obtain ⟨r1, r2, r3, n, f, s⟩ := H
  exact ⟨((r1.other (by omega)).other (by omega)).other (by omega), ((r2.other (by omega)).other (by omega)).other (by omega), ((r3.other (by omega)).other (by omega)).other (by omega), ((n.set2 _).other (by omega)).other (by omega), ((f.other (by omega)).other (by omega)).set2 _, ((s.other (by omega)).set2 _).other (by omega)⟩
set_option maxHeartbeats 3200000 in
theorem corners_any (n x y z i j k p q r : Int) (w : World) (hn : 2 ≤ n ∧ n ≤ 9) (hx : CoOk (x, y, z)) (hi : plI x (n - 1) = i) (hj : plI y (n - 1) = j) (hk : plI z (n - 1) = k) (hp : plR x (n - 1) = p) (hq : plR y (n - 1) = q) (hr : plR z (n - 1) = r) :
    Calls Try.prog 41 #[.int .i64 n, ag3 x y z] w fun e w' => e = .returned (.tuple #[ag3 i j k, ag3 (i + 1) (j + 1) (k + 1), ag3 p q r]) ∧ Below w.heap.size w w' := by
  have hx' := hide hx
  obtain ⟨n0, n1⟩ := hn
  have bi := pl_facts hx.1 (show 1 ≤ n - 1 by omega)
  have bj := pl_facts hx.2.1 (show 1 ≤ n - 1 by omega)
  have bk := pl_facts hx.2.2 (show 1 ≤ n - 1 by omega)
  simp only at bi bj bk
  rw [hi, hp] at bi
  rw [hj, hq] at bj
  rw [hk, hr] at bk
  obtain ⟨i0, i1, _, _⟩ := bi
  obtain ⟨j0, j1, _, _⟩ := bj
  obtain ⟨k0, k1, _, _⟩ := bk
  have hall : Hid (plI x (n - 1) = i ∧ plI y (n - 1) = j ∧ plI z (n - 1) = k ∧ plR x (n - 1) = p ∧ plR y (n - 1) = q ∧ plR z (n - 1) = r) := hide ⟨hi, hj, hk, hp, hq, hr⟩
  clear hi hj hk hp hq hr hx
  obtain ⟨ix0, ix1, ix2⟩ := ix3 x y z
  go_enter Try.func41, Try.ntmps41
  go_wp2_with fail
  refine (tri_any x y z _).mono ?_
  rintro e w1 ⟨rfl, hb⟩
  have B : Hid (CbI w1 w.heap.size 0 0 0 0 0 0 0 0 0) := hide ⟨Bx.below (w := _) ⟨by simp [go_sem], by simp [go_sem], by simp [go_sem], by simp [go_sem], by simp [go_sem], by simp [go_sem]⟩ hb, Bx.below (w := _) ⟨by simp [go_sem], by simp [go_sem], by simp [go_sem], by simp [go_sem], by simp [go_sem], by simp [go_sem]⟩ hb, Bx.below (w := _) ⟨by simp [go_sem], by simp [go_sem], by simp [go_sem], by simp [go_sem], by simp [go_sem], by simp [go_sem]⟩ hb, Bx.below (w := _) ⟨by simp [go_sem], by simp [go_sem], by simp [go_sem], by simp [go_sem], by simp [go_sem], by simp [go_sem]⟩ hb, Bx.below (w := _) ⟨by simp [go_sem], by simp [go_sem], by simp [go_sem], by simp [go_sem], by simp [go_sem], by simp [go_sem]⟩ hb, Bx.below (w := _) ⟨by simp [go_sem], by simp [go_sem], by simp [go_sem], by simp [go_sem], by simp [go_sem], by simp [go_sem]⟩ hb⟩
  have H1 : Hid (Below w.heap.size w w1) := hide (((((((((Below.refl _ _).alloc (Nat.le_refl _) _).alloc (by simp) _).alloc (by simp; omega) _).alloc (by simp; omega) _).alloc (by simp; omega) _).alloc (by simp; omega) _).alloc (by simp; omega) _).trans (hb.mono (by simp; omega)))
  clear hb
  generalize hh : w.heap.size = h at *
  have hh' := hide hh
  clear hh
  go_wp2
  go_loopw [17] (fun t wr => Hid (Below h w wr) ∧ ((t = .int .i64 0 ∧ Hid (CbI wr h 0 0 0 0 0 0 0 0 0)) ∨ (t = .int .i64 1 ∧ Hid (CbI wr h i 0 0 (i + 1) 0 0 p 0 0)) ∨ (t = .int .i64 2 ∧ Hid (CbI wr h i j 0 (i + 1) (j + 1) 0 p q 0)) ∨ (t = .int .i64 3 ∧ Hid (CbI wr h i j k (i + 1) (j + 1) (k + 1) p q r)))) (fun t _ => 3 - (intOf t).toNat)
  case atStart => exact ⟨H1, Or.inl ⟨rfl, B⟩⟩
  case round =>
    clear B H1
    obtain ⟨hH, ⟨rfl, hB⟩ | ⟨rfl, hB⟩ | ⟨rfl, hB⟩ | ⟨rfl, hB⟩⟩ := hrel
    · obtain ⟨_, _, _, ⟨n0', n1', n2', e0, e1, e2⟩, ⟨f0, f1, f2, e3, e4, e5⟩, ⟨s0, s1, s2, e6, e7, e8⟩⟩ := unhide hB
      have hnew := hide (cb_step0 (unhide hB) i (i + 1) p)
      go_wp2_with fail
      refine (ipart_any x (n - 1) i p _ (unhide hx').1 (by omega) (by omega) (unhide hall).1 (unhide hall).2.2.2.1).mono ?_
      rintro e w2 ⟨rfl, hw0⟩
      have hw1 := hw0.symm
      subst hw1
      go_wp2
      go_roundw
      case rel => exact ⟨hide ((((unhide hH).setCell (by simp; omega) _).setCell (by simp; omega) _).setCell (by simp; omega) _), Or.inr (Or.inl ⟨rfl, hnew⟩)⟩
      case measure => simp [intOf]
    · obtain ⟨_, _, _, ⟨n0', n1', n2', e0, e1, e2⟩, ⟨f0, f1, f2, e3, e4, e5⟩, ⟨s0, s1, s2, e6, e7, e8⟩⟩ := unhide hB
      have hnew := hide (cb_step1 (unhide hB) j (j + 1) q)
      go_wp2_with fail
      refine (ipart_any y (n - 1) j q _ (unhide hx').2.1 (by omega) (by omega) (unhide hall).2.1 (unhide hall).2.2.2.2.1).mono ?_
      rintro e w2 ⟨rfl, hw0⟩
      have hw1 := hw0.symm
      subst hw1
      go_wp2
      go_roundw
      case rel => exact ⟨hide ((((unhide hH).setCell (by simp; omega) _).setCell (by simp; omega) _).setCell (by simp; omega) _), Or.inr (Or.inr (Or.inl ⟨rfl, hnew⟩))⟩
      case measure => simp [intOf]
    · obtain ⟨_, _, _, ⟨n0', n1', n2', e0, e1, e2⟩, ⟨f0, f1, f2, e3, e4, e5⟩, ⟨s0, s1, s2, e6, e7, e8⟩⟩ := unhide hB
      have hnew := hide (cb_step2 (unhide hB) k (k + 1) r)
      go_wp2_with fail
      refine (ipart_any z (n - 1) k r _ (unhide hx').2.2 (by omega) (by omega) (unhide hall).2.2.1 (unhide hall).2.2.2.2.2).mono ?_
      rintro e w2 ⟨rfl, hw0⟩
      have hw1 := hw0.symm
      subst hw1
      go_wp2
      go_roundw
      case rel => exact ⟨hide ((((unhide hH).setCell (by simp; omega) _).setCell (by simp; omega) _).setCell (by simp; omega) _), Or.inr (Or.inr (Or.inr ⟨rfl, hnew⟩))⟩
      case measure => simp [intOf]
    · obtain ⟨⟨a0, a1, a2, g0, g1, g2⟩, ⟨b0, b1, b2, g3, g4, g5⟩, ⟨c0, c1, c2, g6, g7, g8⟩, ⟨n0', n1', n2', e0, e1, e2⟩, ⟨f0, f1, f2, e3, e4, e5⟩, ⟨s0, s1, s2, e6, e7, e8⟩⟩ := unhide hB
      go_wp2_with fail
      go_region_held3 (fun w' => w'.cell? ⟨h + 1 + 1 + 1 + 1, 0, none⟩ = some (.int .i64 i) ∧ w'.cell? ⟨h + 1 + 1 + 1 + 1, 1, none⟩ = some (.int .i64 j) ∧ w'.cell? ⟨h + 1 + 1 + 1 + 1, 2, none⟩ = some (.int .i64 k) ∧ w'.cell? ⟨h + 1 + 1 + 1 + 1 + 1, 0, none⟩ = some (.int .i64 (i + 1)) ∧ w'.cell? ⟨h + 1 + 1 + 1 + 1 + 1, 1, none⟩ = some (.int .i64 (j + 1)) ∧ w'.cell? ⟨h + 1 + 1 + 1 + 1 + 1, 2, none⟩ = some (.int .i64 (k + 1)) ∧ w'.cell? ⟨h + 1 + 1 + 1 + 1 + 1 + 1, 0, none⟩ = some (.int .i64 p) ∧ w'.cell? ⟨h + 1 + 1 + 1 + 1 + 1 + 1, 1, none⟩ = some (.int .i64 q) ∧ w'.cell? ⟨h + 1 + 1 + 1 + 1 + 1 + 1, 2, none⟩ = some (.int .i64 r)) (go_keep) (fail)
      all_goals go_wp2
      all_goals
        refine bodyPost_ret (v := .tuple #[ag3 i j k, ag3 (i + 1) (j + 1) (k + 1), ag3 p q r]) (by simp [results, Try.results41, go_sem, a0, a1, a2, b0, b1, b2, c0, c1, c2]) rfl ⟨rfl, ?_⟩
        rw [unhide hh']
        exact (((((((((unhide hH).setCell (by simp <;> omega) _).setCell (by simp <;> omega) _).setCell (by simp <;> omega) _).setCell (by simp <;> omega) _).setCell (by simp <;> omega) _).setCell (by simp <;> omega) _).setCell (by simp <;> omega) _).setCell (by simp <;> omega) _).setCell (by simp <;> omega) _ |>.drew
end Go.Proofs.Ytdmcbdogpeidjaa
