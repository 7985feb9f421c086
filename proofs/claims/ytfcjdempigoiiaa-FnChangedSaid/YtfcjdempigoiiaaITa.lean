/-
  Contracts of the program: what is made, joined and held against the limits; a frame of a track; nothing that was there is written.
-/
import Derived.Test.YtfcjdempigoiiaaSEd
import Derived.Test.YtfcjdempigoiiaaOpn
import Derived.Test.YtfcjdempigoiiaaJn2
import Derived.Test.YtfcjdempigoiiaaPt2
namespace Go.Proofs.Ytfcjdempigoiiaa
open Go.RowKit
set_option linter.unusedVariables false
set_option linter.unusedSimpArgs false

set_option maxHeartbeats 1600000 in
theorem itk_any (a : Option Addr) (cap : Nat) (l : List Kl) (w : World) (hl : l.length ≤ 100000) (hA : AOk l) (hk : Kls w a l) :
    Calls Try.prog 40 #[.slice a l.length cap] w fun e w' => EdR w w' (if TOk (join l) then some (join l) else none) e := by
  have hJ := hide (ijoin_any a cap l w hl hA hk)
  have hjl := hide (len_join l)
  have hl' := hide hl
  clear hk hA hl
  obtain ⟨R, hR⟩ : ∃ R, (if TOk (join l) then some (join l) else none) = R := ⟨_, rfl⟩
  rw [hR]
  have hR' := hide hR
  clear hR
  go_enter Try.func40, Try.ntmps40
  go_wp2_with fail
  refine (unhide hJ).mono ?_
  rintro e w1 ⟨g, c, rfl, hg, ho, hb⟩
  have ho' := hide ho
  have hb' := hide hb
  clear ho hb hJ
  by_cases hT : TOk (join l)
  · have hr : R = some (join l) := by rw [← unhide hR']; exact if_pos hT
    subst hr
    have hd := hide (decide_eq_true hT)
    clear hT
    go_wp2_with fail
    refine (itrack_any (some ⟨g, 0, none⟩) c (join l) true _ (by have := unhide hjl; have := unhide hl'; unfold maxLen; omega) (kls_own (unhide ho')) (unhide hd)).mono ?_
    rintro e w2 ⟨rfl, k2⟩
    have k2' := hide k2
    clear k2
    go_wp2
    refine bodyPost_ret (v := .tuple #[.slice (some ⟨g, 0, none⟩) (join l).length c, .bool true]) (by simp [results, Try.results40, go_sem]) rfl ?_
    exact ⟨g, c, rfl, hg, ownsRow_below (unhide ho') (unhide k2'), laterB (unhide hb') (unhide k2')⟩
  · have hr : R = none := by rw [← unhide hR']; exact if_neg hT
    subst hr
    have hd := hide (decide_eq_false hT)
    clear hT
    go_wp2_with fail
    refine (itrack_any (some ⟨g, 0, none⟩) c (join l) false _ (by have := unhide hjl; have := unhide hl'; unfold maxLen; omega) (kls_own (unhide ho')) (unhide hd)).mono ?_
    rintro e w2 ⟨rfl, k2⟩
    have k2' := hide (laterB (unhide hb') k2)
    clear k2
    go_wp2
    exact bodyPost_ret (v := .tuple #[.slice (some ⟨w2.heap.size, 0, none⟩) 0 0, .bool false]) (by simp [results, Try.results40, go_sem]) rfl (edR_none rfl (unhide k2'))

/-- a clip that is the answer under way -/
def RsB (W : World) (B : Nat) : Prop :=
  W.cell? ⟨B, 0, none⟩ = some (.int .i64 0) ∧ W.cell? ⟨B, 1, none⟩ = some (.int .i64 0) ∧ W.cell? ⟨B, 2, none⟩ = some (.int .i64 0) ∧
  W.frozen? ⟨B, 0, none⟩ = false ∧ W.frozen? ⟨B, 1, none⟩ = false ∧ W.frozen? ⟨B, 2, none⟩ = false ∧ B < W.heap.size
theorem RsB.later {W W' : World} {B : Nat} (h : RsB W B) (hb : Below W.heap.size W W') : RsB W' B := by
  obtain ⟨h1, h2, h3, f1, f2, f3, hB⟩ := h
  obtain ⟨C, F⟩ := bcell hb
  exact ⟨(C _ _ hB).trans h1, (C _ _ hB).trans h2, (C _ _ hB).trans h3, (F _ _ hB).trans f1, (F _ _ hB).trans f2, (F _ _ hB).trans f3, Nat.lt_of_lt_of_le hB hb.size⟩
theorem rsb_start (w : World) : RsB (w.alloc (.cells #[.int .i64 0, .int .i64 0, .int .i64 0] 63)) w.heap.size := by
  refine ⟨?_, ?_, ?_, ?_, ?_, ?_, ?_⟩ <;> simp [go_sem]
theorem set3_belowR {w W : World} {B : Nat} {a b c : Value} {o1 o2 o3 : Nat} (h : Below w.heap.size w W) (hB : w.heap.size ≤ B) : Below w.heap.size w (((W.setCell ⟨B, o1, none⟩ a).setCell ⟨B, o2, none⟩ b).setCell ⟨B, o3, none⟩ c) :=
  ((h.setCell (p := ⟨B, o1, none⟩) hB _).setCell (p := ⟨B, o2, none⟩) hB _).setCell (p := ⟨B, o3, none⟩) hB _

set_option maxHeartbeats 1600000 in
theorem ifrm_any (a : Option Addr) (cap : Nat) (l : List Kl) (i : Int) (c : Kl) (w : World) (hT : TOk l) (h0 : 0 ≤ i) (h1 : i < clen l) (hk : Kls w a l) (hc : part l i (i + 1) = [c]) :
    Calls Try.prog 42 #[.slice a l.length cap, .int .i64 i] w fun e w' => e = .returned (kv c) ∧ Below w.heap.size w w' := by
  have hb0 := hide ((Below.refl w.heap.size w).alloc (Nat.le_refl _) (.cells #[.int .i64 0, .int .i64 0, .int .i64 0] 63))
  have hs0 := hide (rsb_start w)
  have h9 := hT.2.2
  have hP := ipart_any a cap l i (i + 1) (w.alloc (.cells #[.int .i64 0, .int .i64 0, .int .i64 0] 63)) hT (by omega) (by omega) (hk.below (unhide hb0))
  rw [hc] at hP
  have hP' := hide hP
  clear hP hk hT hc
  go_enter Try.func42, Try.ntmps42
  go_wp2_with fail
  refine (unhide hP').mono ?_
  rintro e w1 ⟨g, cp, rfl, hg, ho, hb⟩
  obtain ⟨c1, c2, c3⟩ := c
  obtain ⟨x0, x1, x2⟩ := own_cells (l := [(c1, c2, c3)]) (k := 0) rfl ho
  rw [Nat.zero_mul] at x0 x1 x2
  rw [Nat.zero_add] at x1 x2
  have H1 := hide (laterB (unhide hb0) hb)
  obtain ⟨d0, d1, d2, f0, f1, f2, hB⟩ := (unhide hs0).later hb
  simp only at x0 x1 x2
  clear ho hb hP' hs0 hb0
  go_wp2
  exact bodyPost_ret (v := kv (c1, c2, c3)) (by simp [results, Try.results42, go_sem, d0, d1, d2]) rfl ⟨rfl, set3_belowR (unhide H1) (Nat.le_refl _)⟩
end Go.Proofs.Ytfcjdempigoiiaa
