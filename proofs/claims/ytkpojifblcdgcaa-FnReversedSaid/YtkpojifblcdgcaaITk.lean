/-
  Contracts of the program: what is made, joined and held against the limits; a frame of a track; the two closures that tell a frame; nothing that was there is written.
-/
import Derived.Test.YtkpojifblcdgcaaSEd
import Derived.Test.YtkpojifblcdgcaaYX
import Derived.Test.YtkpojifblcdgcaaSpP
import Derived.Test.YtkpojifblcdgcaaOpn
namespace Go.Proofs.Ytkpojifblcdgcaa.Y
open Go.RowKit
open Go.Proofs.Ytkpojifblcdgcaa
set_option linter.unusedVariables false
set_option linter.unusedSimpArgs false

/-- what is joined, if it is a track -/
def asTr (l : List Kl) : Option (List Kl) := if TOk (join l) then some (join l) else none

set_option maxHeartbeats 1600000 in
theorem itk_any (a : Option Addr) (cap : Nat) (l : List Kl) (w : World) (hl : l.length ≤ 100000) (hB : ∀ c ∈ l, Bd 10000000 c) (hk : Kls w a l) :
    Calls Try.prog 27 #[.slice a l.length cap] w fun e w' => EdR w w' (asTr l) e := by
  have hJ := hide (ijoinB_any a cap l w hl hB hk)
  have hjl := hide (len_join l)
  have hl' := hide hl
  clear hk hB hl
  obtain ⟨R, hR⟩ : ∃ R, asTr l = R := ⟨_, rfl⟩
  rw [hR]
  have hR' := hide hR
  clear hR
  go_enter Try.func27, Try.ntmps27
  go_wp2_with fail
  refine (unhide hJ).mono ?_
  rintro e w1 ⟨g, c, rfl, hg, ho, hb⟩
  have ho' := hide ho
  have hb' := hide hb
  clear ho hb hJ
  by_cases hT : TOk (join l)
  · have hr : R = some (join l) := by rw [← unhide hR']; exact if_pos hT
    subst hr
    have hd := hide (decide_eq_true hT)
    clear hT
    go_wp2_with fail
    refine (itrack_any (some ⟨g, 0, none⟩) c (join l) true _ (by have := unhide hjl; have := unhide hl'; unfold maxLen; omega) (kls_own (unhide ho')) (unhide hd)).mono ?_
    rintro e w2 ⟨rfl, k2⟩
    have k2' := hide k2
    clear k2
    go_wp2
    refine bodyPost_ret (v := .tuple #[.slice (some ⟨g, 0, none⟩) (join l).length c, .bool true]) (by simp [results, Try.results27, go_sem]) rfl ?_
    exact ⟨g, c, rfl, hg, ownsRow_below (unhide ho') (unhide k2'), laterB (unhide hb') (unhide k2')⟩
  · have hr : R = none := by rw [← unhide hR']; exact if_neg hT
    subst hr
    have hd := hide (decide_eq_false hT)
    clear hT
    go_wp2_with fail
    refine (itrack_any (some ⟨g, 0, none⟩) c (join l) false _ (by have := unhide hjl; have := unhide hl'; unfold maxLen; omega) (kls_own (unhide ho')) (unhide hd)).mono ?_
    rintro e w2 ⟨rfl, k2⟩
    have k2' := hide (laterB (unhide hb') k2)
    clear k2
    go_wp2
    exact bodyPost_ret (v := .tuple #[.slice (some ⟨w2.heap.size, 0, none⟩) 0 0, .bool false]) (by simp [results, Try.results27, go_sem]) rfl (edR_none rfl (unhide k2'))

/-- a clip that is the answer under way -/
def RsB (W : World) (B : Nat) : Prop :=
  W.cell? ⟨B, 0, none⟩ = some (.int .i64 0) ∧ W.cell? ⟨B, 1, none⟩ = some (.int .i64 0) ∧ W.cell? ⟨B, 2, none⟩ = some (.int .i64 0) ∧
  W.frozen? ⟨B, 0, none⟩ = false ∧ W.frozen? ⟨B, 1, none⟩ = false ∧ W.frozen? ⟨B, 2, none⟩ = false ∧ B < W.heap.size
theorem RsB.later {W W' : World} {B : Nat} (h : RsB W B) (hb : Below W.heap.size W W') : RsB W' B := by
  obtain ⟨h1, h2, h3, f1, f2, f3, hB⟩ := h
  obtain ⟨C, F⟩ := bcell hb
  exact ⟨(C _ _ hB).trans h1, (C _ _ hB).trans h2, (C _ _ hB).trans h3, (F _ _ hB).trans f1, (F _ _ hB).trans f2, (F _ _ hB).trans f3, Nat.lt_of_lt_of_le hB hb.size⟩
theorem rsb_start (w : World) : RsB (w.alloc (.cells #[.int .i64 0, .int .i64 0, .int .i64 0] 40)) w.heap.size := by
  refine ⟨?_, ?_, ?_, ?_, ?_, ?_, ?_⟩ <;> simp [go_sem]

set_option maxHeartbeats 1600000 in
theorem ifrm_any (a : Option Addr) (cap : Nat) (l : List Kl) (i : Int) (c : Kl) (w : World) (hT : TOk l) (h0 : 0 ≤ i) (h1 : i < clen l) (hk : Kls w a l) (hc : frK l i = c) :
    Calls Try.prog 22 #[.slice a l.length cap, .int .i64 i] w fun e w' => e = .returned (kv c) ∧ Below w.heap.size w w' := by
  have hb0 := hide ((Below.refl w.heap.size w).alloc (Nat.le_refl _) (.cells #[.int .i64 0, .int .i64 0, .int .i64 0] 40))
  have hs0 := hide (rsb_start w)
  have h9 := hT.2.2
  have hP := ipart_any a cap l i (i + 1) (w.alloc (.cells #[.int .i64 0, .int .i64 0, .int .i64 0] 40)) hT (by omega) (by omega) (hk.below (unhide hb0))
  rw [part_fr hT.2.1 h0 h1, hc] at hP
  have hP' := hide hP
  clear hP hk hT hc
  go_enter Try.func22, Try.ntmps22
  go_wp2_with fail
  refine (unhide hP').mono ?_
  rintro e w1 ⟨g, cp, rfl, hg, ho, hb⟩
  obtain ⟨c1, c2, c3⟩ := c
  obtain ⟨x0, x1, x2⟩ := Go.Proofs.Ytkpojifblcdgcaa.own_cells (l := [(c1, c2, c3)]) (k := 0) rfl ho
  rw [Nat.zero_mul] at x0 x1 x2
  rw [Nat.zero_add] at x1 x2
  have H1 := hide (laterB (unhide hb0) hb)
  obtain ⟨d0, d1, d2, f0, f1, f2, hB⟩ := (unhide hs0).later hb
  simp only at x0 x1 x2
  clear ho hb hP' hs0 hb0
  go_wp2
  exact bodyPost_ret (v := kv (c1, c2, c3)) (by simp [results, Try.results22, go_sem, d0, d1, d2]) rfl ⟨rfl, set3_below (unhide H1) (Nat.le_refl _)⟩

set_option maxHeartbeats 1600000 in
theorem bck_any (k : Nat) (P : Nat) (a : Option Addr) (cap : Nat) (l : List Kl) (c : Kl) (w : World) (hT : TOk l) (h1 : (k : Int) < clen l) (hk : Kls w a l) (hP : P < w.heap.size) (p0 : w.cell? ⟨P, 0, none⟩ = some (.slice a l.length cap)) (p1 : w.cell? ⟨P, 1, none⟩ = some (.int .i64 (clen l))) (hc : frK l (clen l - 1 - (k : Nat)) = c) :
    Calls Try.prog 28 #[.int .i64 k, .pointer (some ⟨P, 0, none⟩)] w fun e w' => e = .returned (kv c) ∧ Below w.heap.size w w' := by
  have hb0 := hide ((Below.refl w.heap.size w).alloc (Nat.le_refl _) (.cells #[.int .i64 0, .int .i64 0, .int .i64 0] 40))
  have hs0 := hide (rsb_start w)
  have h9 := hT.2.2
  have q0 := cell_later (unhide hb0) p0
  have q1 := cell_later (unhide hb0) p1
  have hF := hide (ifrm_any a cap l (clen l - 1 - (k : Nat)) c (w.alloc (.cells #[.int .i64 0, .int .i64 0, .int .i64 0] 40)) hT (by omega) (by omega) (hk.below (unhide hb0)) hc)
  clear hk hT hc p0 p1
  obtain ⟨n, hn⟩ : ∃ n, clen l = n := ⟨_, rfl⟩
  rw [hn] at q1 hF h9 h1
  clear hn
  obtain ⟨c1, c2, c3⟩ := c
  go_enter Try.func28, Try.ntmps28
  go_wp2_with fail
  refine (unhide hF).mono ?_
  rintro e w1 ⟨rfl, hb⟩
  have H1 := hide (laterB (unhide hb0) hb)
  obtain ⟨d0, d1, d2, f0, f1, f2, hB⟩ := (unhide hs0).later hb
  clear hb hF hs0 hb0
  go_wp2
  exact bodyPost_ret (v := kv (c1, c2, c3)) (by simp [results, Try.results28, go_sem, d0, d1, d2]) rfl ⟨rfl, set3_below (unhide H1) (Nat.le_refl _)⟩

theorem keep2b {w w0 w1 : World} {a1 a2 : Addr} {v1 v2 : Value}
    (h : w0.cell? a1 = some v1 ∧ w0.cell? a2 = some v2 ∧ Below w.heap.size w w0) (hb : Below w0.heap.size w0 w1) :
    w1.cell? a1 = some v1 ∧ w1.cell? a2 = some v2 ∧ Below w.heap.size w w1 := by
  obtain ⟨h1, h2, h7⟩ := h
  exact ⟨cell_later hb h1, cell_later hb h2, laterB h7 hb⟩
theorem keep2s {w W : World} {P Q B p1 p2 p3 : Nat} {v1 v2 x y z : Value}
    (h : W.cell? ⟨P, 0, none⟩ = some v1 ∧ W.cell? ⟨Q, 0, none⟩ = some v2 ∧ Below w.heap.size w W) (hP : P ≠ B) (hQ : Q ≠ B) (hB : w.heap.size ≤ B) :
    (((W.setCell ⟨B, p1, none⟩ x).setCell ⟨B, p2, none⟩ y).setCell ⟨B, p3, none⟩ z).cell? ⟨P, 0, none⟩ = some v1 ∧ (((W.setCell ⟨B, p1, none⟩ x).setCell ⟨B, p2, none⟩ y).setCell ⟨B, p3, none⟩ z).cell? ⟨Q, 0, none⟩ = some v2 ∧ Below w.heap.size w (((W.setCell ⟨B, p1, none⟩ x).setCell ⟨B, p2, none⟩ y).setCell ⟨B, p3, none⟩ z) := by
  obtain ⟨h1, h2, h7⟩ := h
  exact ⟨by rw [set3_other hP]; exact h1, by rw [set3_other hQ]; exact h2, set3_below h7 hB⟩

end Go.Proofs.Ytkpojifblcdgcaa.Y
