/-
  Contracts of FrameAt and Joined, the model's and the program's; nothing that was there is written.
  Contracts of the program: what is made, joined and held against the limits; a frame of a track; nothing that was there is written.
  Contract of the program's FrameAt; nothing that was there is written.
-/
import Derived.Test.YtfcjdempigoiiaaJn2
import Derived.Test.YtfcjdempigoiiaaPt2
import Derived.Test.YtfcjdempigoiiaaSEd
import Derived.Test.YtfcjdempigoiiaaILn
namespace Go.Proofs.Ytfcjdempigoiiaa
open Go.RowKit
set_option linter.unusedVariables false
set_option linter.unusedSimpArgs false

/-- a list as Joined answers it -/
def joinOf (l : List Kl) : List Kl := if TOk l then join l else []
theorem joinOf_len (l : List Kl) : (joinOf l).length ≤ 300 := by
  unfold joinOf
  split
  · rename_i h; exact Nat.le_trans (len_join l) h.1
  · simp
def JnR (w w' : World) (L : List Kl) (e : Ending) : Prop := ∃ g c, e = .returned (.slice (some ⟨g, 0, none⟩) L.length c) ∧ w.heap.size ≤ g ∧ Own w' w.heap.size g L.length c L ∧ Below w.heap.size w w'
theorem jnR_none {w wx : World} {L : List Kl} (hr : L = []) (hb : Below w.heap.size w wx) : JnR w (wx.alloc (.cells #[] 63)) L (.returned (.slice (some ⟨wx.heap.size, 0, none⟩) 0 0)) := by
  subst hr
  exact ⟨wx.heap.size, 0, rfl, hb.size, own_lit0 wx hb.size, hb.alloc hb.size _⟩

set_option maxHeartbeats 800000 in
theorem ijoined_any (a : Option Addr) (cap : Nat) (l : List Kl) (w : World) (hl : l.length ≤ maxLen) (hk : Kls w a l) :
    Calls Try.prog 12 #[.slice a l.length cap] w fun e w' => JnR w w' (joinOf l) e := by
  have hk' := hide hk
  clear hk
  obtain ⟨L, hL⟩ : ∃ L, L = joinOf l := ⟨_, rfl⟩
  rw [← hL]
  by_cases h : TOk l
  · have h' := hide h
    have hJ := hide (show L = join l by rw [hL]; exact if_pos h)
    clear h hL
    go_enter Try.func12, Try.ntmps12
    go_wp2_with fail
    refine (opened_ok a cap l _ (unhide h') (unhide hk')).mono ?_
    rintro e w1 ⟨rfl, hb⟩
    have hA := hide (hb.alloc hb.size (.cells #[.slice a l.length cap, .int .i64 (clen l)] 49))
    have K1 := hide (((unhide hk').below hb).below ((Below.refl _ _).alloc (Nat.le_refl _) (.cells #[.slice a l.length cap, .int .i64 (clen l)] 49)))
    clear hb
    go_wp2_with fail
    refine (ijoin_any a cap l _ (by have := (unhide h').1; omega) (unhide h').2.1 (unhide K1)).mono ?_
    rintro e w2 ⟨g, c, rfl, q, n, k⟩
    rw [← unhide hJ] at n ⊢
    have hz := (unhide hA).size
    have hF := hide (show JnR w w2 L (.returned (.slice (some ⟨g, 0, none⟩) L.length c)) from ⟨g, c, rfl, Nat.le_trans hz q, own_mono n hz, (unhide hA).trans (k.mono hz)⟩)
    clear n k q hz hA K1
    go_wp2
    go_ret
    exact unhide hF
  · have h' := hide h
    have hJ := hide (show L = [] by rw [hL]; exact if_neg h)
    clear h hL
    go_enter Try.func12, Try.ntmps12
    go_wp2_with fail
    refine (opened_no a cap l _ hl (unhide h') (unhide hk')).mono ?_
    rintro e w1 ⟨rfl, hb⟩
    have hA := hide (hb.alloc hb.size (.cells #[.slice none 0 0, .int .i64 0] 49))
    clear hb
    go_wp2
    go_ret
    have := jnR_none (unhide hJ) (unhide hA)
    simpa using this

theorem seen_step {l : List Kl} {k : Nat} {c : Kl} (hx : l[k]? = some c) (i : Int) : seen (l.drop k) i = if i < c.2.2 then (if c.1 = 0 then (0, 0) else (c.1, c.2.1 + i)) else seen (l.drop (k + 1)) (i - c.2.2) := by
  have hk : k < l.length := (List.getElem?_eq_some_iff.1 hx).1
  have e : l.drop k = c :: l.drop (k + 1) := by
    rw [List.drop_eq_getElem_cons hk]
    have : l[k] = c := (List.getElem?_eq_some_iff.1 hx).2
    rw [this]
  rw [e]; rfl

end Go.Proofs.Ytfcjdempigoiiaa

namespace Go.Proofs.Ytfcjdempigoiiaa
open Go.RowKit
set_option linter.unusedVariables false
set_option linter.unusedSimpArgs false

set_option maxHeartbeats 1600000 in
theorem itk_any (a : Option Addr) (cap : Nat) (l : List Kl) (w : World) (hl : l.length ≤ 100000) (hA : AOk l) (hk : Kls w a l) :
    Calls Try.prog 40 #[.slice a l.length cap] w fun e w' => EdR w w' (if TOk (join l) then some (join l) else none) e := by
  have hJ := hide (ijoin_any a cap l w hl hA hk)
  have hjl := hide (len_join l)
  have hl' := hide hl
  clear hk hA hl
  obtain ⟨R, hR⟩ : ∃ R, (if TOk (join l) then some (join l) else none) = R := ⟨_, rfl⟩
  rw [hR]
  have hR' := hide hR
  clear hR
  go_enter Try.func40, Try.ntmps40
  go_wp2_with fail
  refine (unhide hJ).mono ?_
  rintro e w1 ⟨g, c, rfl, hg, ho, hb⟩
  have ho' := hide ho
  have hb' := hide hb
  clear ho hb hJ
  by_cases hT : TOk (join l)
  · have hr : R = some (join l) := by rw [← unhide hR']; exact if_pos hT
    subst hr
    have hd := hide (decide_eq_true hT)
    clear hT
    go_wp2_with fail
    refine (itrack_any (some ⟨g, 0, none⟩) c (join l) true _ (by have := unhide hjl; have := unhide hl'; unfold maxLen; omega) (kls_own (unhide ho')) (unhide hd)).mono ?_
    rintro e w2 ⟨rfl, k2⟩
    have k2' := hide k2
    clear k2
    go_wp2
    refine bodyPost_ret (v := .tuple #[.slice (some ⟨g, 0, none⟩) (join l).length c, .bool true]) (by simp [results, Try.results40, go_sem]) rfl ?_
    exact ⟨g, c, rfl, hg, ownsRow_below (unhide ho') (unhide k2'), laterB (unhide hb') (unhide k2')⟩
  · have hr : R = none := by rw [← unhide hR']; exact if_neg hT
    subst hr
    have hd := hide (decide_eq_false hT)
    clear hT
    go_wp2_with fail
    refine (itrack_any (some ⟨g, 0, none⟩) c (join l) false _ (by have := unhide hjl; have := unhide hl'; unfold maxLen; omega) (kls_own (unhide ho')) (unhide hd)).mono ?_
    rintro e w2 ⟨rfl, k2⟩
    have k2' := hide (laterB (unhide hb') k2)
    clear k2
    go_wp2
    exact bodyPost_ret (v := .tuple #[.slice (some ⟨w2.heap.size, 0, none⟩) 0 0, .bool false]) (by simp [results, Try.results40, go_sem]) rfl (edR_none rfl (unhide k2'))

/-- a clip that is the answer under way -/
def RsB (W : World) (B : Nat) : Prop :=
  W.cell? ⟨B, 0, none⟩ = some (.int .i64 0) ∧ W.cell? ⟨B, 1, none⟩ = some (.int .i64 0) ∧ W.cell? ⟨B, 2, none⟩ = some (.int .i64 0) ∧
  W.frozen? ⟨B, 0, none⟩ = false ∧ W.frozen? ⟨B, 1, none⟩ = false ∧ W.frozen? ⟨B, 2, none⟩ = false ∧ B < W.heap.size
theorem RsB.later {W W' : World} {B : Nat} (h : RsB W B) (hb : Below W.heap.size W W') : RsB W' B := by
  obtain ⟨h1, h2, h3, f1, f2, f3, hB⟩ := h
  obtain ⟨C, F⟩ := bcell hb
  exact ⟨(C _ _ hB).trans h1, (C _ _ hB).trans h2, (C _ _ hB).trans h3, (F _ _ hB).trans f1, (F _ _ hB).trans f2, (F _ _ hB).trans f3, Nat.lt_of_lt_of_le hB hb.size⟩
theorem rsb_start (w : World) : RsB (w.alloc (.cells #[.int .i64 0, .int .i64 0, .int .i64 0] 63)) w.heap.size := by
  refine ⟨?_, ?_, ?_, ?_, ?_, ?_, ?_⟩ <;> simp [go_sem]
theorem set3_belowR {w W : World} {B : Nat} {a b c : Value} {o1 o2 o3 : Nat} (h : Below w.heap.size w W) (hB : w.heap.size ≤ B) : Below w.heap.size w (((W.setCell ⟨B, o1, none⟩ a).setCell ⟨B, o2, none⟩ b).setCell ⟨B, o3, none⟩ c) :=
  ((h.setCell (p := ⟨B, o1, none⟩) hB _).setCell (p := ⟨B, o2, none⟩) hB _).setCell (p := ⟨B, o3, none⟩) hB _

set_option maxHeartbeats 1600000 in
theorem ifrm_any (a : Option Addr) (cap : Nat) (l : List Kl) (i : Int) (c : Kl) (w : World) (hT : TOk l) (h0 : 0 ≤ i) (h1 : i < clen l) (hk : Kls w a l) (hc : part l i (i + 1) = [c]) :
    Calls Try.prog 42 #[.slice a l.length cap, .int .i64 i] w fun e w' => e = .returned (kv c) ∧ Below w.heap.size w w' := by
  have hb0 := hide ((Below.refl w.heap.size w).alloc (Nat.le_refl _) (.cells #[.int .i64 0, .int .i64 0, .int .i64 0] 63))
  have hs0 := hide (rsb_start w)
  have h9 := hT.2.2
  have hP := ipart_any a cap l i (i + 1) (w.alloc (.cells #[.int .i64 0, .int .i64 0, .int .i64 0] 63)) hT (by omega) (by omega) (hk.below (unhide hb0))
  rw [hc] at hP
  have hP' := hide hP
  clear hP hk hT hc
  go_enter Try.func42, Try.ntmps42
  go_wp2_with fail
  refine (unhide hP').mono ?_
  rintro e w1 ⟨g, cp, rfl, hg, ho, hb⟩
  obtain ⟨c1, c2, c3⟩ := c
  obtain ⟨x0, x1, x2⟩ := own_cells (l := [(c1, c2, c3)]) (k := 0) rfl ho
  rw [Nat.zero_mul] at x0 x1 x2
  rw [Nat.zero_add] at x1 x2
  have H1 := hide (laterB (unhide hb0) hb)
  obtain ⟨d0, d1, d2, f0, f1, f2, hB⟩ := (unhide hs0).later hb
  simp only at x0 x1 x2
  clear ho hb hP' hs0 hb0
  go_wp2
  exact bodyPost_ret (v := kv (c1, c2, c3)) (by simp [results, Try.results42, go_sem, d0, d1, d2]) rfl ⟨rfl, set3_belowR (unhide H1) (Nat.le_refl _)⟩
end Go.Proofs.Ytfcjdempigoiiaa

namespace Go.Proofs.Ytfcjdempigoiiaa
open Go.RowKit
set_option linter.unusedVariables false
set_option linter.unusedSimpArgs false

set_option maxHeartbeats 1600000 in
theorem iframe_any (a : Option Addr) (cap : Nat) (l : List Kl) (t : Int) (w : World) (hl : l.length ≤ maxLen) (hk : Kls w a l) :
    Calls Try.prog 16 #[.slice a l.length cap, .int .i64 t] w fun e w' => e = .returned (.tuple #[.int .i64 (frameAt l t).1, .int .i64 (frameAt l t).2]) ∧ Below w.heap.size w w' := by
  have hk' := hide hk
  clear hk
  obtain ⟨p, hp⟩ : ∃ p, p = (frameAt l t).1 := ⟨_, rfl⟩
  obtain ⟨q, hq⟩ : ∃ q, q = (frameAt l t).2 := ⟨_, rfl⟩
  rw [← hp, ← hq]
  by_cases h : TOk l
  · have h' := hide h
    have L0 := clen_nonneg h.2.1
    have L1 := h.2.2
    by_cases h0 : t < 0
    · have hf : frameAt l t = (-1, -1) := frameAt_neg (by omega)
      rw [hf] at hp hq
      simp only at hp hq
      subst hp hq
      clear h hf
      go_enter Try.func16, Try.ntmps16
      go_wp2_with fail
      refine (opened_ok a cap l _ (unhide h') (unhide hk')).mono ?_
      rintro e w1 ⟨rfl, hb⟩
      go_wp2
      exact bodyPost_ret (v := .tuple #[.int .i64 (-1), .int .i64 (-1)]) (by simp [results, Try.results16, go_sem]) rfl ⟨rfl, hb.alloc hb.size _⟩
    have h0' : decide (t < 0) = false := by simpa using h0
    by_cases h1 : clen l ≤ t
    · have hf : frameAt l t = (-1, -1) := by rw [frameAt_yes h (by omega)]; exact seen_past h.2.1 h1
      rw [hf] at hp hq
      simp only at hp hq
      subst hp hq
      clear h hf
      go_enter Try.func16, Try.ntmps16
      go_wp2_with fail
      refine (opened_ok a cap l _ (unhide h') (unhide hk')).mono ?_
      rintro e w1 ⟨rfl, hb⟩
      go_wp2
      exact bodyPost_ret (v := .tuple #[.int .i64 (-1), .int .i64 (-1)]) (by simp [results, Try.results16, go_sem]) rfl ⟨rfl, hb.alloc hb.size _⟩
    have h1' : decide (clen l ≤ t) = false := by simpa using h1
    obtain ⟨⟨s, i, n⟩, hx, hsn⟩ := part_one h.2.1 (show 0 ≤ t by omega) (show t < clen l by omega)
    rw [frameAt_yes h (by omega), ← hsn] at hp hq
    simp only at hp hq
    subst hp hq
    have hx' := hide hx
    clear h hx hsn
    go_enter Try.func16, Try.ntmps16
    go_wp2_with fail
    refine (opened_ok a cap l _ (unhide h') (unhide hk')).mono ?_
    rintro e w1 ⟨rfl, hb⟩
    have hA := hide (hb.alloc hb.size (.cells #[.slice a l.length cap, .int .i64 (clen l)] 49))
    have K1 := hide (((unhide hk').below hb).below ((Below.refl _ _).alloc (Nat.le_refl _) (.cells #[.slice a l.length cap, .int .i64 (clen l)] 49)))
    clear hb
    go_wp2_with fail
    refine (ifrm_any a cap l t (p, q, n) _ (unhide h') (by omega) (by omega) (unhide K1) (unhide hx')).mono ?_
    rintro e w2 ⟨rfl, k2⟩
    have H2 := hide (laterB (unhide hA) k2)
    clear k2 hA K1
    go_wp2_with fail
    go_quiet (fail)
    go_wp2
    exact bodyPost_ret (v := .tuple #[.int .i64 p, .int .i64 q]) (by simp [results, Try.results16, go_sem]) rfl ⟨rfl, below_drewN ((unhide H2).alloc (unhide H2).size _) _⟩
  · have h' := hide h
    have hf : frameAt l t = (-1, -1) := if_neg (fun k => h k.1)
    rw [hf] at hp hq
    simp only at hp hq
    subst hp hq
    clear h hf
    go_enter Try.func16, Try.ntmps16
    go_wp2_with fail
    refine (opened_no a cap l _ hl (unhide h') (unhide hk')).mono ?_
    rintro e w1 ⟨rfl, hb⟩
    go_wp2
    exact bodyPost_ret (v := .tuple #[.int .i64 (-1), .int .i64 (-1)]) (by simp [results, Try.results16, go_sem]) rfl ⟨rfl, hb.alloc hb.size _⟩

end Go.Proofs.Ytfcjdempigoiiaa
