/-
  The program's joining; the answer is new memory, nothing that was there is written.
  Contracts of FrameAt and Joined, the model's and the program's; nothing that was there is written.
  Contracts of the model's edits: what it answers of a list of clips, and of what is put between two parts of a track; answers are new memory, nothing that was there is written.
  Contracts of the program: what is made, joined and held against the limits; a frame of a track; nothing that was there is written.
-/
import Derived.Test.YtioaehjppiodfaaGreatDoorGJn
import Derived.Test.YtioaehjppiodfaaGreatDoorGPt2
import Derived.Test.YtioaehjppiodfaaGreatDoorGCat
import Derived.Test.YtioaehjppiodfaaGreatDoorGOpn
namespace Go.Proofs.YtioaehjppiodfaaGreatDoor
open Go.RowKit
set_option linter.unusedVariables false
set_option linter.unusedSimpArgs false

set_option maxHeartbeats 3200000 in
theorem ijoin_any (a : Option Addr) (cap : Nat) (l : List Kl) (w : World) (hl : l.length ≤ 1000) (hA : AOk l) (hk : Kls w a l) :
    Calls Tryz.prog 130 #[.slice a l.length cap] w fun e w' => ∃ g c, e = .returned (.slice (some ⟨g, 0, none⟩) (join l).length c) ∧ w.heap.size ≤ g ∧ Own w' w.heap.size g (join l).length c (join l) ∧ Below w.heap.size w w' := by
  have hk' := hide hk
  have hA' := hide hA
  clear hk hA
  have h0 := hide (show JR w l 0 (w.alloc (.cells #[] 94)) w.heap.size 0 from ⟨Nat.le_refl _, own_lit0 w (Nat.le_refl _), (Below.refl _ _).alloc (Nat.le_refl _) _⟩)
  go_enter Tryz.func130, Tryz.ntmps130
  go_wp2
  go_loopw [3, 10] (fun s t wr => ∃ k g c : Nat, k ≤ l.length ∧ t = .int .i64 k ∧ s = .slice (some ⟨g, 0, none⟩) (join (l.take k)).length c ∧ Hid (JR w l k wr g c)) (fun _ t _ => l.length - (intOf t).toNat)
  case atStart => exact ⟨0, w.heap.size, 0, by omega, rfl, rfl, h0⟩
  case round =>
    clear h0
    obtain ⟨k, g, cp, hk, rfl, rfl, hJ⟩ := hrel
    by_cases hlt : k < l.length
    · obtain ⟨b, o', s, i, n, rfl, hx, c0, c1, c2⟩ := kls_at (unhide hk') (unhide hJ).2.2 hlt
      have hcA := (unhide hA') _ (List.mem_of_getElem? hx)
      have hjt := hide (join_take hx)
      have hx' := hide hx
      clear hx
      obtain ⟨X, hX⟩ : ∃ X, X = wr.alloc (.cells #[.int .i64 s, .int .i64 i, .int .i64 n] 94) := ⟨_, rfl⟩
      have d0 : X.cell? ⟨wr.heap.size, 0, none⟩ = some (.int .i64 s) := by rw [hX]; simp [go_sem]
      have d1 : X.cell? ⟨wr.heap.size, 1, none⟩ = some (.int .i64 i) := by rw [hX]; simp [go_sem]
      have d2 : X.cell? ⟨wr.heap.size, 2, none⟩ = some (.int .i64 n) := by rw [hX]; simp [go_sem]
      have hXb : Below wr.heap.size wr X := by rw [hX]; exact (Below.refl _ _).alloc (Nat.le_refl _) _
      have hXs : X.heap.size = wr.heap.size + 1 := by rw [hX]; simp
      have hown := hide (ownsRow_below (unhide hJ).2.1 hXb)
      have hXw := hide (laterB (unhide hJ).2.2 hXb)
      have hg0 := (unhide hJ).1
      have hglt : g < wr.heap.size := own_lt (unhide hJ).2.1
      have hX' := hide hX
      clear hJ hXb hX
      rcases List.eq_nil_or_concat (join (l.take k)) with he | ⟨o, p, he⟩
      · rw [he] at hown hjt ⊢
        rw [jstep_nil] at hjt
        go_wp2_with fail
        rw [← unhide hX']
        go_quiet (fail)
        go_wp2_with (at_builtin; refine wpList_kN Tryz.underlying78 (B := w.heap.size) (g := g) (n := 0) (cap := cp) (L := []) rfl _ _ rfl rfl (unhide hown) (hX := by first | exact Below.refl X.heap.size X | exact below_drewN (Below.refl X.heap.size X) _) (by omega) (wr.heap.size + 1) (by first | exact hXs | simp [hXs]) rfl (by omega) (by omega) (by omega) ?_)
        intro g' cap' w' hown' hbel' hg' hlt'
        have hJ' := hide (show JR w l (k + 1) w' g' cap' from ⟨hg', by rw [unhide hjt]; exact hown', (unhide hXw).trans hbel'⟩)
        have hsl := hide (show (join (l.take (k + 1))).length = 1 by rw [unhide hjt]; rfl)
        clear hown' hbel' hown hXw
        go_wp2
        go_roundw
        case rel => exact ⟨k + 1, g', cap', by omega, by go_num, by rw [unhide hsl], hJ'⟩
        case measure => simp [intOf]; omega
      · rw [List.concat_eq_append] at he
        obtain ⟨q1, q2, q3, q4⟩ := bd_last (unhide hA') hk he
        obtain ⟨p1, p2, p3⟩ := p
        have hlen : (join (l.take k)).length = o.length + 1 := by rw [he]; simp
        have hmk : o.length + 1 ≤ 1000 := by have := len_join (l.take k); rw [List.length_take] at this; omega
        rw [hlen] at hown ⊢
        rw [he] at hown hjt
        rw [jstep_snoc] at hjt
        obtain ⟨x0, x1, x2⟩ := own_cells (last_get o (p1, p2, p3)) (unhide hown)
        have f2 := (unhide hown).frozenAt (o.length * 3 + 2)
        obtain ⟨m, hm⟩ : ∃ m, m = o.length := ⟨_, rfl⟩
        rw [← hm] at hown x0 x1 x2 f2 hmk ⊢
        have hm' := hide hm
        clear hm hlen he
        have hall : Hid (X.cell? ⟨g, m * 3, none⟩ = some (.int .i64 p1) ∧ X.cell? ⟨g, m * 3 + 1, none⟩ = some (.int .i64 p2) ∧ X.cell? ⟨g, m * 3 + 2, none⟩ = some (.int .i64 p3) ∧ X.cell? ⟨wr.heap.size, 0, none⟩ = some (.int .i64 s) ∧ X.cell? ⟨wr.heap.size, 1, none⟩ = some (.int .i64 i) ∧ X.cell? ⟨wr.heap.size, 2, none⟩ = some (.int .i64 n) ∧ Below X.heap.size X X) := hide ⟨x0, x1, x2, d0, d1, d2, Below.refl _ _⟩
        have n0 := hcA.1
        have n1 := hcA.2.1
        simp only at n0 n1 q1 q2 q3 q4
        have hm1 : (0 : Int) ≤ (m : Int) := by omega
        have hm2 : (m : Int) < (m : Int) + 1 := by omega
        have hm3 : (m : Int) < ((m + 1 : Nat) : Int) := by omega
        by_cases hgo : goes (p1, p2, p3) (s, i, n)
        · rw [if_pos hgo] at hjt
          have hsl := hide (show (join (l.take (k + 1))).length = m + 1 by rw [unhide hjt]; simp [unhide hm'])
          have hv := hide (decide_eq_true hgo)
          clear hgo
          go_wp2_with fail
          rw [← unhide hX']
          go_region_held3 (fun w' => w'.cell? ⟨g, m * 3, none⟩ = some (.int .i64 p1) ∧ w'.cell? ⟨g, m * 3 + 1, none⟩ = some (.int .i64 p2) ∧ w'.cell? ⟨g, m * 3 + 2, none⟩ = some (.int .i64 p3) ∧ w'.cell? ⟨wr.heap.size, 0, none⟩ = some (.int .i64 s) ∧ w'.cell? ⟨wr.heap.size, 1, none⟩ = some (.int .i64 i) ∧ w'.cell? ⟨wr.heap.size, 2, none⟩ = some (.int .i64 n) ∧ Below X.heap.size X w')
            (first | (refine keep6 ?_ hb; assumption) | (exact keep6d (unhide hall)))
            ((go_at_call 151; refine (goes_any p1 p2 p3 s i n true _ ⟨q1, q2⟩ ⟨q3, by omega⟩ (unhide hv)).mono ?_; rintro e w1 ⟨rfl, hb⟩))
          rename_i hH
          obtain ⟨y0, y1, y2, y3, y4, y5, yb⟩ := hH
          have oY := hide (ownsRow_below (unhide hown) yb)
          have yw := hide (laterB (unhide hXw) yb)
          have hgY : g < w1.heap.size := by have := yb.size; omega
          have fY : w1.frozen? ⟨g, m * 3 + 2, none⟩ = false := (unhide oY).frozenAt (m * 3 + 2)
          have hsY := yb.size
          clear hown hXw yb x0 x1 x2 f2 d0 d1 d2
          go_wp2_with fail
          go_region
          go_wp2
          go_roundw
          case rel => exact ⟨k + 1, g, cp, by omega, by go_num, by rw [unhide hsl], hide (jr_last (unhide hjt) (unhide hm') hg0 (unhide oY) (unhide yw) _)⟩
          case measure => simp [intOf]; omega
        · rw [if_neg hgo] at hjt
          have hv := hide (decide_eq_false hgo)
          clear hgo
          go_wp2_with fail
          rw [← unhide hX']
          go_region_held3 (fun w' => w'.cell? ⟨g, m * 3, none⟩ = some (.int .i64 p1) ∧ w'.cell? ⟨g, m * 3 + 1, none⟩ = some (.int .i64 p2) ∧ w'.cell? ⟨g, m * 3 + 2, none⟩ = some (.int .i64 p3) ∧ w'.cell? ⟨wr.heap.size, 0, none⟩ = some (.int .i64 s) ∧ w'.cell? ⟨wr.heap.size, 1, none⟩ = some (.int .i64 i) ∧ w'.cell? ⟨wr.heap.size, 2, none⟩ = some (.int .i64 n) ∧ Below X.heap.size X w')
            (first | (refine keep6 ?_ hb; assumption) | (exact keep6d (unhide hall)))
            ((go_at_call 151; refine (goes_any p1 p2 p3 s i n false _ ⟨q1, q2⟩ ⟨q3, by omega⟩ (unhide hv)).mono ?_; rintro e w1 ⟨rfl, hb⟩))
          rename_i hH
          obtain ⟨y0, y1, y2, y3, y4, y5, yb⟩ := hH
          have oY := hide (ownsRow_below (unhide hown) yb)
          have yw := hide (laterB (unhide hXw) yb)
          have hgY : g < w1.heap.size := by have := yb.size; omega
          have fY : w1.frozen? ⟨g, m * 3 + 2, none⟩ = false := (unhide oY).frozenAt (m * 3 + 2)
          have hsY := yb.size
          clear hown hXw yb x0 x1 x2 f2 d0 d1 d2
          go_wp2_with (at_builtin; refine wpList_kN Tryz.underlying78 (B := w.heap.size) (g := g) (n := m + 1) (cap := cp) (L := o ++ [(p1, p2, p3)]) rfl _ _ rfl rfl (unhide oY) (hX := by first | exact Below.refl w1.heap.size w1 | exact below_drewN (Below.refl w1.heap.size w1) _) hgY w1.heap.size (by first | rfl | simp) rfl (by omega) (by omega) (by omega) ?_)
          intro g' cap' w' hown' hbel' hg' hlt'
          have hJ' := hide (show JR w l (k + 1) w' g' cap' from jr_app (unhide hjt) (unhide hm') hg' (by first | exact hown' | (rw [List.append_assoc] at hown'; exact hown')) ((unhide yw).trans hbel'))
          have hsl := hide (show (join (l.take (k + 1))).length = m + 1 + 1 by rw [unhide hjt]; simp [unhide hm'])
          clear hown' hbel' oY yw
          go_wp2
          go_roundw
          case rel => exact ⟨k + 1, g', cap', by omega, by go_num, by rw [unhide hsl], hJ'⟩
          case measure => simp [intOf]; omega
    · have hke : k = l.length := by omega
      have hlj := hide (show join (l.take k) = join l by rw [hke, List.take_length])
      rw [unhide hlj]
      have hJ2 : Hid (w.heap.size ≤ g ∧ Own wr w.heap.size g (join l).length cp (join l) ∧ Below w.heap.size w wr) := hide (by have := unhide hJ; unfold JR at this; rw [unhide hlj] at this; exact this)
      clear hJ
      go_wp2
      go_ret
      exact ⟨g, cp, rfl, (unhide hJ2).1, (unhide hJ2).2.1, (unhide hJ2).2.2⟩
end Go.Proofs.YtioaehjppiodfaaGreatDoor

namespace Go.Proofs.YtioaehjppiodfaaGreatDoor
open Go.RowKit
set_option linter.unusedVariables false
set_option linter.unusedSimpArgs false

/-- a list as Joined answers it -/
def joinOf (l : List Kl) : List Kl := if TOk l then join l else []
theorem joinOf_len (l : List Kl) : (joinOf l).length ≤ 300 := by
  unfold joinOf
  split
  · rename_i h; exact Nat.le_trans (len_join l) h.1
  · simp
def JnR (w w' : World) (L : List Kl) (e : Ending) : Prop := ∃ g c, e = .returned (.slice (some ⟨g, 0, none⟩) L.length c) ∧ w.heap.size ≤ g ∧ Own w' w.heap.size g L.length c L ∧ Below w.heap.size w w'
theorem jnR_none {w wx : World} {L : List Kl} (hr : L = []) (hb : Below w.heap.size w wx) : JnR w (wx.alloc (.cells #[] 94)) L (.returned (.slice (some ⟨wx.heap.size, 0, none⟩) 0 0)) := by
  subst hr
  exact ⟨wx.heap.size, 0, rfl, hb.size, own_lit0 wx hb.size, hb.alloc hb.size _⟩

end Go.Proofs.YtioaehjppiodfaaGreatDoor

namespace Go.Proofs.YtioaehjppiodfaaGreatDoor
open Go.RowKit
set_option linter.unusedVariables false
set_option linter.unusedSimpArgs false

/-- an edit's answer in memory -/
def EdR (w w' : World) (r : Option (List Kl)) (e : Ending) : Prop :=
  ∃ g c, e = .returned (.tuple #[.slice (some ⟨g, 0, none⟩) (outL r).length c, .bool r.isSome]) ∧ w.heap.size ≤ g ∧ Own w' w.heap.size g (outL r).length c (outL r) ∧ Below w.heap.size w w'
theorem edR_none {w wx : World} {r : Option (List Kl)} (hr : r = none) (hb : Below w.heap.size w wx) : EdR w (wx.alloc (.cells #[] 94)) r (.returned (.tuple #[.slice (some ⟨wx.heap.size, 0, none⟩) 0 0, .bool false])) := by
  subst hr
  exact ⟨wx.heap.size, 0, rfl, hb.size, own_lit0 wx hb.size, hb.alloc hb.size _⟩
theorem edR_from {w w1 w2 : World} {r : Option (List Kl)} {e : Ending} (h : EdR w1 w2 r e) (hb : Below w.heap.size w w1) : EdR w w2 r e := by
  obtain ⟨g, c, he, h1, h2, h3⟩ := h
  have := hb.size
  exact ⟨g, c, he, by omega, own_mono h2 (by omega), hb.trans (h3.mono (by omega))⟩

end Go.Proofs.YtioaehjppiodfaaGreatDoor

namespace Go.Proofs.YtioaehjppiodfaaGreatDoor
open Go.RowKit
set_option linter.unusedVariables false
set_option linter.unusedSimpArgs false

set_option maxHeartbeats 1600000 in
theorem itk_any (a : Option Addr) (cap : Nat) (l : List Kl) (w : World) (hl : l.length ≤ 1000) (hA : AOk l) (hk : Kls w a l) :
    Calls Tryz.prog 111 #[.slice a l.length cap] w fun e w' => EdR w w' (if TOk (join l) then some (join l) else none) e := by
  have hJ := hide (ijoin_any a cap l w hl hA hk)
  have hjl := hide (len_join l)
  have hl' := hide hl
  clear hk hA hl
  obtain ⟨R, hR⟩ : ∃ R, (if TOk (join l) then some (join l) else none) = R := ⟨_, rfl⟩
  rw [hR]
  have hR' := hide hR
  clear hR
  go_enter Tryz.func111, Tryz.ntmps111
  go_wp2_with fail
  refine (unhide hJ).mono ?_
  rintro e w1 ⟨g, c, rfl, hg, ho, hb⟩
  have ho' := hide ho
  have hb' := hide hb
  clear ho hb hJ
  by_cases hT : TOk (join l)
  · have hr : R = some (join l) := by rw [← unhide hR']; exact if_pos hT
    subst hr
    have hd := hide (decide_eq_true hT)
    clear hT
    go_wp2_with fail
    refine (itrack_any (some ⟨g, 0, none⟩) c (join l) true _ (by have := unhide hjl; have := unhide hl'; unfold maxLen; omega) (kls_own (unhide ho')) (unhide hd)).mono ?_
    rintro e w2 ⟨rfl, k2⟩
    have k2' := hide k2
    clear k2
    go_wp2
    refine bodyPost_ret (v := .tuple #[.slice (some ⟨g, 0, none⟩) (join l).length c, .bool true]) (by simp [results, Tryz.results111, go_sem]) rfl ?_
    exact ⟨g, c, rfl, hg, ownsRow_below (unhide ho') (unhide k2'), laterB (unhide hb') (unhide k2')⟩
  · have hr : R = none := by rw [← unhide hR']; exact if_neg hT
    subst hr
    have hd := hide (decide_eq_false hT)
    clear hT
    go_wp2_with fail
    refine (itrack_any (some ⟨g, 0, none⟩) c (join l) false _ (by have := unhide hjl; have := unhide hl'; unfold maxLen; omega) (kls_own (unhide ho')) (unhide hd)).mono ?_
    rintro e w2 ⟨rfl, k2⟩
    have k2' := hide (laterB (unhide hb') k2)
    clear k2
    go_wp2
    exact bodyPost_ret (v := .tuple #[.slice (some ⟨w2.heap.size, 0, none⟩) 0 0, .bool false]) (by simp [results, Tryz.results111, go_sem]) rfl (edR_none rfl (unhide k2'))

/-- a clip that is the answer under way -/
def RsB (W : World) (B : Nat) : Prop :=
  W.cell? ⟨B, 0, none⟩ = some (.int .i64 0) ∧ W.cell? ⟨B, 1, none⟩ = some (.int .i64 0) ∧ W.cell? ⟨B, 2, none⟩ = some (.int .i64 0) ∧
  W.frozen? ⟨B, 0, none⟩ = false ∧ W.frozen? ⟨B, 1, none⟩ = false ∧ W.frozen? ⟨B, 2, none⟩ = false ∧ B < W.heap.size
theorem RsB.later {W W' : World} {B : Nat} (h : RsB W B) (hb : Below W.heap.size W W') : RsB W' B := by
  obtain ⟨h1, h2, h3, f1, f2, f3, hB⟩ := h
  obtain ⟨C, F⟩ := bcell hb
  exact ⟨(C _ _ hB).trans h1, (C _ _ hB).trans h2, (C _ _ hB).trans h3, (F _ _ hB).trans f1, (F _ _ hB).trans f2, (F _ _ hB).trans f3, Nat.lt_of_lt_of_le hB hb.size⟩
theorem rsb_start (w : World) : RsB (w.alloc (.cells #[.int .i64 0, .int .i64 0, .int .i64 0] 94)) w.heap.size := by
  refine ⟨?_, ?_, ?_, ?_, ?_, ?_, ?_⟩ <;> simp [go_sem]
theorem set3_belowR {w W : World} {B : Nat} {a b c : Value} {o1 o2 o3 : Nat} (h : Below w.heap.size w W) (hB : w.heap.size ≤ B) : Below w.heap.size w (((W.setCell ⟨B, o1, none⟩ a).setCell ⟨B, o2, none⟩ b).setCell ⟨B, o3, none⟩ c) :=
  ((h.setCell (p := ⟨B, o1, none⟩) hB _).setCell (p := ⟨B, o2, none⟩) hB _).setCell (p := ⟨B, o3, none⟩) hB _

set_option maxHeartbeats 1600000 in
theorem ifrm_any (a : Option Addr) (cap : Nat) (l : List Kl) (i : Int) (c : Kl) (w : World) (hT : TOk l) (h0 : 0 ≤ i) (h1 : i < clen l) (hk : Kls w a l) (hc : part l i (i + 1) = [c]) :
    Calls Tryz.prog 113 #[.slice a l.length cap, .int .i64 i] w fun e w' => e = .returned (kv c) ∧ Below w.heap.size w w' := by
  have hb0 := hide ((Below.refl w.heap.size w).alloc (Nat.le_refl _) (.cells #[.int .i64 0, .int .i64 0, .int .i64 0] 94))
  have hs0 := hide (rsb_start w)
  have h9 := hT.2.2
  have hP := ipart_any a cap l i (i + 1) (w.alloc (.cells #[.int .i64 0, .int .i64 0, .int .i64 0] 94)) hT (by omega) (by omega) (hk.below (unhide hb0))
  rw [hc] at hP
  have hP' := hide hP
  clear hP hk hT hc
  go_enter Tryz.func113, Tryz.ntmps113
  go_wp2_with fail
  refine (unhide hP').mono ?_
  rintro e w1 ⟨g, cp, rfl, hg, ho, hb⟩
  obtain ⟨c1, c2, c3⟩ := c
  obtain ⟨x0, x1, x2⟩ := own_cells (l := [(c1, c2, c3)]) (k := 0) rfl ho
  rw [Nat.zero_mul] at x0 x1 x2
  rw [Nat.zero_add] at x1 x2
  have H1 := hide (laterB (unhide hb0) hb)
  obtain ⟨d0, d1, d2, f0, f1, f2, hB⟩ := (unhide hs0).later hb
  simp only at x0 x1 x2
  clear ho hb hP' hs0 hb0
  go_wp2
  exact bodyPost_ret (v := kv (c1, c2, c3)) (by simp [results, Tryz.results113, go_sem, d0, d1, d2]) rfl ⟨rfl, set3_belowR (unhide H1) (Nat.le_refl _)⟩
end Go.Proofs.YtioaehjppiodfaaGreatDoor
