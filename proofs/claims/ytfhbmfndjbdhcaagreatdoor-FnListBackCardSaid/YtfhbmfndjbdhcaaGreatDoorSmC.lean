/-
  Contract of the model's draw of a track, over a cursor on bytes that came in: it answers some list of clips in memory of its own, and writes into the cursor alone.
  Contracts of the model's draws for Extract and Lift: they answer some list of clips in memory of its own and two numbers, and write into nothing that was there.
  Contracts of the law's function that holds two lists of clips against each other, and of the draws of tracks; nothing that was there is written.
  Contracts of FrameAt and Joined, the model's and the program's; nothing that was there is written.
  Contracts of the program: what is made, joined and held against the limits; a frame of a track; nothing that was there is written.
  Contract of the program's FrameAt; nothing that was there is written.
-/
import Derived.Test.YtfhbmfndjbdhcaaGreatDoorDrK
import Derived.Laws.StructEq
import Derived.Test.YtfhbmfndjbdhcaaGreatDoorJoP
namespace Go.Proofs.YtfhbmfndjbdhcaaGreatDoor
open Go.RowKit
set_option linter.unusedVariables false
set_option linter.unusedSimpArgs false

theorem DS.wide {w wr w1 : World} {B g : Nat} {a : Option Addr} {len cap : Nat} (h : DS w B g a len cap wr) (hg : g < w.heap.size) (hB : B ≤ g) (hb : Below w.heap.size wr w1) : DS w B g a len cap w1 := by
  refine ⟨h.cur.other (hb.block g hg), ?_, ⟨hb.os.trans h.gr.os, hb.tape.trans h.gr.tape, hb.output.trans h.gr.output, Nat.le_trans h.gr.size hb.size, fun j hj hn => (hb.block j hj).trans (h.gr.block j hj hn)⟩⟩
  intro j hj
  obtain ⟨b, o, q, e, hb', hc, h0, h1⟩ := h.rd j hj
  exact ⟨b, o, q, e, hb', (World.cell?_of_block (a := ⟨b, o + j, none⟩) (hb.block b (by omega))).trans hc, h0, h1⟩
/-- the state while a track is drawn -/
structure TS (w : World) (B g : Nat) (a : Option Addr) (len cap : Nat) (wr : World) (G n c : Nat) (L : List Kl) : Prop where
  ds : DS w B g a len cap wr
  ln : L.length = n
  ow : Own wr w.heap.size G n c L
theorem TS.call {w wr w1 : World} {B g : Nat} {a : Option Addr} {len cap G n c : Nat} {L : List Kl} (h : TS w B g a len cap wr G n c L) (hB : B ≤ g) (hg : g < w.heap.size) (hc : CurAt w1 g a len cap) (hgr : wr.grownBy w1 (some g)) : TS w B g a len cap w1 G n c L :=
  ⟨h.ds.step hB hc hgr, h.ln, own_kept h.ow hgr (by have := own_ge h.ow; omega)⟩
theorem TS.later {w wr w1 : World} {B g : Nat} {a : Option Addr} {len cap G n c : Nat} {L : List Kl} (h : TS w B g a len cap wr G n c L) (hB : B ≤ g) (hb : Below wr.heap.size wr w1) : TS w B g a len cap w1 G n c L :=
  ⟨h.ds.later hB hb, h.ln, ownsRow_below h.ow hb⟩
theorem ds_call {w wr w1 : World} {B g : Nat} {a : Option Addr} {len cap : Nat} (h : DS wr B g a len cap w1) : CurAt w1 g a len cap ∧ wr.grownBy w1 (some g) := ⟨h.cur, h.gr⟩

set_option maxHeartbeats 6400000 in
theorem dtrack_any (B g : Nat) (a : Option Addr) (len cap : Nat) (w : World) (hB : B ≤ g) (hl : len ≤ 9223372036854775807) (hc : CurAt w g a len cap) (hr : RdB w B a len) :
    Calls Tryz.prog 15 #[.pointer (some ⟨g, 0, none⟩)] w fun e w' => ∃ G c L, e = .returned (.slice (some ⟨G, 0, none⟩) L.length c) ∧ L.length ≤ 1000 ∧ TS w B g a len cap w' G L.length c L := by
  have hg := hc.lt
  have hBw : B ≤ w.heap.size := by omega
  have D0 : DS w B g a len cap w := ⟨hc, hr, World.grownBy.refl _ _⟩
  have T0 := hide (show TS w B g a len cap (w.alloc (.cells #[] 44)) w.heap.size 0 0 [] from ⟨D0.later hB ((Below.refl _ _).alloc (Nat.le_refl _) _), rfl, own_lit0 w (Nat.le_refl _)⟩)
  clear hc hr D0
  go_enter Tryz.func15, Tryz.ntmps15
  go_wp2_with fail
  refine (below_any B g a len cap 8 _ hB hl (unhide T0).ds.cur (unhide T0).ds.rd (by omega)).mono ?_
  rintro e w1 ⟨x1, rfl, x10, x11, k1, g1⟩
  have T1 := hide ((unhide T0).call hB hg k1 g1)
  obtain ⟨n0, rfl⟩ : ∃ m : Nat, x1 = m := ⟨x1.toNat, by omega⟩
  clear k1 g1 T0
  go_wp2
  go_loopw [3, 4] (fun s t wr => ∃ k G n c : Nat, ∃ L : List Kl, k + n ≤ 8 ∧ t = .int .i64 k ∧ s = .slice (some ⟨G, 0, none⟩) n c ∧ Hid (TS w B g a len cap wr G n c L)) (fun _ t _ => (intOf t).toNat)
  case atStart => exact ⟨n0, w.heap.size, 0, 0, [], by omega, rfl, rfl, T1⟩
  case round =>
    clear T1
    obtain ⟨k, G, n, c, L, hkL, rfl, rfl, hT⟩ := hrel
    by_cases hk0 : 0 < k
    · have hk0' : decide ((0 : Int) < k) = true := by simp; omega
      go_wp2_with fail
      refine (dclip_any B g a len cap _ hB (by have := (unhide hT).ds.gr.size; omega) hl (unhide hT).ds.cur (unhide hT).ds.rd).mono ?_
      rintro e w2 ⟨x, y, z, rfl, d2⟩
      have T2 := hide ((unhide hT).call hB hg d2.cur d2.gr)
      clear d2 hT
      have hGg : G ≠ g := by have := own_ge (unhide T2).ow; omega
      have hGl := own_lt (unhide T2).ow
      have hGw := own_ge (unhide T2).ow
      have hw2 := (unhide T2).ds.gr.size
      have hAl : Below w2.heap.size w2 (w2.alloc (.cells #[.int .i64 x, .int .i64 y, .int .i64 z] 44)) := (Below.refl _ _).alloc (Nat.le_refl _) _
      have T3 := hide ((unhide T2).later hB hAl)
      clear hAl
      rcases n with _ | om
      · go_wp2_with (at_builtin; refine wpList_kN Tryz.underlying26 (B := w.heap.size) (C := w2.heap.size) (wr := w2) (g := G) (n := 0) (cap := c) (L := L) rfl _ _ rfl rfl (unhide T2).ow (hX := by repeat first | exact Below.refl _ _ | refine Below.setCell ?_ (by simp <;> omega) _ | refine Below.alloc ?_ (by simp <;> omega) _) hGl (w2.heap.size + 1) (by simp) rfl (by omega) hw2 hw2 ?_)
        intro g' cap' w' hown' hbel' hg' hlt'
        have T6 := hide (show TS w B g a len cap w' g' (0 + 1) cap' (L ++ [_]) from ⟨(unhide T2).ds.wide hg hB hbel', by simp [(unhide T2).ln], hown'⟩)
        clear hown' hbel' T2
        go_wp2
        go_roundw
        case rel => exact ⟨k - 1, g', 0 + 1, cap', _, by omega, by go_num, rfl, T6⟩
        case measure => simp [intOf]; omega
      · have hpos : decide ((0 : Int) < ((om + 1 : Nat) : Int)) = true := by rw [decide_eq_true_iff]; omega
        have hpos2 : decide ((0 : Int) < (om : Int) + 1) = true := by rw [decide_eq_true_iff]; omega
        obtain ⟨⟨p1, p2, p3⟩, hp⟩ : ∃ p, L[om]? = some p := ⟨_, List.getElem?_eq_getElem (show om < L.length by have := (unhide T2).ln; omega)⟩
        have hp' := hide hp
        clear hp
        go_wp2_with fail
        refine (once_any B g a len cap 5 _ hB hl (unhide T3).ds.cur (unhide T3).ds.rd (by omega)).mono ?_
        rintro e w4 ⟨q, rfl, k1, g1⟩
        have T4 := hide ((unhide T3).call hB hg k1 g1)
        have hkg : w2.heap.size ≠ g := by omega
        have y0 : w4.cell? ⟨w2.heap.size, 0, none⟩ = some (.int .i64 x) := grown_cell g1 hkg (by simp [go_sem])
        have y1 : w4.cell? ⟨w2.heap.size, 1, none⟩ = some (.int .i64 y) := grown_cell g1 hkg (by simp [go_sem])
        have y2 : w4.cell? ⟨w2.heap.size, 2, none⟩ = some (.int .i64 z) := grown_cell g1 hkg (by simp [go_sem])
        have hkb : w2.heap.size < (w2.alloc (.cells #[.int .i64 x, .int .i64 y, .int .i64 z] 44)).heap.size := by simp
        have yf0 : w4.frozen? ⟨w2.heap.size, 0, none⟩ = false := (grown_frozen g1 hkg hkb).trans (by simp [go_sem])
        have yf1 : w4.frozen? ⟨w2.heap.size, 1, none⟩ = false := (grown_frozen g1 hkg hkb).trans (by simp [go_sem])
        have hG4 := own_lt (unhide T4).ow
        have hk4 := World.block_lt_of_cell? _ _ y0
        simp only at hk4
        have hw4 := (unhide T4).ds.gr.size
        clear k1 g1 T3 T2 hkb
        cases q with
        | false =>
          go_wp2_with (at_builtin; refine wpList_kN Tryz.underlying26 (B := w.heap.size) (C := w2.heap.size) (wr := w4) (g := G) (n := om + 1) (cap := c) (L := L) rfl _ _ rfl rfl (unhide T4).ow (hX := by repeat first | exact Below.refl _ _ | refine Below.setCell ?_ (by simp <;> omega) _ | refine Below.alloc ?_ (by simp <;> omega) _) hGl (w4.heap.size) (by simp) rfl (by omega) hw4 hw2 ?_)
          intro g' cap' w' hown' hbel' hg' hlt'
          have T6 := hide (show TS w B g a len cap w' g' (om + 1 + 1) cap' (L ++ [_]) from ⟨(unhide T4).ds.wide hg hB hbel', by simp [(unhide T4).ln], hown'⟩)
          clear hown' hbel' T4
          go_wp2
          go_roundw
          case rel => exact ⟨k - 1, g', om + 1 + 1, cap', _, by omega, by go_num, rfl, T6⟩
          case measure => simp [intOf]; omega
        | true =>
          obtain ⟨z0, z1, z2⟩ := own_cells (unhide hp') (unhide T4).ow
          simp only at z0 z1 z2
          obtain ⟨sm, hsm⟩ : ∃ sm, IntKind.i64.wrap (p2 + p3) = sm := ⟨_, rfl⟩
          by_cases hp0 : p1 = 0
          · subst hp0
            have hz1 : (((w4.setCell ⟨w2.heap.size, 0, none⟩ (.int .i64 0)).setCell ⟨w2.heap.size, 1, none⟩ (.int .i64 sm)).setCell ⟨w2.heap.size, 1, none⟩ (.int .i64 0)).cell? ⟨w2.heap.size, 1, none⟩ = some (.int .i64 0) := World.cell?_setCell_same _ _ _ (World.cell?_setCell_same _ _ _ (show _ = some (.int .i64 y) by rw [World.cell?_setCell_other _ _ _ _ (ne_addr (by decide))]; exact y1))
            go_wp2_with (at_builtin; refine wpList_kN Tryz.underlying26 (B := w.heap.size) (C := w2.heap.size) (wr := w4) (g := G) (n := om + 1) (cap := c) (L := L) rfl _ _ rfl rfl (unhide T4).ow (hX := by repeat first | exact Below.refl _ _ | refine Below.setCell ?_ (by simp <;> omega) _ | refine Below.alloc ?_ (by simp <;> omega) _) hGl (w4.heap.size + 1) (by simp) rfl (by omega) hw4 hw2 ?_)
            intro g' cap' w' hown' hbel' hg' hlt'
            have T6 := hide (show TS w B g a len cap w' g' (om + 1 + 1) cap' (L ++ [_]) from ⟨(unhide T4).ds.wide hg hB hbel', by simp [(unhide T4).ln], hown'⟩)
            clear hown' hbel' T4
            go_wp2
            go_roundw
            case rel => exact ⟨k - 1, g', om + 1 + 1, cap', _, by omega, by go_num, rfl, T6⟩
            case measure => simp [intOf]; omega
          · have hp0' : (p1 == 0) = false := by simpa using hp0
            go_wp2_with (at_builtin; refine wpList_kN Tryz.underlying26 (B := w.heap.size) (C := w2.heap.size) (wr := w4) (g := G) (n := om + 1) (cap := c) (L := L) rfl _ _ rfl rfl (unhide T4).ow (hX := by repeat first | exact Below.refl _ _ | refine Below.setCell ?_ (by simp <;> omega) _ | refine Below.alloc ?_ (by simp <;> omega) _) hGl (w4.heap.size + 1) (by simp) rfl (by omega) hw4 hw2 ?_)
            intro g' cap' w' hown' hbel' hg' hlt'
            have T6 := hide (show TS w B g a len cap w' g' (om + 1 + 1) cap' (L ++ [_]) from ⟨(unhide T4).ds.wide hg hB hbel', by simp [(unhide T4).ln], hown'⟩)
            clear hown' hbel' T4
            go_wp2
            go_roundw
            case rel => exact ⟨k - 1, g', om + 1 + 1, cap', _, by omega, by go_num, rfl, T6⟩
            case measure => simp [intOf]; omega
    · have hk0' : decide ((0 : Int) < k) = false := by simp; omega
      go_wp2_with fail
      refine (once_any B g a len cap 60 _ hB hl (unhide hT).ds.cur (unhide hT).ds.rd (by omega)).mono ?_
      rintro e w2 ⟨q, rfl, k1, g1⟩
      have T2 := hide ((unhide hT).call hB hg k1 g1)
      clear k1 g1 hT
      cases q with
      | false =>
        go_wp2
        go_ret
        have hln := (unhide T2).ln
        subst hln
        exact ⟨G, c, L, rfl, by omega, unhide T2⟩
      | true =>
        have hw2 := (unhide T2).ds.gr.size
        have T3 := hide (show TS w B g a len cap (w2.alloc (.cells #[] 44)) w2.heap.size 0 0 [] from ⟨(unhide T2).ds.later hB ((Below.refl _ _).alloc (Nat.le_refl _) _), rfl, own_lit0 w2 hw2⟩)
        clear T2
        obtain ⟨wo, hwo⟩ : ∃ wo, wo = wr := ⟨_, rfl⟩
        go_wp2
        go_loopw [3, 7] (fun s t wr => ∃ k G c : Nat, ∃ L : List Kl, k ≤ 301 ∧ t = .int .i64 k ∧ s = .slice (some ⟨G, 0, none⟩) k c ∧ Hid (TS w B g a len cap wr G k c L)) (fun _ t _ => 302 - (intOf t).toNat)
        case atStart => exact ⟨0, w2.heap.size, 0, [], by omega, rfl, rfl, T3⟩
        case round =>
          clear T3
          obtain ⟨k, G, c, L, hk3, rfl, rfl, hT⟩ := hrel
          go_wp2_with fail
          refine (below_any B g a len cap 2 _ hB hl (unhide hT).ds.cur (unhide hT).ds.rd (by omega)).mono ?_
          rintro e w5 ⟨x, rfl, xx0, xx1, k1, g1⟩
          have T5 := hide ((unhide hT).call hB hg k1 g1)
          clear k1 g1 hT
          have hGl := own_lt (unhide T5).ow
          have hGw := own_ge (unhide T5).ow
          have hw5 := (unhide T5).ds.gr.size
          by_cases hlt : (k : Int) < 300 + x
          · go_wp2_with (at_builtin; refine wpList_kN Tryz.underlying26 (B := w.heap.size) (C := w5.heap.size) (wr := w5) (g := G) (n := k) (cap := c) (L := L) rfl _ _ rfl rfl (unhide T5).ow (hX := Below.refl _ _) hGl w5.heap.size rfl rfl (by omega) hw5 hw5 ?_)
            intro g' cap' w' hown' hbel' hg' hlt'
            have T6 := hide (show TS w B g a len cap w' g' (k + 1) cap' (L ++ [_]) from ⟨(unhide T5).ds.wide hg hB hbel', by simp [(unhide T5).ln], hown'⟩)
            clear hown' hbel' T5
            go_wp2
            go_roundw
            case rel => exact ⟨k + 1, g', cap', _, by omega, by go_num, rfl, T6⟩
            case measure => simp [intOf]; omega
          · have hlt' : decide ((k : Int) < 300 + x) = false := by simpa using hlt
            go_wp2
            go_ret
            have hln := (unhide T5).ln
            subst hln
            exact ⟨G, c, L, rfl, by omega, unhide T5⟩

end Go.Proofs.YtfhbmfndjbdhcaaGreatDoor

namespace Go.Proofs.YtfhbmfndjbdhcaaGreatDoor
open Go.RowKit
set_option linter.unusedVariables false
set_option linter.unusedSimpArgs false

theorem below_gr {W w w1 : World} {g : Nat} (h : Below W.heap.size W w) (hg : w.grownBy w1 (some g)) (hB : W.heap.size ≤ g) : Below W.heap.size W w1 := below_grown h hg hB

end Go.Proofs.YtfhbmfndjbdhcaaGreatDoor

namespace Go.Proofs.YtfhbmfndjbdhcaaGreatDoor
open Go.RowKit
set_option linter.unusedVariables false
set_option linter.unusedSimpArgs false

set_option maxHeartbeats 400000 in
theorem big_any (a : Option Addr) (len cap : Nat) (v : Bool) (w : World) (hv : decide ((4096 : Int) < len) = v) :
    Calls Tryz.prog 4 #[.slice a len cap] w fun e w' => e = .returned (.bool v) ∧ w' = w := by
  subst hv
  go_enter Tryz.func4, Tryz.ntmps4
  go_wp2
  go_ret
  exact ⟨rfl, rfl⟩

set_option maxHeartbeats 1600000 in
theorem sames_any (a b : Option Addr) (ca cb : Nat) (l : List Kl) (w : World) (hl : l.length ≤ 1048576) (ha : Kls w a l) (hb : Kls w b l) :
    Calls Tryz.prog 9 #[.slice a l.length ca, .slice b l.length cb] w fun e w' => e = .returned (.bool true) ∧ Below w.heap.size w w' := by
  have ha' := hide ha
  have hb' := hide hb
  clear ha hb
  have hne : ((l.length : Int) != l.length) = false := by simp
  go_enter Tryz.func9, Tryz.ntmps9
  go_wp2
  go_loopw [5] (fun t wr => ∃ k : Nat, k ≤ l.length ∧ t = .int .i64 k ∧ Below w.heap.size w wr) (fun t _ => l.length - (intOf t).toNat)
  case atStart => exact ⟨0, by omega, rfl, Below.refl _ _⟩
  case round =>
    obtain ⟨k, hk, rfl, hw⟩ := hrel
    by_cases hlt : k < l.length
    · obtain ⟨x, hx⟩ : ∃ x, l[k]? = some x := ⟨l[k], List.getElem?_eq_getElem hlt⟩
      obtain ⟨b1, o1, rfl, i1, c0, c1, c2⟩ := unhide ha' k x hx
      obtain ⟨b2, o2, rfl, i2, e0, e1, e2⟩ := unhide hb' k x hx
      have C := fun o => (bcell hw).1 b1 o i1
      have E := fun o => (bcell hw).1 b2 o i2
      obtain ⟨x1, x2, x3⟩ := x
      have f0 := (C _).trans c0
      have f1 := (C _).trans c1
      have f2 := (C _).trans c2
      have h0 := (E _).trans e0
      have h1 := (E _).trans e1
      have h2 := (E _).trans e2
      have hw' := hide hw
      clear hx c0 c1 c2 e0 e1 e2 hw C E
      go_wp2_with fail
      go_region
      go_wp2
      go_roundw
      case rel => exact ⟨k + 1, by omega, by go_num, (unhide hw').drew⟩
      case measure => simp [intOf]; omega
    · have hke : k = l.length := by omega
      go_wp2
      go_ret
      exact ⟨rfl, hw⟩

end Go.Proofs.YtfhbmfndjbdhcaaGreatDoor

namespace Go.Proofs.YtfhbmfndjbdhcaaGreatDoor
open Go.RowKit
set_option linter.unusedVariables false
set_option linter.unusedSimpArgs false

/-- a list as Joined answers it -/
def joinOf (l : List Kl) : List Kl := if TOk l then join l else []
theorem joinOf_len (l : List Kl) : (joinOf l).length ≤ 300 := by
  unfold joinOf
  split
  · rename_i h; exact Nat.le_trans (len_join l) h.1
  · simp
def JnR (w w' : World) (L : List Kl) (e : Ending) : Prop := ∃ g c, e = .returned (.slice (some ⟨g, 0, none⟩) L.length c) ∧ w.heap.size ≤ g ∧ Own w' w.heap.size g L.length c L ∧ Below w.heap.size w w'
theorem jnR_none {w wx : World} {L : List Kl} (hr : L = []) (hb : Below w.heap.size w wx) : JnR w (wx.alloc (.cells #[] 44)) L (.returned (.slice (some ⟨wx.heap.size, 0, none⟩) 0 0)) := by
  subst hr
  exact ⟨wx.heap.size, 0, rfl, hb.size, own_lit0 wx hb.size, hb.alloc hb.size _⟩

set_option maxHeartbeats 800000 in
theorem ijoined_any (a : Option Addr) (cap : Nat) (l : List Kl) (w : World) (hl : l.length ≤ maxLen) (hk : Kls w a l) :
    Calls Tryz.prog 10 #[.slice a l.length cap] w fun e w' => JnR w w' (joinOf l) e := by
  have hk' := hide hk
  clear hk
  obtain ⟨L, hL⟩ : ∃ L, L = joinOf l := ⟨_, rfl⟩
  rw [← hL]
  by_cases h : TOk l
  · have h' := hide h
    have hJ := hide (show L = join l by rw [hL]; exact if_pos h)
    clear h hL
    go_enter Tryz.func10, Tryz.ntmps10
    go_wp2_with fail
    refine (opened_ok a cap l _ (unhide h') (unhide hk')).mono ?_
    rintro e w1 ⟨rfl, hb⟩
    have hA := hide (hb.alloc hb.size (.cells #[.slice a l.length cap, .int .i64 (clen l)] 47))
    have K1 := hide (((unhide hk').below hb).below ((Below.refl _ _).alloc (Nat.le_refl _) (.cells #[.slice a l.length cap, .int .i64 (clen l)] 47)))
    clear hb
    go_wp2_with fail
    refine (ijoin_any a cap l _ (by have := (unhide h').1; omega) (unhide h').2.1 (unhide K1)).mono ?_
    rintro e w2 ⟨g, c, rfl, q, n, k⟩
    rw [← unhide hJ] at n ⊢
    have hz := (unhide hA).size
    have hF := hide (show JnR w w2 L (.returned (.slice (some ⟨g, 0, none⟩) L.length c)) from ⟨g, c, rfl, Nat.le_trans hz q, own_mono n hz, (unhide hA).trans (k.mono hz)⟩)
    clear n k q hz hA K1
    go_wp2
    go_ret
    exact unhide hF
  · have h' := hide h
    have hJ := hide (show L = [] by rw [hL]; exact if_neg h)
    clear h hL
    go_enter Tryz.func10, Tryz.ntmps10
    go_wp2_with fail
    refine (opened_no a cap l _ hl (unhide h') (unhide hk')).mono ?_
    rintro e w1 ⟨rfl, hb⟩
    have hA := hide (hb.alloc hb.size (.cells #[.slice none 0 0, .int .i64 0] 47))
    clear hb
    go_wp2
    go_ret
    have := jnR_none (unhide hJ) (unhide hA)
    simpa using this

end Go.Proofs.YtfhbmfndjbdhcaaGreatDoor
