/-
  The walk of the law that a film is read back from its bytes, and that of a beginning of these a beginning of it is saved, over the draws of the model.
-/
import Derived.Test.YtdiamcejpjopgaaDrawD
import Derived.Test.YtdiamcejpjopgaaSShow3
import Derived.Test.YtdiamcejpjopgaaSame
import Derived.Test.YtdiamcejpjopgaaBackP
namespace Go.Proofs.Ytdiamcejpjopgaa
open Go.RowKit
set_option linter.unusedVariables false
set_option linter.unusedSimpArgs false

set_option maxHeartbeats 800000 in
theorem draw35 (a : Option Addr) (cap : Nat) (zs : List Int) (w : World) (hl : zs.length ≤ 4096) (hr : Row false 0 w.heap.size w a zs) :
    Calls Try.prog 35 #[.slice a zs.length cap] w fun e w' => ∃ v L, e = .returned v ∧ OwnL w' w.heap.size v L ∧ L.length ≤ 1000 ∧ (Good L ∧ ∃ G n c, v = .slice (some ⟨G, 0, none⟩) n c) ∧ Below w.heap.size w w' := by
  have hr0 : RdB w w.heap.size a zs.length := by
    intro j hj
    obtain ⟨b, o, e, _, hb, hc, z0, z1, _⟩ := hr j zs[j] (List.getElem?_eq_getElem hj)
    exact ⟨b, o, _, e, hb, hc, z0, z1⟩
  have hr' := hide hr0
  clear hr hr0
  go_enter Try.func35, Try.ntmps35
  go_wp2_with fail
  refine (new_any a zs.length cap _ (by omega) (by omega) (unhide hr')).mono ?_
  rintro e w1 ⟨g, rfl, hg, k1, b1⟩
  have z1 := b1.size
  have r1 : RdB w1 w.heap.size a zs.length := fun j hj => by
    obtain ⟨b, o, z, e, hb, hc, h0, h1⟩ := unhide hr' j hj
    exact ⟨b, o, z, e, hb, by rw [(bcell b1).1 _ _ hb]; exact hc, h0, h1⟩
  have R1 := hide r1
  have K1 := hide k1
  have B1 := hide b1
  clear r1 k1 b1
  go_wp2_with fail
  refine (drB2 w.heap.size g a zs.length cap _ hg hl (unhide K1) (unhide R1)).mono ?_
  rintro e w2 ⟨v, L, rfl, own2, hL, hgood, k2, g2⟩
  have fin := hide (show OwnL w2 w.heap.size v L ∧ L.length ≤ 1000 ∧ (Good L ∧ ∃ G n c, v = .slice (some ⟨G, 0, none⟩) n c) ∧ Below w.heap.size w w2 from ⟨own2.mono z1, hL, hgood, (unhide B1).grown g2 z1 (fun k hk => by have := Option.some.inj hk; omega)⟩)
  clear own2 hgood k2 g2 K1 R1
  go_wp2
  go_ret
  exact ⟨v, L, rfl, unhide fin⟩
set_option maxHeartbeats 800000 in
theorem draw11 (a : Option Addr) (cap : Nat) (zs : List Int) (w : World) (hl : zs.length ≤ 4096) (hr : Row false 0 w.heap.size w a zs) :
    Calls Try.prog 11 #[.slice a zs.length cap] w fun e w' => ∃ v L, e = .returned v ∧ OwnL w' w.heap.size v L ∧ L.length ≤ 1000 ∧ (Good L ∧ ∃ G n c, v = .slice (some ⟨G, 0, none⟩) n c) ∧ Below w.heap.size w w' := by
  have hr' := hide hr
  clear hr
  go_enter Try.func11, Try.ntmps11
  go_wp2_with fail
  refine (draw35 a cap zs _ hl (unhide hr')).mono ?_
  rintro e w1 ⟨v, L, rfl, fin⟩
  have fin' := hide fin
  clear fin
  go_wp2
  go_ret
  exact ⟨v, L, rfl, unhide fin'⟩

/-- where the bytes of the boxes lie -/
def At2 (L : List (Bx × (Option Addr × Nat))) (j : Nat) : Option Addr × Nat := match L[j]? with | some p => p.2 | none => (none, 0)
theorem own_out {w : World} {B : Nat} {v : Value} {L : List (Bx × (Option Addr × Nat))} {l : List Bx} (h : OwnL w B v L) (e : L.map (·.1) = l) : ∃ a cap, v = .slice a l.length cap ∧ l.length ≤ cap ∧ cap ≤ 9223372036854775807 ∧ Bxs false 0 w.heap.size w a (At2 L) l := by
  obtain ⟨a, cap, hv, _, h1, h2, hb, _⟩ := h.bxs
  have hl : L.length = l.length := by rw [← e]; simp
  rw [e] at hb
  rw [hl] at hv h1
  unfold maxLen at h2
  exact ⟨a, cap, hv, h1, by omega, hb.read.mono (Nat.zero_le _) (Nat.le_refl _)⟩
theorem good_small {L : List (Bx × (Option Addr × Nat))} (h : Good L) : Small 1048576 (L.map (·.1)) := by
  intro x hx
  obtain ⟨p, hp, rfl⟩ := List.mem_map.1 hx
  have := h p hp
  omega
theorem good_at {L : List (Bx × (Option Addr × Nat))} (h : Good L) : ∀ i, i < (L.map (·.1)).length → (At2 L i).1 = none → (At2 L i).2 = 0 := by
  intro i hi
  unfold At2
  rw [List.length_map] at hi
  rw [List.getElem?_eq_getElem hi]
  exact (h _ (List.getElem_mem hi)).2.2
theorem own_bds {w : World} {B : Nat} {v : Value} {L : List (Bx × (Option Addr × Nat))} (h : OwnL w B v L) : ∀ x ∈ L.map (·.1), ∀ z ∈ x.z, 0 ≤ z ∧ z ≤ 255 := by
  intro x hx
  obtain ⟨p, hp, rfl⟩ := List.mem_map.1 hx
  exact (h.2.1 p hp).1.bd
theorem top_all {l : List Bx} (h : ok l = true) : rdTop (fl l) = (l, (0, 0)) := by
  unfold rdTop
  rw [if_neg (by have := fl_short h; omega), back_all h]
  rfl
theorem top_part {l : List Bx} (h : ok l = true) (j : Nat) : (rdTop ((fl l).take j)).1 <+: l := by
  unfold rdTop
  rw [if_neg (by have := fl_short h; have := List.length_take_le j (fl l); rw [List.length_take]; omega)]
  exact back_part h j
theorem row_take {own : Bool} {lo hi : Nat} {w : World} {a : Option Addr} {zs : List Int} (h : Row own lo hi w a zs) (j : Nat) : Row own lo hi w a (zs.take j) := by
  intro i z hz
  rw [List.getElem?_take] at hz
  split at hz
  · exact h i z hz
  · cases hz
theorem carryB {W w : World} {a : Option Addr} {A : Nat → Option Addr × Nat} {l : List Bx} (h : Bxs false 0 W.heap.size W a A l) (hb : Below W.heap.size W w) : Bxs false 0 w.heap.size w a A l := (h.below hb (Nat.le_refl _)).mono (Nat.le_refl _) hb.size

set_option maxRecDepth 100000 in
set_option maxHeartbeats 3200000 in
theorem lawBack (a : Option Addr) (cap : Nat) (zs : List Int) (hm : zs.length ≤ maxLen) (w : World) (hr : Row false 0 w.heap.size w a zs) :
    Calls Try.prog 3 #[.slice a zs.length cap] w fun e w' => e = .returned (.bool true) ∧ Below w.heap.size w w' := by
  have hr' := hide hr
  clear hr
  unfold maxLen at hm
  cases hbig : decide ((4096 : Int) < (zs.length : Int))
  · have hl : zs.length ≤ 4096 := by have := of_decide_eq_false hbig; omega
    go_enter Try.func3, Try.ntmps3
    go_wp2_with fail
    refine (big_any a zs.length cap _ (by omega)).mono ?_
    rintro e w1 ⟨rfl, hw1⟩
    have hw2 := hw1.symm
    subst hw2
    rw [hbig]
    go_wp2_with fail
    refine (draw11 a cap zs _ hl (unhide hr')).mono ?_
    rintro e w2 ⟨v, L, rfl, own, hL, ⟨hgood, G, nG, cG, hvG⟩, b2⟩
    obtain ⟨l, hl0⟩ : ∃ l, L.map (·.1) = l := ⟨_, rfl⟩
    have hll : l.length ≤ 1000 := by rw [← hl0, List.length_map]; exact hL
    have hll2 : l.length ≤ 1048576 := by omega
    obtain ⟨av, cv, hv0, hcv, hcv2, hb⟩ := own_out own hl0
    obtain rfl : av = some ⟨G, 0, none⟩ := by rw [hvG] at hv0; injection hv0 with e1; exact e1.symm
    subst hv0
    clear hvG
    have hsm := good_small hgood
    have hat := good_at hgood
    have hbd := own_bds own
    rw [hl0] at hsm hat hbd
    have X2 := hide hb
    have hsm' := hide hsm
    have hat' := hide hat
    have hbd' := hide hbd
    have B2 := hide b2
    clear own hb hsm hat hbd b2 hgood hL hl0
    go_wp2_with fail
    refine (ishow_o (some ⟨G, 0, none⟩) cv (At2 L) l _ hll2 (unhide hsm') hcv hcv2 (unhide hat') (unhide X2)).mono ?_
    rintro e w3 ⟨gb, cb, rfl, own3, b3⟩
    have X3 := hide (carryB (unhide X2) b3)
    have B3 := hide ((unhide B2).trans (b3.mono (unhide B2).size))
    have own3' := hide own3
    have hne : (((sh l).length : Int) != (sh l).length) = false := by simp
    clear own3 b3 X2 B2
    go_wp2_with fail
    refine (sshow_o (some ⟨G, 0, none⟩) cv (At2 L) l _ hll2 (unhide hsm') hcv hcv2 (unhide hat') (unhide X3)).mono ?_
    rintro e w4 ⟨gs, cs, rfl, _, b4⟩
    have X4 := hide (carryB (unhide X3) b4)
    have B4 := hide ((unhide B3).trans (b4.mono (unhide B3).size))
    have own4 := hide (ownsRow_below (unhide own3') b4)
    clear own3' b4 X3 B3
    cases hok : ok l
    · go_wp2_with fail
      refine (sok_any (some ⟨G, 0, none⟩) cv (At2 L) l false _ hll2 (unhide hsm') (unhide X4) hok).mono ?_
      rintro e w5 ⟨rfl, b5⟩
      have B5 := hide ((unhide B4).trans (b5.mono (unhide B4).size))
      clear b5
      go_wp2
      go_ret
      exact ⟨rfl, unhide B5⟩
    · have hsh : sh l = fl l := by unfold sh; rw [if_pos hok]
      rw [hsh] at own4 hne ⊢
      obtain ⟨F, hF⟩ : ∃ F, fl l = F := ⟨_, rfl⟩
      have htop := hide (top_all hok)
      have hpart := hide (fun j => top_part hok j)
      have hFl := fl_short hok
      have hFb := hide (fl_bd l (unhide hbd'))
      rw [hF] at own4 hne htop hpart hFl hFb ⊢
      clear hsh hF
      go_wp2_with fail
      refine (sok_any (some ⟨G, 0, none⟩) cv (At2 L) l true _ hll2 (unhide hsm') (unhide X4) hok).mono ?_
      rintro e w5 ⟨rfl, b5⟩
      have X5 := hide (carryB (unhide X4) b5)
      have B5 := hide ((unhide B4).trans (b5.mono (unhide B4).size))
      have own5 := hide (ownsRow_below (unhide own4) b5)
      have hFc : F.length ≤ cb ∧ cb ≤ 9223372036854775807 := by
        rcases (unhide own5).2 with ⟨e, _⟩ | ⟨g2, cap2, cur2, e, _, _, hnc, hcm, _⟩
        · cases e
        · injection e with e1 e2 e3
          subst e3
          unfold maxLen at hcm
          exact ⟨hnc, by omega⟩
      obtain ⟨hFc1, hFc2⟩ := hFc
      clear b5 X4 B4 own4
      have row5 := hide ((row_of_own (unhide own5) (unhide hFb)).read.mono (Nat.zero_le _) (((unhide own5).lt gb rfl).2))
      go_wp2_with fail
      refine (iread_any (some ⟨gb, 0, none⟩) cb F _ (by omega) hFc1 hFc2 (unhide row5)).mono ?_
      rintro e w6 ⟨v6, L6, rfl, own6, hL6, b6⟩
      have hL6' : L6.map (·.1) = l := by rw [hL6]; unfold rdBoxes; rw [unhide htop]; rfl
      have h61 : (rdTop F).2.1 = 0 := by rw [unhide htop]
      have h62 : (rdTop F).2.2 = 0 := by rw [unhide htop]
      rw [h61, h62]
      obtain ⟨a6, c6, rfl, _, _, M6⟩ := own_out own6 hL6'
      have Ba : Below w6.heap.size w6 (w6.alloc (.cells #[.int .i64 0, .int .i64 0] 29)) := (Below.refl _ _).alloc (Nat.le_refl _) _
      have b7 := b6.trans (Ba.mono b6.size)
      have M7 := hide (carryB M6 Ba)
      have X7 := hide (carryB (unhide X5) b7)
      have B7 := hide ((unhide B5).trans (b7.mono (unhide B5).size))
      have own7 := hide (ownsRow_below (unhide own5) b7)
      clear own6 hL6 hL6' h61 h62 M6 Ba b7 b6 X5 B5 own5 row5
      go_wp2_with fail
      refine (same_any a6 (some ⟨G, 0, none⟩) c6 cv (At2 L6) (At2 L) l _ hll2 (unhide M7) (unhide X7)).mono ?_
      rintro e w8 ⟨rfl, n8, rfl⟩
      have b8 := below_drewN (Below.refl (w6.alloc (.cells #[.int .i64 0, .int .i64 0] 29)).heap.size (w6.alloc (.cells #[.int .i64 0, .int .i64 0] 29))) n8
      have X8 := hide (carryB (unhide X7) b8)
      have B8 := hide ((unhide B7).trans (b8.mono (unhide B7).size))
      have own8 := hide (ownsRow_below (unhide own7) b8)
      have row8 := hide ((row_of_own (unhide own8) (unhide hFb)).read.mono (Nat.zero_le _) (((unhide own8).lt gb rfl).2))
      clear b8 M7 X7 B7 own7
      go_wp2_with fail
      refine (isave_any (some ⟨gb, 0, none⟩) cb F _ (by omega) hFc1 hFc2 (unhide row8)).mono ?_
      rintro e w9 ⟨v9, L9, rfl, own9, hL9, b9⟩
      have hL9' : L9.map (·.1) = l := by rw [hL9, unhide htop]
      obtain ⟨a9, c9, rfl, _, _, M9⟩ := own_out own9 hL9'
      have M9' := hide M9
      have X9 := hide (carryB (unhide X8) b9)
      have B9 := hide ((unhide B8).trans (b9.mono (unhide B8).size))
      have own9' := hide (ownsRow_below (unhide own8) b9)
      clear own9 hL9 hL9' M9 b9 X8 B8 own8 row8
      go_wp2_with fail
      refine (same_any a9 (some ⟨G, 0, none⟩) c9 cv (At2 L9) (At2 L) l _ hll2 (unhide M9') (unhide X9)).mono ?_
      rintro e w10 ⟨rfl, n10, rfl⟩
      have b10 := below_drewN (Below.refl w9.heap.size w9) n10
      have X10 := hide (carryB (unhide X9) b10)
      have B10 := hide ((unhide B9).trans (b10.mono (unhide B9).size))
      have own10 := hide (ownsRow_below (unhide own9') b10)
      have code10 := hide (((unhide hr').below (unhide B10) (Nat.le_refl _)).mono (Nat.le_refl _) (unhide B10).size)
      clear b10 M9' X9 B9 own9'
      go_wp2_with fail
      refine (pick_any a cap zs (F.length + 1) _ hl (by omega) (unhide code10)).mono ?_
      rintro e w11 ⟨x, rfl, x0, x1, hw11⟩
      have hw12 := hw11.symm
      subst hw12
      obtain ⟨j, rfl⟩ := Int.eq_ofNat_of_zero_le x0
      have hjF : j ≤ F.length := by omega
      have hjl : (F.take j).length = j := by rw [List.length_take]; omega
      have row10 := hide ((row_of_own (unhide own10) (unhide hFb)).read.mono (Nat.zero_le _) (((unhide own10).lt gb rfl).2))
      have hcall := isave_any (some ⟨gb, 0, none⟩) cb (F.take j) (w9.drewN n10) (by omega) (by omega) hFc2 (row_take (unhide row10) j)
      rw [hjl] at hcall
      have hcall' := hide hcall
      have sl1 : (0 : Int) ≤ (j : Int) := by omega
      have sl2 : (j : Int) ≤ (cb : Int) := by omega
      clear hcall hjl
      go_wp2_with fail
      refine (unhide hcall').mono ?_
      rintro e w12 ⟨v12, L12, rfl, own12, hL12, b12⟩
      obtain ⟨P, hP⟩ : ∃ P, (rdTop (F.take j)).1 = P := ⟨_, rfl⟩
      have hpre := unhide hpart j
      rw [hP] at hL12 hpre
      obtain ⟨a12, c12, rfl, _, _, M12⟩ := own_out own12 hL12
      have hPl : P.length ≤ l.length := hpre.length_le
      have hPt : l.take P.length = P := by
        obtain ⟨r, hr0⟩ := hpre
        rw [← hr0]; exact List.take_left' rfl
      have M12' := hide M12
      have X12 := hide (show Bxs false 0 w12.heap.size w12 (some ⟨G, 0, none⟩) (At2 L) P from by
        have := (carryB (unhide X10) b12).take P.length
        rw [hPt] at this
        exact this)
      have B12 := hide ((unhide B10).trans (b12.mono (unhide B10).size))
      have hP1 : (P.length : Int) ≤ (l.length : Int) := by omega
      have hP2 : (0 : Int) ≤ (P.length : Int) := by omega
      have hP3 : (P.length : Int) ≤ (cv : Int) := by omega
      have hPl2 : P.length ≤ 1048576 := by omega
      clear own12 hL12 hP hpre M12 b12 hPt hcall' X10 B10 own10 row10 code10
      go_wp2_with fail
      refine (same_any a12 (some ⟨G, 0, none⟩) c12 cv (At2 L12) (At2 L) P _ hPl2 (unhide M12') (unhide X12)).mono ?_
      rintro e w13 ⟨rfl, n13, rfl⟩
      go_wp2
      go_ret
      exact ⟨rfl, below_drewN (unhide B12) n13⟩
  · have hl : (4096 : Int) < (zs.length : Int) := of_decide_eq_true hbig
    go_enter Try.func3, Try.ntmps3
    go_wp2_with fail
    refine (big_any a zs.length cap _ (by omega)).mono ?_
    rintro e w1 ⟨rfl, rfl⟩
    rw [hbig]
    go_wp2
    go_ret
    exact ⟨rfl, Below.refl _ _⟩
end Go.Proofs.Ytdiamcejpjopgaa
