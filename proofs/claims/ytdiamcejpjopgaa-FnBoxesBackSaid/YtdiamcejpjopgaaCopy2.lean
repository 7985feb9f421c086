/-
  Contract of the law's copy of a list of boxes: a new list of the same boxes, in new memory; nothing that was there is written.
-/
import Derived.Test.YtdiamcejpjopgaaCopy
import Derived.Deep.RegionHeld3
namespace Go.Proofs.Ytdiamcejpjopgaa
open Go.RowKit
set_option linter.unusedVariables false
set_option linter.unusedSimpArgs false

theorem spare_own {w : World} {B g n cap : Nat} {xs : List Value} (h : w.ownsRow B 38 3 (.slice (some ⟨g, 0, none⟩) n cap) n xs) : Spare w g 0 n := by
  have hl : xs.length = n * 3 := h.1
  have C : ∀ i, i < n * 3 → ∃ v, w.cell? ⟨g, i, none⟩ = some v := fun i hi => ⟨xs[i]'(by omega), by rw [h.cellAt i hi, List.getElem?_eq_getElem (by omega)]⟩
  exact ⟨fun j _ hj => ⟨C _ (by omega), C _ (by omega), C _ (by omega)⟩, fun o => h.frozenAt o⟩
theorem own_lt {w : World} {B g n cap m : Nat} {e : TypeId} {xs : List Value} (h : w.ownsRow B e m (.slice (some ⟨g, 0, none⟩) n cap) n xs) : g < w.heap.size := (h.lt g rfl).2

set_option maxHeartbeats 800000 in
theorem tos_any (a : Option Addr) (cap : Nat) (A : Nat → Option Addr × Nat) (l : List Bx) (w : World) (hl : l.length ≤ 1048576) (hs : Small 1048576 l) (hr : Bxs false 0 w.heap.size w a A l) :
    Calls Try.prog 23 #[.slice a l.length cap] w fun e w' => ∃ g A', e = .returned (.slice (some ⟨g, 0, none⟩) l.length l.length) ∧ w.heap.size ≤ g ∧ Bxs true w.heap.size w'.heap.size w' (some ⟨g, 0, none⟩) A' l ∧ Dist A' l.length ∧ Below w.heap.size w w' := by
  obtain ⟨i0, hi, hz0, hz1, hz2⟩ := info_parts info38
  have hr' := hide hr
  have hs' := hide hs
  clear hr hs
  go_enter Try.func23, Try.ntmps23
  go_wp2_with (refine wpList_make_full _ rfl _ _ 24 rfl w.heap.size 38 i0 _ 3 Try.underlying24 hi hz0 hz1 .i64 .i64 _ _ l.length rfl rfl rfl rfl ?b2 ?b3 (Nat.le_refl _) ?_)
  case b2 => rw [hz2]; omega
  case b3 => unfold maxLen; omega
  intro w1 hown hg
  have hb1 : Below w.heap.size w w1 := (Below.refl _ _).grown hg (Nat.le_refl _) (fun k hk => by cases hk)
  have hsp := spare_own hown
  have hgl := own_lt hown
  clear hown hg
  go_wp2
  go_loopw [4] (fun t wr => ∃ (k : Nat) (A' : Nat → Option Addr × Nat), k ≤ l.length ∧ t = .int .i64 k ∧ Bxs true w.heap.size wr.heap.size wr (some ⟨w.heap.size, 0, none⟩) A' (l.take k) ∧ Dist A' k ∧ (∀ i x, i < k → (A' i).1 = some x → x.block < wr.heap.size) ∧ Spare wr w.heap.size k l.length ∧ Below w.heap.size w wr ∧ w.heap.size < wr.heap.size) (fun t _ => l.length - (intOf t).toNat)
  case atStart => exact ⟨0, fun _ => (none, 0), by omega, rfl, by simpa using Bxs.nil, fun i j x y _ h => by omega, fun i x h => by omega, hsp, hb1, hgl⟩
  case round =>
    clear hsp hb1 hgl
    obtain ⟨k, A', hk, rfl, hbx, hd, hlt', hsp, hb, hgl⟩ := hrel
    by_cases hlt : k < l.length
    · obtain ⟨x, hx⟩ : ∃ x, l[k]? = some x := ⟨l[k], List.getElem?_eq_getElem hlt⟩
      obtain ⟨b, o, rfl, h1, h2, c0, c1, c2, hrow, k1, d0, d1, z1, z2, _⟩ := unhide hr' k x hx
      have hxs := unhide hs' x (List.mem_of_getElem? hx)
      have hxl : x.z.length ≤ 1048576 := by omega
      have w0 : wr.cell? ⟨b, o + k * 3, none⟩ = some (.string x.k) := by rw [(bcell hb).1 _ _ h2]; exact c0
      have w1 : wr.cell? ⟨b, o + k * 3 + 1, none⟩ = some (.int .i64 x.d) := by rw [(bcell hb).1 _ _ h2]; exact c1
      have w2 : wr.cell? ⟨b, o + k * 3 + 2, none⟩ = some (.slice (A k).1 x.z.length (A k).2) := by rw [(bcell hb).1 _ _ h2]; exact c2
      have hrow' := hide (hrow.below hb (Nat.le_refl _) |>.mono (Nat.le_refl _) hb.size)
      have hbx' := hide hbx
      have hd' := hide hd
      have hL' := hide hlt'
      have hsp' := hide hsp
      have hb' := hide hb
      have hx' := hide hx
      clear hbx hd hlt' hsp hb hx hrow c0 c1 c2 hxs
      have k1' := hide k1
      have z1' := hide z1
      have z2' := hide z2
      clear k1 z1 z2
      go_wp2_with fail
      refine (tox_any x.k x.d _ _ x.z _ hxl (unhide hrow')).mono ?_
      rintro e w3 ⟨B, rfl, hB, hown, hb3⟩
      have hsp3 : Spare w3 w.heap.size k l.length := (unhide hsp').same (hb3.block _ hgl)
      obtain ⟨⟨v0, s0⟩, ⟨v1, s1⟩, ⟨v2, s2⟩⟩ := hsp3.1 k (Nat.le_refl _) hlt
      have f0 := hsp3.2 (k * 3)
      have f1 := hsp3.2 (k * 3 + 1)
      have f2 := hsp3.2 (k * 3 + 2)
      have hsp3' := hide hsp3
      have hb3' := hide hb3
      have hown' := hide hown
      clear hsp3 hb3 hown
      go_wp2
      go_roundw
      case rel =>
        have hb3 := unhide hb3'
        have hown := unhide hown'
        have hsz : wr.heap.size ≤ w3.heap.size := hb3.size
        have hbx3 : Bxs true w.heap.size w3.heap.size w3 (some ⟨w.heap.size, 0, none⟩) A' (l.take k) := ((unhide hbx').below hb3 (Nat.le_refl _)).mono (Nat.le_refl _) hsz
        have hB2 : B < w3.heap.size := own_lt hown
        have hrow3 : Row true w.heap.size w3.heap.size w3 (some ⟨B, 0, none⟩) x.z := (row_of_own hown (unhide hrow').bd).mono (by omega) (by omega)
        have hres := put3_bxs (unhide hx') hbx3 (unhide hsp3') hlt (Nat.le_refl _) (by omega) hrow3 (fun y hy => by injection hy with hy; subst hy; simp; omega) (unhide k1') d0 d1 (Nat.le_refl x.z.length) (by unfold maxLen; omega)
        have hpz : (put3 w3 w.heap.size k (.string x.k) (.int .i64 x.d) (.slice (some ⟨B, 0, none⟩) x.z.length x.z.length)).heap.size = w3.heap.size := by simp [put3]
        refine ⟨k + 1, upd A' k (some ⟨B, 0, none⟩, x.z.length), by omega, by go_num, ?_, ?_, ?_, put3_spare (unhide hsp3'), ?_, ?_⟩
        · show Bxs true w.heap.size (put3 w3 w.heap.size k (.string x.k) (.int .i64 x.d) (.slice (some ⟨B, 0, none⟩) x.z.length x.z.length)).heap.size _ _ _ _
          rw [hpz]; exact hres
        · intro i j p q hij hj hp hq
          by_cases hjk : j = k
          · have e1 : upd A' k (some ⟨B, 0, none⟩, x.z.length) i = A' i := if_neg (by omega)
            have e2 : upd A' k (some ⟨B, 0, none⟩, x.z.length) j = (some ⟨B, 0, none⟩, x.z.length) := if_pos hjk
            rw [e1] at hp; rw [e2] at hq
            have := unhide hL' i p (by omega) hp
            injection hq with hq; subst hq; simp; omega
          · have e1 : upd A' k (some ⟨B, 0, none⟩, x.z.length) i = A' i := if_neg (by omega)
            have e2 : upd A' k (some ⟨B, 0, none⟩, x.z.length) j = A' j := if_neg hjk
            rw [e1] at hp; rw [e2] at hq
            exact unhide hd' i j p q hij (by omega) hp hq
        · intro i p hi hp
          show p.block < (put3 w3 w.heap.size k (.string x.k) (.int .i64 x.d) (.slice (some ⟨B, 0, none⟩) x.z.length x.z.length)).heap.size
          rw [hpz]
          by_cases hik : i = k
          · have e2 : upd A' k (some ⟨B, 0, none⟩, x.z.length) i = (some ⟨B, 0, none⟩, x.z.length) := if_pos hik
            rw [e2] at hp; injection hp with hp; subst hp; exact hB2
          · have e1 : upd A' k (some ⟨B, 0, none⟩, x.z.length) i = A' i := if_neg hik
            rw [e1] at hp
            have := unhide hL' i p (by omega) hp
            omega
        · exact (((((unhide hb').trans (hb3.mono (by omega)))).setCell (by simp) _).setCell (by simp) _).setCell (by simp) _
        · show w.heap.size < (put3 w3 w.heap.size k (.string x.k) (.int .i64 x.d) (.slice (some ⟨B, 0, none⟩) x.z.length x.z.length)).heap.size
          rw [hpz]; omega
      case measure => simp [intOf]; omega
    · have hke : k = l.length := by omega
      have hbx' := hide hbx
      have hd' := hide hd
      have hL' := hide hlt'
      have hsp' := hide hsp
      clear hbx hd hlt' hsp
      go_wp2
      go_ret
      refine ⟨w.heap.size, A', rfl, Nat.le_refl _, ?_, ?_, hb⟩
      · have := unhide hbx'; rw [hke] at this; simpa using this
      · have := unhide hd'; rw [hke] at this; exact this

theorem below_drewN {B : Nat} {a w : World} (h : Below B a w) (n : Nat) : Below B a (w.drewN n) := ⟨h.os, h.tape, h.output, h.size, h.block⟩
set_option maxHeartbeats 400000 in
theorem eqb_any (a b : Option Addr) (ca cb : Nat) (zs : List Int) (w : World) (hl : zs.length ≤ 281474976710656) (ha : Row false 0 w.heap.size w a zs) (hb : Row false 0 w.heap.size w b zs) :
    Calls Try.prog 26 #[.slice a zs.length ca, .slice b zs.length cb] w fun e w' => e = .returned (.bool true) ∧ ∃ n, w' = w.drewN n := by
  have ha' := hide ha
  have hb' := hide hb
  clear ha hb
  have hne : ((zs.length : Int) != zs.length) = false := by simp
  go_enter Try.func26, Try.ntmps26
  go_wp2
  go_loopw [5] (fun t wr => ∃ k n : Nat, k ≤ zs.length ∧ t = .int .i64 k ∧ wr = w.drewN n) (fun t _ => zs.length - (intOf t).toNat)
  case atStart => exact ⟨0, 0, by omega, rfl, rfl⟩
  case round =>
    obtain ⟨k, n, hk, rfl, rfl⟩ := hrel
    by_cases hlt : k < zs.length
    · obtain ⟨z, hz⟩ : ∃ z, zs[k]? = some z := ⟨zs[k], List.getElem?_eq_getElem hlt⟩
      obtain ⟨b1, o1, rfl, _, _, hc1, z0, z1, _⟩ := unhide ha' k z hz
      obtain ⟨b2, o2, rfl, _, _, hc2, _, _, _⟩ := unhide hb' k z hz
      have hzz : (z != z) = false := by simp
      clear hz
      go_wp2
      go_quiet (fail)
      go_wp2
      go_roundw
      case rel => exact ⟨k + 1, _, by omega, by go_num, rfl⟩
      case measure => simp [intOf]; omega
    · go_wp2
      go_ret
      exact ⟨rfl, n, rfl⟩

set_option maxHeartbeats 400000 in
theorem eqx_any (k : ByteArray) (d : Int) (a b : Option Addr) (ca cb : Nat) (zs : List Int) (w : World) (hl : zs.length ≤ 281474976710656) (ha : Row false 0 w.heap.size w a zs) (hb : Row false 0 w.heap.size w b zs) :
    Calls Try.prog 54 #[.agg #[.string k, .int .i64 d, .slice a zs.length ca], .agg #[.string k, .int .i64 d, .slice b zs.length cb]] w fun e w' => e = .returned (.bool true) ∧ Below w.heap.size w w' := by
  have ha' := hide ha
  have hb' := hide hb
  clear ha hb
  have hdd : (d != d) = false := by simp
  go_enter Try.func54, Try.ntmps54
  go_wp2_with fail
  refine (eqb_any a b ca cb zs _ hl ?_ ?_).mono ?_
  · exact ((unhide ha').below ((Below.refl _ _).alloc (Nat.le_refl _) _ |>.alloc (by simp) _) (Nat.le_refl _)).mono (Nat.le_refl _) (by simp; omega)
  · exact ((unhide hb').below ((Below.refl _ _).alloc (Nat.le_refl _) _ |>.alloc (by simp) _) (Nat.le_refl _)).mono (Nat.le_refl _) (by simp; omega)
  rintro e w1 ⟨rfl, n, rfl⟩
  go_wp2
  go_ret
  exact ⟨rfl, below_drewN ((Below.refl _ _).alloc (Nat.le_refl _) _ |>.alloc (by simp) _) n⟩

theorem cell_later {w w1 : World} {a : Addr} {v : Value} (hb : Below w.heap.size w w1) (h : w.cell? a = some v) : w1.cell? a = some v := by
  rw [hb.cell (World.block_lt_of_cell? _ _ h)]; exact h
theorem keep6 {w w0 w1 : World} {a1 a2 a3 a4 a5 a6 : Addr} {v1 v2 v3 v4 v5 v6 : Value}
    (h : w0.cell? a1 = some v1 ∧ w0.cell? a2 = some v2 ∧ w0.cell? a3 = some v3 ∧ w0.cell? a4 = some v4 ∧ w0.cell? a5 = some v5 ∧ w0.cell? a6 = some v6 ∧ Below w.heap.size w w0) (hb : Below w0.heap.size w0 w1) :
    w1.cell? a1 = some v1 ∧ w1.cell? a2 = some v2 ∧ w1.cell? a3 = some v3 ∧ w1.cell? a4 = some v4 ∧ w1.cell? a5 = some v5 ∧ w1.cell? a6 = some v6 ∧ Below w.heap.size w w1 := by
  obtain ⟨h1, h2, h3, h4, h5, h6, h7⟩ := h
  exact ⟨cell_later hb h1, cell_later hb h2, cell_later hb h3, cell_later hb h4, cell_later hb h5, cell_later hb h6, h7.trans (hb.mono h7.size)⟩
theorem keep6d {w w0 : World} {a1 a2 a3 a4 a5 a6 : Addr} {v1 v2 v3 v4 v5 v6 : Value}
    (h : w0.cell? a1 = some v1 ∧ w0.cell? a2 = some v2 ∧ w0.cell? a3 = some v3 ∧ w0.cell? a4 = some v4 ∧ w0.cell? a5 = some v5 ∧ w0.cell? a6 = some v6 ∧ Below w.heap.size w w0) :
    w0.drew.cell? a1 = some v1 ∧ w0.drew.cell? a2 = some v2 ∧ w0.drew.cell? a3 = some v3 ∧ w0.drew.cell? a4 = some v4 ∧ w0.drew.cell? a5 = some v5 ∧ w0.drew.cell? a6 = some v6 ∧ Below w.heap.size w w0.drew := by
  obtain ⟨h1, h2, h3, h4, h5, h6, h7⟩ := h
  exact ⟨h1, h2, h3, h4, h5, h6, h7.drew⟩
theorem row6 {w w0 : World} {a1 a2 a3 a4 a5 a6 : Addr} {v1 v2 v3 v4 v5 v6 : Value} {a : Option Addr} {zs : List Int} (r : Hid (Row false 0 w.heap.size w a zs))
    (h : w0.cell? a1 = some v1 ∧ w0.cell? a2 = some v2 ∧ w0.cell? a3 = some v3 ∧ w0.cell? a4 = some v4 ∧ w0.cell? a5 = some v5 ∧ w0.cell? a6 = some v6 ∧ Below w.heap.size w w0) : Row false 0 w0.heap.size w0 a zs :=
  ((unhide r).below h.2.2.2.2.2.2 (Nat.le_refl _)).mono (Nat.le_refl _) h.2.2.2.2.2.2.size

set_option maxHeartbeats 800000 in
theorem eqs_any (a b : Option Addr) (ca cb : Nat) (A B : Nat → Option Addr × Nat) (l : List Bx) (w : World) (hl : l.length ≤ 1048576) (hs : Small 1048576 l) (ha : Bxs false 0 w.heap.size w a A l) (hb : Bxs false 0 w.heap.size w b B l) :
    Calls Try.prog 25 #[.slice a l.length ca, .slice b l.length cb] w fun e w' => e = .returned (.bool true) ∧ Below w.heap.size w w' := by
  have ha' := hide ha
  have hb' := hide hb
  have hs' := hide hs
  clear ha hb hs
  have hne : ((l.length : Int) != l.length) = false := by simp
  go_enter Try.func25, Try.ntmps25
  go_wp2
  go_loopw [5] (fun t wr => ∃ k : Nat, k ≤ l.length ∧ t = .int .i64 k ∧ Below w.heap.size w wr) (fun t _ => l.length - (intOf t).toNat)
  case atStart => exact ⟨0, by omega, rfl, Below.refl _ _⟩
  case round =>
    obtain ⟨k, hk, rfl, hw⟩ := hrel
    by_cases hlt : k < l.length
    · obtain ⟨x, hx⟩ : ∃ x, l[k]? = some x := ⟨l[k], List.getElem?_eq_getElem hlt⟩
      obtain ⟨b1, o1, rfl, _, i1, c0, c1, c2, r1, _, _, _, y1, y2, _⟩ := unhide ha' k x hx
      obtain ⟨b2, o2, rfl, _, i2, e0, e1, e2, r2, _, _, _, y3, y4, _⟩ := unhide hb' k x hx
      have C := fun o => (bcell hw).1 b1 o i1
      have E := fun o => (bcell hw).1 b2 o i2
      have hall : Hid (wr.cell? ⟨b1, o1 + k * 3, none⟩ = some (.string x.k) ∧ wr.cell? ⟨b1, o1 + k * 3 + 1, none⟩ = some (.int .i64 x.d) ∧ wr.cell? ⟨b1, o1 + k * 3 + 2, none⟩ = some (.slice (A k).1 x.z.length (A k).2) ∧ wr.cell? ⟨b2, o2 + k * 3, none⟩ = some (.string x.k) ∧ wr.cell? ⟨b2, o2 + k * 3 + 1, none⟩ = some (.int .i64 x.d) ∧ wr.cell? ⟨b2, o2 + k * 3 + 2, none⟩ = some (.slice (B k).1 x.z.length (B k).2) ∧ Below w.heap.size w wr) :=
        hide ⟨(C _).trans c0, (C _).trans c1, (C _).trans c2, (E _).trans e0, (E _).trans e1, (E _).trans e2, hw⟩
      have r1' := hide r1
      have r2' := hide r2
      have hxs := unhide hs' x (List.mem_of_getElem? hx)
      have hxl : x.z.length ≤ 281474976710656 := by omega
      have hw' := hide hw
      clear hx c0 c1 c2 e0 e1 e2 r1 r2 hw C E y1 y2 y3 y4 hxs
      go_wp2_with fail
      go_region_held3 (fun w' => w'.cell? ⟨b1, o1 + k * 3, none⟩ = some (.string x.k) ∧ w'.cell? ⟨b1, o1 + k * 3 + 1, none⟩ = some (.int .i64 x.d) ∧ w'.cell? ⟨b1, o1 + k * 3 + 2, none⟩ = some (.slice (A k).1 x.z.length (A k).2) ∧ w'.cell? ⟨b2, o2 + k * 3, none⟩ = some (.string x.k) ∧ w'.cell? ⟨b2, o2 + k * 3 + 1, none⟩ = some (.int .i64 x.d) ∧ w'.cell? ⟨b2, o2 + k * 3 + 2, none⟩ = some (.slice (B k).1 x.z.length (B k).2) ∧ Below w.heap.size w w')
        (first | (refine keep6 ?_ hb; assumption) | (exact keep6d (unhide hall)))
        (first | (go_at_call 54; refine (eqx_any x.k x.d (A k).1 (B k).1 (A k).2 (B k).2 x.z _ hxl (row6 r1' (by assumption)) (row6 r2' (by assumption))).mono ?_; rintro e w1 ⟨rfl, hb⟩))
      go_wp2
      go_roundw
      rename_i hH
      case rel => exact ⟨k + 1, by omega, by go_num, hH.2.2.2.2.2.2⟩
      case measure => simp [intOf]; omega
    · go_wp2
      go_ret
      exact ⟨rfl, hw⟩
end Go.Proofs.Ytdiamcejpjopgaa
