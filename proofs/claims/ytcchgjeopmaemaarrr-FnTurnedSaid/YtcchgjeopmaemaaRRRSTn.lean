/-
  Contracts of the model's Turn: four numbers turned, a block turned; nothing that was there is written.
-/
import Derived.Test.YtcchgjeopmaemaaRRRAp
import Derived.Test.YtcchgjeopmaemaaRRRBuP
import Derived.Test.YtcchgjeopmaemaaRRRIBf
import Derived.Test.YtcchgjeopmaemaaRRRTnP
import Derived.Deep.RegionLaw
namespace Go.Proofs.YtcchgjeopmaemaaRRR
open Go.RowKit
set_option linter.unusedVariables false
set_option linter.unusedSimpArgs false

theorem ownI_lit4 (w : World) {B : Nat} (a b c d : Int) (hB : B ≤ w.heap.size) : OwnI (w.alloc (.cells #[.int .i64 a, .int .i64 b, .int .i64 c, .int .i64 d] 2)) B w.heap.size 4 4 [a, b, c, d] := by
  have h := World.ownsRow_lit (base := B) (e := 2) (size := 1) w #[.int .i64 a, .int .i64 b, .int .i64 c, .int .i64 d] 4 hB (by unfold maxLen; omega) rfl
  exact h
/-- four numbers turned, as a list -/
def four4 (a b c d : Int) : List Int := [four a b c d 0, four a b c d 1, four a b c d 2, four a b c d 3]
theorem four4_at (a b c d : Int) {r : Nat} (hr : r < 4) : (four4 a b c d)[r]? = some (four a b c d r) := by
  have hc : r = 0 ∨ r = 1 ∨ r = 2 ∨ r = 3 := by omega
  rcases hc with rfl | rfl | rfl | rfl <;> rfl
set_option maxHeartbeats 1600000 in
theorem sfour_any (a b c d : Int) (w : World) (ha : -100000000 ≤ a ∧ a ≤ 100000000) (hb : -100000000 ≤ b ∧ b ≤ 100000000) (hc : -100000000 ≤ c ∧ c ≤ 100000000) (hd : -100000000 ≤ d ∧ d ≤ 100000000) :
    Calls Try.prog 54 #[.int .i64 a, .int .i64 b, .int .i64 c, .int .i64 d] w fun e w' => e = .returned (.slice (some ⟨w.heap.size, 0, none⟩) 4 4) ∧ OwnI w' w.heap.size w.heap.size 4 4 (four4 a b c d) ∧ Below w.heap.size w w' := by
  obtain ⟨a0, a1⟩ := ha
  obtain ⟨b0, b1⟩ := hb
  obtain ⟨c0, c1⟩ := hc
  obtain ⟨d0, d1⟩ := hd
  go_enter Try.func54, Try.ntmps54
  go_wp2
  go_ret
  exact ⟨rfl, ownI_lit4 w _ _ _ _ (Nat.le_refl _), (Below.refl _ _).alloc (Nat.le_refl _) _⟩
theorem keepS {w w0 w1 : World} {a1 a2 a3 a4 : Addr} {v1 v2 v3 v4 : Value}
    (h : w0.cell? a1 = some v1 ∧ w0.cell? a2 = some v2 ∧ w0.cell? a3 = some v3 ∧ w0.cell? a4 = some v4 ∧ Below w.heap.size w w0) (hb : Below w0.heap.size w0 w1) :
    w1.cell? a1 = some v1 ∧ w1.cell? a2 = some v2 ∧ w1.cell? a3 = some v3 ∧ w1.cell? a4 = some v4 ∧ Below w.heap.size w w1 := by
  obtain ⟨h1, h2, h3, h4, h7⟩ := h
  exact ⟨cell_later hb h1, cell_later hb h2, cell_later hb h3, cell_later hb h4, laterB h7 hb⟩
theorem keepSd {w w0 : World} {a1 a2 a3 a4 : Addr} {v1 v2 v3 v4 : Value}
    (h : w0.cell? a1 = some v1 ∧ w0.cell? a2 = some v2 ∧ w0.cell? a3 = some v3 ∧ w0.cell? a4 = some v4 ∧ Below w.heap.size w w0) :
    w0.drew.cell? a1 = some v1 ∧ w0.drew.cell? a2 = some v2 ∧ w0.drew.cell? a3 = some v3 ∧ w0.drew.cell? a4 = some v4 ∧ Below w.heap.size w w0.drew := by
  obtain ⟨h1, h2, h3, h4, h7⟩ := h
  exact ⟨h1, h2, h3, h4, h7.drew⟩

theorem keepB {W w0 w1 : World} {b o1 o2 o3 o4 : Nat} {v1 v2 v3 v4 : Value}
    (h : w0.cell? ⟨b, o1, none⟩ = some v1 ∧ w0.cell? ⟨b, o2, none⟩ = some v2 ∧ w0.cell? ⟨b, o3, none⟩ = some v3 ∧ w0.cell? ⟨b, o4, none⟩ = some v4 ∧ Below W.heap.size W w0) (hb : Below W.heap.size w0 w1) (hW : b < W.heap.size) :
    w1.cell? ⟨b, o1, none⟩ = some v1 ∧ w1.cell? ⟨b, o2, none⟩ = some v2 ∧ w1.cell? ⟨b, o3, none⟩ = some v3 ∧ w1.cell? ⟨b, o4, none⟩ = some v4 ∧ Below W.heap.size W w1 := by
  obtain ⟨h1, h2, h3, h4, h7⟩ := h
  exact ⟨(hb.cell (p := ⟨b, o1, none⟩) hW).trans h1, (hb.cell (p := ⟨b, o2, none⟩) hW).trans h2, (hb.cell (p := ⟨b, o3, none⟩) hW).trans h3, (hb.cell (p := ⟨b, o4, none⟩) hW).trans h4, h7.trans hb⟩
set_option maxHeartbeats 3200000 in
theorem strn_any (a : Option Addr) (cap : Nat) (l : List Int) (w : World) (hn : l.length = 16) (hf : Bdd 20000000 (nth l)) (hk : Ins w a l) :
    Calls Try.prog 34 #[.slice a 16 cap] w (AnI w (fl (trn (nth l)) 16)) := by
  obtain ⟨i0, hi, hz0, hz1, hz2⟩ := info_parts infoI
  have hk' := hide hk
  have hf' := hide hf
  have hn' := hide hn
  have hb0 : Below w.heap.size w (w.alloc (.cells #[] 2)) := (Below.refl _ _).alloc (Nat.le_refl _) _
  have ho0 := hide (ownI_lit0 w (Nat.le_refl w.heap.size))
  have hb0' := hide hb0
  clear hk hf hn hb0
  go_enter Try.func34, Try.ntmps34
  go_wp2
  generalize w.alloc (.cells #[] 2) = W1 at *
  go_loopw [3, 4] (fun s t wr => ∃ (r g c : Nat), r ≤ 4 ∧ t = .int .i64 r ∧ s = .slice (some ⟨g, 0, none⟩) (4 * r) c ∧ w.heap.size ≤ g ∧ Hid (OwnI wr w.heap.size g (4 * r) c (fl (mid (nth l)) (4 * r))) ∧ Hid (Below w.heap.size w wr)) (fun _ t _ => 4 - (intOf t).toNat)
  case atStart => exact ⟨0, _, _, by omega, rfl, rfl, Nat.le_refl _, ho0, hb0'⟩
  case round =>
    clear ho0 hb0'
    obtain ⟨r, g, c, hr, rfl, rfl, hg, ho, hb⟩ := hrel
    have hsz := (unhide hb).size
    by_cases hlt : r < 4
    · have at4 : ∀ j, j < 16 → ∃ b o, a = some ⟨b, o, none⟩ ∧ wr.cell? ⟨b, o + j, none⟩ = some (.int .i64 (nth l j)) ∧ b < w.heap.size := by
        intro j hj
        obtain ⟨b, o, e, h1, c0⟩ := unhide hk' j _ (nth_at (by rw [unhide hn']; exact hj))
        exact ⟨b, o, e, ((bcell (unhide hb)).1 b _ h1).trans c0, h1⟩
      have bd4 : ∀ j, j < 16 → -20000000 ≤ nth l j ∧ nth l j ≤ 20000000 := fun j hj => unhide hf' j hj
      obtain ⟨b, o, rfl, c0, hbw⟩ := at4 (4 * r) (by omega)
      obtain ⟨b', o', e', c1, _⟩ := at4 (4 * r + 1) (by omega)
      injection e' with e'; injection e' with e1 e2; subst e1 e2
      obtain ⟨b', o', e', c2, _⟩ := at4 (4 * r + 2) (by omega)
      injection e' with e'; injection e' with e1 e2; subst e1 e2
      obtain ⟨b', o', e', c3, _⟩ := at4 (4 * r + 3) (by omega)
      injection e' with e'; injection e' with e1 e2; subst e1 e2
      have d0 := bd4 (4 * r) (by omega)
      have d1 := bd4 (4 * r + 1) (by omega)
      have d2 := bd4 (4 * r + 2) (by omega)
      have d3 := bd4 (4 * r + 3) (by omega)
      have hm4 : Hid (fl (mid (nth l)) (4 * r) ++ four4 (nth l (4 * r)) (nth l (4 * r + 1)) (nth l (4 * r + 2)) (nth l (4 * r + 3)) = fl (mid (nth l)) (4 * (r + 1))) := hide (by
        rw [show 4 * (r + 1) = 4 * r + 4 by omega, ← fl_add4]
        have q0 : (4 * r) / 4 = r := by omega
        have q1 : (4 * r + 1) / 4 = r := by omega
        have q2 : (4 * r + 2) / 4 = r := by omega
        have q3 : (4 * r + 3) / 4 = r := by omega
        have p0 : (4 * r) % 4 = 0 := by omega
        have p1 : (4 * r + 1) % 4 = 1 := by omega
        have p2 : (4 * r + 2) % 4 = 2 := by omega
        have p3 : (4 * r + 3) % 4 = 3 := by omega
        unfold mid four4
        rw [q0, q1, q2, q3, p0, p1, p2, p3])
      clear at4 bd4
      generalize nth l (4 * r) = x0 at *
      generalize nth l (4 * r + 1) = x1 at *
      generalize nth l (4 * r + 2) = x2 at *
      generalize nth l (4 * r + 3) = x3 at *
      have t0 : (4 * (r : Int)).toNat = 4 * r := by omega
      have t1 : (4 * (r : Int) + 1).toNat = 4 * r + 1 := by omega
      have t2 : (4 * (r : Int) + 2).toNat = 4 * r + 2 := by omega
      have t3 : (4 * (r : Int) + 3).toNat = 4 * r + 3 := by omega
      have u0 : 4 * (r : Int) < 16 := by omega
      have u1 : 4 * (r : Int) + 1 < 16 := by omega
      have u2 : 4 * (r : Int) + 2 < 16 := by omega
      have u3 : 4 * (r : Int) + 3 < 16 := by omega
      have v0 : 0 ≤ 4 * (r : Int) := by omega
      have v1 : 0 ≤ 4 * (r : Int) + 1 := by omega
      have v2 : 0 ≤ 4 * (r : Int) + 2 := by omega
      have v3 : 0 ≤ 4 * (r : Int) + 3 := by omega
      have m0 : IntKind.i64.wrap (4 * (r : Int)) = 4 * (r : Int) := by rw [IntKind.wrap_i64]; omega
      have m1 : IntKind.i64.wrap (4 * (r : Int) + 1) = 4 * (r : Int) + 1 := by rw [IntKind.wrap_i64]; omega
      have m2 : IntKind.i64.wrap (4 * (r : Int) + 2) = 4 * (r : Int) + 2 := by rw [IntKind.wrap_i64]; omega
      have m3 : IntKind.i64.wrap (4 * (r : Int) + 3) = 4 * (r : Int) + 3 := by rw [IntKind.wrap_i64]; omega
      have hall : Hid (wr.cell? ⟨b, o + 4 * r, none⟩ = some (.int .i64 x0) ∧ wr.cell? ⟨b, o + (4 * r + 1), none⟩ = some (.int .i64 x1) ∧ wr.cell? ⟨b, o + (4 * r + 2), none⟩ = some (.int .i64 x2) ∧ wr.cell? ⟨b, o + (4 * r + 3), none⟩ = some (.int .i64 x3) ∧ Below w.heap.size w wr) := hide ⟨c0, c1, c2, c3, unhide hb⟩
      go_wp2_with fail
      go_region_held3 (fun w' => w'.cell? ⟨b, o + 4 * r, none⟩ = some (.int .i64 x0) ∧ w'.cell? ⟨b, o + (4 * r + 1), none⟩ = some (.int .i64 x1) ∧ w'.cell? ⟨b, o + (4 * r + 2), none⟩ = some (.int .i64 x2) ∧ w'.cell? ⟨b, o + (4 * r + 3), none⟩ = some (.int .i64 x3) ∧ Below w.heap.size w w')
        (first | with_reducible exact hS5 | with_reducible exact hS6 | (exact keepSd (unhide hall)))
        ((first
          | (go_at_call 54
             refine (sfour_any x0 x1 x2 x3 _ (by omega) (by omega) (by omega) (by omega)).mono ?_
             rintro e w5 ⟨rfl, oE, hb5⟩
             have hS5 := keepS (keepSd (unhide hall)) hb5
             have hox := hide (ownsRow_below (w := wr.drew) (unhide ho) hb5)
             have hoE := hide (own_mono oE (Nat.zero_le _))
             have hsz5 : w.heap.size ≤ w5.heap.size := hS5.2.2.2.2.size
             clear oE hb5)
          | (refine step_iL w5 (by rfl) _ _ (by rfl) w.heap.size g (4 * r) c _ _ 4 4 _ (by rfl) (unhide hox) (by rfl) (unhide hoE) (by omega) (by omega) hsz5 ?_
             intro g' cap' w' h1 h2 h3
             have hS6 := keepB hS5 h2 hbw)))
      have hS7 := hS6.2.2.2.2
      have ho2 := hide (show OwnI w' w.heap.size g' (4 * (r + 1)) cap' (fl (mid (nth l)) (4 * (r + 1))) by have := h1; rw [unhide hm4] at this; exact this)
      have hb2 := hide hS7
      clear hS5 hS6 hS7 h1 h2 ho hb hox hoE c0 c1 c2 c3 hall
      go_wp2
      go_roundw
      case rel => exact ⟨r + 1, g', cap', by omega, by go_num, rfl, h3, ho2, hb2⟩
      case measure => simp [intOf]; omega
    · have hre : r = 4 := by omega
      subst hre
      have hoM : Hid (OwnI wr w.heap.size g 16 c (fl (mid (nth l)) 16)) := ho
      clear ho
      have gl : g < wr.heap.size := own_lt (unhide hoM)
      go_wp2_with (refine wpList_make_full _ rfl _ _ 24 rfl w.heap.size 2 i0 (.int .i64 0) 1 Try.underlying24 hi hz0 hz1 .i64 .i64 _ _ 16 rfl rfl rfl rfl ?b2 ?b3 hsz ?_)
      case b2 => rw [hz2]; omega
      case b3 => unfold maxLen; omega
      intro w1 hown hg1
      have hb1 := hide ((unhide hb).grown hg1 hsz (fun k hk => by cases hk))
      have hoM1 := hide (ownsRow_below (unhide hoM) ((Below.refl wr.heap.size wr).grown hg1 (Nat.le_refl _) (fun k hk => by cases hk)))
      have hoO : Hid (OwnI w1 w.heap.size wr.heap.size 16 16 (fl (colK (nth l) 0 0) 16)) := hide (by
        have e : (fl (colK (nth l) 0 0) 16).map iv = (madeCells #[.int .i64 0] 16).toList := by rw [made_I, fl_eq (g := fun _ => 0) (fun i _ => colK_zero _ i), fl_rep]
        show World.ownsRow _ _ _ _ _ _ _
        rw [e]; exact hown)
      clear hown hg1 hb hoM
      generalize hGO : wr.heap.size = GO at *
      have gw : w.heap.size ≤ GO := by omega
      clear hGO
      rename World => wa
      go_wp2
      go_loopw [6] (fun t ws => ∃ (k : Nat), k ≤ 4 ∧ t = .int .i64 k ∧ Hid (OwnI ws w.heap.size g 16 c (fl (mid (nth l)) 16)) ∧ Hid (OwnI ws w.heap.size GO 16 16 (fl (colK (nth l) k 0) 16)) ∧ Hid (Below w.heap.size w ws)) (fun t _ => 4 - (intOf t).toNat)
      case atStart => exact ⟨0, by omega, rfl, hoM1, hoO, hb1⟩
      case round =>
        clear hoM1 hoO hb1
        obtain ⟨k, hk, rfl, hoM, hoO, hb⟩ := hrel
        by_cases hlk : k < 4
        · have c0 := ownI_at (fl_at (mid (nth l)) (show k < 16 by omega)) (unhide hoM)
          have c1 := ownI_at (fl_at (mid (nth l)) (show k + 4 < 16 by omega)) (unhide hoM)
          have c2 := ownI_at (fl_at (mid (nth l)) (show k + 8 < 16 by omega)) (unhide hoM)
          have c3 := ownI_at (fl_at (mid (nth l)) (show k + 12 < 16 by omega)) (unhide hoM)
          have d0 := mid_bd (unhide hf') k (by omega)
          have d1 := mid_bd (unhide hf') (k + 4) (by omega)
          have d2 := mid_bd (unhide hf') (k + 8) (by omega)
          have d3 := mid_bd (unhide hf') (k + 12) (by omega)
          have hput := hide (fun r (hr : r < 4) i (hi : i < 16) => colK_put (nth l) k r hlk hr i hi)
          generalize mid (nth l) k = x0 at *
          generalize mid (nth l) (k + 4) = x1 at *
          generalize mid (nth l) (k + 8) = x2 at *
          generalize mid (nth l) (k + 12) = x3 at *
          have t1 : ((k : Int) + 4).toNat = k + 4 := by omega
          have t2 : ((k : Int) + 8).toNat = k + 8 := by omega
          have t3 : ((k : Int) + 12).toNat = k + 12 := by omega
          have u0 : (k : Int) < 16 := by omega
          have u1 : (k : Int) + 4 < 16 := by omega
          have u2 : (k : Int) + 8 < 16 := by omega
          have u3 : (k : Int) + 12 < 16 := by omega
          have v0 : 0 ≤ (k : Int) := by omega
          have v1 : 0 ≤ (k : Int) + 4 := by omega
          have v2 : 0 ≤ (k : Int) + 8 := by omega
          have v3 : 0 ≤ (k : Int) + 12 := by omega
          have m1 : IntKind.i64.wrap ((k : Int) + 4) = (k : Int) + 4 := by rw [IntKind.wrap_i64]; omega
          have m2 : IntKind.i64.wrap ((k : Int) + 8) = (k : Int) + 8 := by rw [IntKind.wrap_i64]; omega
          have m3 : IntKind.i64.wrap ((k : Int) + 12) = (k : Int) + 12 := by rw [IntKind.wrap_i64]; omega
          have hall : Hid (wr.cell? ⟨g, k, none⟩ = some (.int .i64 x0) ∧ wr.cell? ⟨g, k + 4, none⟩ = some (.int .i64 x1) ∧ wr.cell? ⟨g, k + 8, none⟩ = some (.int .i64 x2) ∧ wr.cell? ⟨g, k + 12, none⟩ = some (.int .i64 x3) ∧ Below wr.heap.size wr wr) := hide ⟨c0, c1, c2, c3, Below.refl _ _⟩
          have gOl : GO < wr.heap.size := own_lt (unhide hoO)
          go_wp2_with fail
          go_region_held3 (fun w' => w'.cell? ⟨g, k, none⟩ = some (.int .i64 x0) ∧ w'.cell? ⟨g, k + 4, none⟩ = some (.int .i64 x1) ∧ w'.cell? ⟨g, k + 8, none⟩ = some (.int .i64 x2) ∧ w'.cell? ⟨g, k + 12, none⟩ = some (.int .i64 x3) ∧ Below wr.heap.size wr w')
            (first | with_reducible exact hS5 | (exact keepSd (unhide hall)))
            ((go_at_call 54
              refine (sfour_any x0 x1 x2 x3 _ (by omega) (by omega) (by omega) (by omega)).mono ?_
              rintro e w5 ⟨rfl, oE, hb5⟩
              have hS5 := keepS (keepSd (unhide hall)) hb5
              have hoE := hide (own_mono oE (Nat.zero_le _))
              clear oE hb5))
          have hbx := hS5.2.2.2.2
          have hoM := hide (ownsRow_below (unhide hoM) hbx)
          have hoO := hide (ownsRow_below (unhide hoO) hbx)
          have hb := hide (laterB (unhide hb) hbx)
          have hoE : Hid (OwnI w5 0 wr.heap.size 4 4 (four4 x0 x1 x2 x3)) := hoE
          clear hS5 hbx c0 c1 c2 c3 hall d0 d1 d2 d3
          generalize hGE : wr.heap.size = GE at *
          clear hGE
          rename_i _ hHeld
          clear hHeld
          go_wp2
          go_loopw [8] (fun t ws => ∃ (r : Nat), r ≤ 4 ∧ t = .int .i64 r ∧ Hid (OwnI ws w.heap.size g 16 c (fl (mid (nth l)) 16)) ∧ Hid (OwnI ws w.heap.size GO 16 16 (fl (colK (nth l) k r) 16)) ∧ Hid (OwnI ws 0 GE 4 4 (four4 x0 x1 x2 x3)) ∧ Hid (Below w.heap.size w ws)) (fun t _ => 4 - (intOf t).toNat)
          case atStart => exact ⟨0, by omega, rfl, hoM, hoO, hoE, hb⟩
          case round =>
            clear hoM hoO hoE hb
            obtain ⟨r, hr, rfl, hoM, hoO, hoE, hb⟩ := hrel
            by_cases hlr : r < 4
            · have e0 := ownI_at (four4_at x0 x1 x2 x3 hlr) (unhide hoE)
              have e1 := ownI_at (fl_at (colK (nth l) k r) (show 4 * r + k < 16 by omega)) (unhide hoO)
              have e2 := (unhide hoO).frozenAt (4 * r + k)
              have hoO2 := hide (show OwnI (wr.setCell ⟨GO, 4 * r + k, none⟩ (.int .i64 (four x0 x1 x2 x3 r))) w.heap.size GO 16 16 (fl (colK (nth l) k (r + 1)) 16) by
                have := ownI_put (4 * r + k) (four x0 x1 x2 x3 r) (unhide hoO)
                rw [fl_set, fl_eq (unhide hput r hlr)] at this
                exact this)
              have gr : wr.grownBy (wr.setCell ⟨GO, 4 * r + k, none⟩ (.int .i64 (four x0 x1 x2 x3 r))) (some GO) := grown_set (grown_refl _ _)
              have hoM2 := hide (own_kept (unhide hoM) gr (by omega))
              have hoE2 := hide (own_kept (unhide hoE) gr (by omega))
              have hb2 := hide (below_grown (unhide hb) gr gw)
              have ht : (4 * (r : Int) + (k : Int)).toNat = 4 * r + k := by omega
              clear gr hoO hoM hoE hb
              generalize four x0 x1 x2 x3 r = y at *
              generalize colK (nth l) k r (4 * r + k) = z at *
              go_wp2
              go_roundw
              case rel => exact ⟨r + 1, by omega, by go_num, hoM2, hoO2, hoE2, hb2⟩
              case measure => simp [intOf]; omega
            · have hre : r = 4 := by omega
              subst hre
              have hoO := hide (show OwnI wr w.heap.size GO 16 16 (fl (colK (nth l) (k + 1) 0) 16) by rw [← fl_eq (fun i hi => colK_row (nth l) k i hi)]; exact unhide hoO)
              go_wp2
              go_roundw
              case rel => exact ⟨k + 1, by omega, by go_num, hoM, hoO, hb⟩
              case measure => simp [intOf]; omega
        · have hke : k = 4 := by omega
          subst hke
          have hoO := hide (show OwnI wr w.heap.size GO 16 16 (fl (trn (nth l)) 16) by rw [← fl_eq (fun i hi => colK_end (nth l) i hi)]; exact unhide hoO)
          go_wp2
          go_ret
          exact AnI.mk (fl_len _ _) gw (unhide hoO) (unhide hb)

end Go.Proofs.YtcchgjeopmaemaaRRR
