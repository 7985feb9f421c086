/-
  The program's text of a time: its contract; nothing that was there is written.
-/
import Derived.Test.YtcpllfjhhlbmiaaDoorShA
namespace Go.Proofs.YtcpllfjhhlbmiaaDoor
open Go.RowKit
set_option linter.unusedVariables false
set_option linter.unusedSimpArgs false

theorem own_heap {X Y : World} {B n m : Nat} {e : TypeId} {v : Value} {xs : List Value} (h : Y.heap = X.heap) (ho : X.ownsRow B e m v n xs) : Y.ownsRow B e m v n xs := by
  obtain ⟨h1, h2⟩ := ho
  refine ⟨h1, ?_⟩
  rcases h2 with h2 | ⟨g, cap, cur, hv, hg, hh, r⟩
  · exact Or.inl h2
  · exact Or.inr ⟨g, cap, cur, hv, hg, by rw [h]; exact hh, r⟩
theorem row_app {w : World} {B : Nat} {v : Value} {L l : List UInt8} {s : ByteArray} (hs : (⟨l.toArray⟩ : ByteArray) = s) (h : w.ownsRow B 5 1 v (L.length + s.size) (L.map bv ++ Lib.strCells s)) : w.ownsRow B 5 1 v (L ++ l).length ((L ++ l).map bv) := by
  subst hs
  rw [List.length_append, List.map_append]
  exact h
theorem conv_own {w : World} {B : Nat} {v : Value} {L : List UInt8} (h : w.ownsRow B 5 1 v L.length (L.map bv)) : (convert 22 9 v).run Tryd.prog w = .ok (.string ⟨L.toArray⟩) w := by
  rcases Joins.ownsRow_forms h with ⟨rfl, h0⟩ | ⟨g, cp, rfl⟩
  · obtain rfl : L = [] := List.eq_nil_of_length_eq_zero h0
    exact run_convert_bytes_nil (P := Tryd.prog) w 22 5 Tryd.underlying22 Tryd.underlying5 0 0 9 Tryd.underlying9
  · have hcells := h.cells (g := g) rfl
    exact run_convert_bytes_back (P := Tryd.prog) w 22 9 5 ⟨g, 0, none⟩ cp _ Tryd.underlying22 Tryd.underlying5 Tryd.underlying9 (fun j hj => hcells j _ (by simp [bv, hj]))
theorem ownB_lit0 (w : World) {B : Nat} (hB : B ≤ w.heap.size) : (w.alloc (.cells #[] 5)).ownsRow B 5 1 (.slice (some ⟨w.heap.size, 0, none⟩) 0 0) 0 [] := by
  have h := World.ownsRow_lit (base := B) (e := 5) (size := 1) w #[] 0 hB (by unfold maxLen; omega) rfl
  exact h

set_option maxRecDepth 100000 in
set_option maxHeartbeats 6400000 in
theorem imil_any (n : Nat) (w : World) (hn : n ≤ 1000000000000) :
    Calls Tryd.prog 23 #[.int .i64 n] w fun e w' => e = .returned (.string ⟨(mt n).toArray⟩) ∧ Below w.heap.size w w' := by
  obtain ⟨ib, hi, hz0, hz1, hz2⟩ := info_parts infoB
  obtain ⟨i0, i1, i2, i3⟩ := ixF
  have oA := hide (ownB_lit0 w (Nat.le_refl w.heap.size))
  have kA := hide ((Below.refl w.heap.size w).alloc (Nat.le_refl _) (.cells #[] 5))
  go_enter Tryd.func23, Tryd.ntmps23
  go_wp2_with fail
  refine (flds_any _).mono ?_
  rintro e w1 ⟨rfl, k1⟩
  have o1 := hide (show w1.ownsRow w.heap.size 5 1 (.slice (some ⟨w.heap.size, 0, none⟩) 0 0) (px n 0).length ((px n 0).map bv) from ownsRow_below (unhide oA) k1)
  have b1 := hide (laterB (unhide kA) k1)
  clear k1 oA kA
  go_wp2
  go_loopw [0, 3, 8] (fun m v t wr => ∃ k : Nat, k ≤ 4 ∧ t = .int .i64 k ∧ m = .int .i64 (rm n k) ∧ Hid (wr.ownsRow w.heap.size 5 1 v (px n k).length ((px n k).map bv)) ∧ Hid (Below w.heap.size w wr)) (fun _ _ t _ => 4 - (intOf t).toNat)
  case atStart => exact ⟨0, by omega, rfl, rfl, o1, b1⟩
  case round =>
    clear o1 b1
    obtain ⟨k, hk, rfl, rfl, ho, hb⟩ := hrel
    have hs0 := (unhide hb).size
    obtain rfl | rfl | rfl | rfl | rfl : k = 0 ∨ k = 1 ∨ k = 2 ∨ k = 3 ∨ k = 4 := by omega
    · have ix := i0
      clear i0 i1 i2 i3
      have hO := hide (show Okk wr wr from okk_refl _)
      have hle : (px n 0).length ≤ 12 := px_len n 0
      have hpx := hide (show px n 0 ++ Pl.two (rm n 0 / 3600000) ++ [58] = px n 1 by simp only [px, rm, List.nil_append])
      have hrm := hide (show ((rm n 0 : Int) % 3600000) = (rm n 1 : Int) by simp only [rm]; omega)
      have hrb : rm n 0 ≤ 1000000000000 := by show n ≤ _; omega
      generalize px n 0 = P at *
      generalize rm n 0 = r at *
      have hrb2 : r / 3600000 ≤ 1000000000000 := Nat.le_trans (Nat.div_le_self _ _) hrb
      have cA : Hid (∀ X : World, w.heap.size ≤ X.heap.size → X.ownsRow w.heap.size 5 1 u3 P.length (P.map bv) → Calls Tryd.prog 49 #[u3, .int .i64 ((r : Int) / 3600000), .int .i64 2] X fun e w' => ∃ v', e = .returned v' ∧ w'.ownsRow w.heap.size 5 1 v' (P ++ Pl.two (r / 3600000)).length ((P ++ Pl.two (r / 3600000)).map bv) ∧ Below w.heap.size X w' ∧ Okk X w') := hide (fun X h1 h2 => by
        have := iapp2 w.heap.size u3 P (r / 3600000) X h1 h2 (by omega) hrb2
        rw [show ((r / 3600000 : Nat) : Int) = (r : Int) / 3600000 by omega] at this
        exact this)
      have tq : IntKind.i64.wrap ((r : Int) / 3600000) = (r : Int) / 3600000 := by rw [IntKind.wrap_i64]; omega
      have hdl : (P ++ Pl.two (r / 3600000)).length = P.length + 2 := by simp [Pl.two]
      generalize Pl.two (r / 3600000) = D at *
      generalize P ++ D = E at *
      have hdl' := hide hdl
      clear hdl
      go_wp2_with fail
      have W0 := alloc_new wr (.cells #[.int .i64 3600000, .int .i64 2, .string ⟨#[58]⟩] 80)
      have B0 := hide (show Below w.heap.size w (wr.alloc (.cells #[.int .i64 3600000, .int .i64 2, .string ⟨#[58]⟩] 80)) from (unhide hb).alloc hs0 _)
      have O0 := hide ((unhide ho).alloc (.cells #[.int .i64 3600000, .int .i64 2, .string ⟨#[58]⟩] 80))
      have z0 : w.heap.size ≤ (wr.alloc (.cells #[.int .i64 3600000, .int .i64 2, .string ⟨#[58]⟩] 80)).heap.size := (unhide B0).size
      generalize wr.alloc (.cells #[.int .i64 3600000, .int .i64 2, .string ⟨#[58]⟩] 80) = X at *
      generalize wr.heap.size = q at *
      clear hb ho ix hO
      have hall := hide W0
      clear W0
      have hallD : Hid (X.drew.heap[q]? = some (.cells #[.int .i64 3600000, .int .i64 2, .string ⟨#[58]⟩] 80 (0, 0))) := hide (unhide hall)
      have BD : Hid (Below w.heap.size w X.drew) := hide (unhide B0).drew
      have cA2 := hide (unhide cA X.drew z0 (own_heap rfl (unhide O0)))
      go_region_held3 (fun w' => w'.cell? ⟨q, 0, none⟩ = some (.int .i64 3600000) ∧ w'.cell? ⟨q, 1, none⟩ = some (.int .i64 2) ∧ w'.cell? ⟨q, 2, none⟩ = some (.string ⟨#[58]⟩))
        (first | (exact blk3 (unhide W4)) | (exact blk3 (unhide hallD)))
        ((go_at_call 49; with_reducible refine (unhide cA2).mono ?_; rintro e w4 ⟨v4, rfl, n4, b4, hok⟩; have O4 := hide n4; have B4 : Hid (Below w.heap.size w w4) := hide ((unhide BD).trans b4); have W4 : Hid (w4.heap[q]? = some (.cells #[.int .i64 3600000, .int .i64 2, .string ⟨#[58]⟩] 80 (0, 0))) := hide (okk_blk hok (unhide hallD) (by decide)); clear n4 b4))
      rename_i hH
      obtain ⟨c0, c1, c2⟩ := hH
      have s4 := (unhide B4).size
      go_wp2_with (at_builtin; refine Lib.wpList_append_own_string _ rfl _ _ 22 9 rfl w.heap.size 5 ib Tryd.underlying22 Tryd.underlying9 hi hz0 hz1 hz2 _ _ _ rfl (unhide O4) ⟨#[58]⟩ rfl ?_ ?_ s4 ?_)
      · have := unhide hdl'; simp [ByteArray.size]; unfold maxLen; omega
      · have := unhide hdl'; simp [ByteArray.size]; omega
      intro v5 w5 n5 g5 _
      have O5 := hide (row_app (l := [58]) rfl n5)
      have B5 := hide ((unhide B4).grown g5 s4 (fun k hk => ((unhide O4).lt k hk).1))
      obtain ⟨d0, d1, d2⟩ := blk3 (okk_blk (okk_grown (unhide O4) g5) (unhide W4) (by decide))
      have O6 := hide (show w5.ownsRow w.heap.size 5 1 v5 (px n 1).length ((px n 1).map bv) by rw [← unhide hpx]; exact unhide O5)
      clear n5 g5 O4 O5 B4 W4 c0 c1 c2 hall hallD BD O0 B0 cA cA2
      go_wp2
      go_roundw
      case rel => exact ⟨1, by omega, rfl, by rw [← unhide hrm], O6, B5⟩
      case measure => simp [intOf]
    · have ix := i1
      clear i0 i1 i2 i3
      have hO := hide (show Okk wr wr from okk_refl _)
      have hle : (px n 1).length ≤ 12 := px_len n 1
      have hpx := hide (show px n 1 ++ Pl.two (rm n 1 / 60000) ++ [58] = px n 2 by simp only [px, rm, List.nil_append])
      have hrm := hide (show ((rm n 1 : Int) % 60000) = (rm n 2 : Int) by simp only [rm]; omega)
      have hrb : rm n 1 ≤ 1000000000000 := by simp only [rm]; omega
      generalize px n 1 = P at *
      generalize rm n 1 = r at *
      have hrb2 : r / 60000 ≤ 1000000000000 := Nat.le_trans (Nat.div_le_self _ _) hrb
      have cA : Hid (∀ X : World, w.heap.size ≤ X.heap.size → X.ownsRow w.heap.size 5 1 u3 P.length (P.map bv) → Calls Tryd.prog 49 #[u3, .int .i64 ((r : Int) / 60000), .int .i64 2] X fun e w' => ∃ v', e = .returned v' ∧ w'.ownsRow w.heap.size 5 1 v' (P ++ Pl.two (r / 60000)).length ((P ++ Pl.two (r / 60000)).map bv) ∧ Below w.heap.size X w' ∧ Okk X w') := hide (fun X h1 h2 => by
        have := iapp2 w.heap.size u3 P (r / 60000) X h1 h2 (by omega) hrb2
        rw [show ((r / 60000 : Nat) : Int) = (r : Int) / 60000 by omega] at this
        exact this)
      have tq : IntKind.i64.wrap ((r : Int) / 60000) = (r : Int) / 60000 := by rw [IntKind.wrap_i64]; omega
      have hdl : (P ++ Pl.two (r / 60000)).length = P.length + 2 := by simp [Pl.two]
      generalize Pl.two (r / 60000) = D at *
      generalize P ++ D = E at *
      have hdl' := hide hdl
      clear hdl
      go_wp2_with fail
      have W0 := alloc_new wr (.cells #[.int .i64 60000, .int .i64 2, .string ⟨#[58]⟩] 80)
      have B0 := hide (show Below w.heap.size w (wr.alloc (.cells #[.int .i64 60000, .int .i64 2, .string ⟨#[58]⟩] 80)) from (unhide hb).alloc hs0 _)
      have O0 := hide ((unhide ho).alloc (.cells #[.int .i64 60000, .int .i64 2, .string ⟨#[58]⟩] 80))
      have z0 : w.heap.size ≤ (wr.alloc (.cells #[.int .i64 60000, .int .i64 2, .string ⟨#[58]⟩] 80)).heap.size := (unhide B0).size
      generalize wr.alloc (.cells #[.int .i64 60000, .int .i64 2, .string ⟨#[58]⟩] 80) = X at *
      generalize wr.heap.size = q at *
      clear hb ho ix hO
      have hall := hide W0
      clear W0
      have hallD : Hid (X.drew.heap[q]? = some (.cells #[.int .i64 60000, .int .i64 2, .string ⟨#[58]⟩] 80 (0, 0))) := hide (unhide hall)
      have BD : Hid (Below w.heap.size w X.drew) := hide (unhide B0).drew
      have cA2 := hide (unhide cA X.drew z0 (own_heap rfl (unhide O0)))
      go_region_held3 (fun w' => w'.cell? ⟨q, 0, none⟩ = some (.int .i64 60000) ∧ w'.cell? ⟨q, 1, none⟩ = some (.int .i64 2) ∧ w'.cell? ⟨q, 2, none⟩ = some (.string ⟨#[58]⟩))
        (first | (exact blk3 (unhide W4)) | (exact blk3 (unhide hallD)))
        ((go_at_call 49; with_reducible refine (unhide cA2).mono ?_; rintro e w4 ⟨v4, rfl, n4, b4, hok⟩; have O4 := hide n4; have B4 : Hid (Below w.heap.size w w4) := hide ((unhide BD).trans b4); have W4 : Hid (w4.heap[q]? = some (.cells #[.int .i64 60000, .int .i64 2, .string ⟨#[58]⟩] 80 (0, 0))) := hide (okk_blk hok (unhide hallD) (by decide)); clear n4 b4))
      rename_i hH
      obtain ⟨c0, c1, c2⟩ := hH
      have s4 := (unhide B4).size
      go_wp2_with (at_builtin; refine Lib.wpList_append_own_string _ rfl _ _ 22 9 rfl w.heap.size 5 ib Tryd.underlying22 Tryd.underlying9 hi hz0 hz1 hz2 _ _ _ rfl (unhide O4) ⟨#[58]⟩ rfl ?_ ?_ s4 ?_)
      · have := unhide hdl'; simp [ByteArray.size]; unfold maxLen; omega
      · have := unhide hdl'; simp [ByteArray.size]; omega
      intro v5 w5 n5 g5 _
      have O5 := hide (row_app (l := [58]) rfl n5)
      have B5 := hide ((unhide B4).grown g5 s4 (fun k hk => ((unhide O4).lt k hk).1))
      obtain ⟨d0, d1, d2⟩ := blk3 (okk_blk (okk_grown (unhide O4) g5) (unhide W4) (by decide))
      have O6 := hide (show w5.ownsRow w.heap.size 5 1 v5 (px n 2).length ((px n 2).map bv) by rw [← unhide hpx]; exact unhide O5)
      clear n5 g5 O4 O5 B4 W4 c0 c1 c2 hall hallD BD O0 B0 cA cA2
      go_wp2
      go_roundw
      case rel => exact ⟨2, by omega, rfl, by rw [← unhide hrm], O6, B5⟩
      case measure => simp [intOf]
    · have ix := i2
      clear i0 i1 i2 i3
      have hO := hide (show Okk wr wr from okk_refl _)
      have hle : (px n 2).length ≤ 12 := px_len n 2
      have hpx := hide (show px n 2 ++ Pl.two (rm n 2 / 1000) ++ [44] = px n 3 by simp only [px, rm, List.nil_append])
      have hrm := hide (show ((rm n 2 : Int) % 1000) = (rm n 3 : Int) by simp only [rm]; omega)
      have hrb : rm n 2 ≤ 1000000000000 := by simp only [rm]; omega
      generalize px n 2 = P at *
      generalize rm n 2 = r at *
      have hrb2 : r / 1000 ≤ 1000000000000 := Nat.le_trans (Nat.div_le_self _ _) hrb
      have cA : Hid (∀ X : World, w.heap.size ≤ X.heap.size → X.ownsRow w.heap.size 5 1 u3 P.length (P.map bv) → Calls Tryd.prog 49 #[u3, .int .i64 ((r : Int) / 1000), .int .i64 2] X fun e w' => ∃ v', e = .returned v' ∧ w'.ownsRow w.heap.size 5 1 v' (P ++ Pl.two (r / 1000)).length ((P ++ Pl.two (r / 1000)).map bv) ∧ Below w.heap.size X w' ∧ Okk X w') := hide (fun X h1 h2 => by
        have := iapp2 w.heap.size u3 P (r / 1000) X h1 h2 (by omega) hrb2
        rw [show ((r / 1000 : Nat) : Int) = (r : Int) / 1000 by omega] at this
        exact this)
      have tq : IntKind.i64.wrap ((r : Int) / 1000) = (r : Int) / 1000 := by rw [IntKind.wrap_i64]; omega
      have hdl : (P ++ Pl.two (r / 1000)).length = P.length + 2 := by simp [Pl.two]
      generalize Pl.two (r / 1000) = D at *
      generalize P ++ D = E at *
      have hdl' := hide hdl
      clear hdl
      go_wp2_with fail
      have W0 := alloc_new wr (.cells #[.int .i64 1000, .int .i64 2, .string ⟨#[44]⟩] 80)
      have B0 := hide (show Below w.heap.size w (wr.alloc (.cells #[.int .i64 1000, .int .i64 2, .string ⟨#[44]⟩] 80)) from (unhide hb).alloc hs0 _)
      have O0 := hide ((unhide ho).alloc (.cells #[.int .i64 1000, .int .i64 2, .string ⟨#[44]⟩] 80))
      have z0 : w.heap.size ≤ (wr.alloc (.cells #[.int .i64 1000, .int .i64 2, .string ⟨#[44]⟩] 80)).heap.size := (unhide B0).size
      generalize wr.alloc (.cells #[.int .i64 1000, .int .i64 2, .string ⟨#[44]⟩] 80) = X at *
      generalize wr.heap.size = q at *
      clear hb ho ix hO
      have hall := hide W0
      clear W0
      have hallD : Hid (X.drew.heap[q]? = some (.cells #[.int .i64 1000, .int .i64 2, .string ⟨#[44]⟩] 80 (0, 0))) := hide (unhide hall)
      have BD : Hid (Below w.heap.size w X.drew) := hide (unhide B0).drew
      have cA2 := hide (unhide cA X.drew z0 (own_heap rfl (unhide O0)))
      go_region_held3 (fun w' => w'.cell? ⟨q, 0, none⟩ = some (.int .i64 1000) ∧ w'.cell? ⟨q, 1, none⟩ = some (.int .i64 2) ∧ w'.cell? ⟨q, 2, none⟩ = some (.string ⟨#[44]⟩))
        (first | (exact blk3 (unhide W4)) | (exact blk3 (unhide hallD)))
        ((go_at_call 49; with_reducible refine (unhide cA2).mono ?_; rintro e w4 ⟨v4, rfl, n4, b4, hok⟩; have O4 := hide n4; have B4 : Hid (Below w.heap.size w w4) := hide ((unhide BD).trans b4); have W4 : Hid (w4.heap[q]? = some (.cells #[.int .i64 1000, .int .i64 2, .string ⟨#[44]⟩] 80 (0, 0))) := hide (okk_blk hok (unhide hallD) (by decide)); clear n4 b4))
      rename_i hH
      obtain ⟨c0, c1, c2⟩ := hH
      have s4 := (unhide B4).size
      go_wp2_with (at_builtin; refine Lib.wpList_append_own_string _ rfl _ _ 22 9 rfl w.heap.size 5 ib Tryd.underlying22 Tryd.underlying9 hi hz0 hz1 hz2 _ _ _ rfl (unhide O4) ⟨#[44]⟩ rfl ?_ ?_ s4 ?_)
      · have := unhide hdl'; simp [ByteArray.size]; unfold maxLen; omega
      · have := unhide hdl'; simp [ByteArray.size]; omega
      intro v5 w5 n5 g5 _
      have O5 := hide (row_app (l := [44]) rfl n5)
      have B5 := hide ((unhide B4).grown g5 s4 (fun k hk => ((unhide O4).lt k hk).1))
      obtain ⟨d0, d1, d2⟩ := blk3 (okk_blk (okk_grown (unhide O4) g5) (unhide W4) (by decide))
      have O6 := hide (show w5.ownsRow w.heap.size 5 1 v5 (px n 3).length ((px n 3).map bv) by rw [← unhide hpx]; exact unhide O5)
      clear n5 g5 O4 O5 B4 W4 c0 c1 c2 hall hallD BD O0 B0 cA cA2
      go_wp2
      go_roundw
      case rel => exact ⟨3, by omega, rfl, by rw [← unhide hrm], O6, B5⟩
      case measure => simp [intOf]
    · have ix := i3
      clear i0 i1 i2 i3
      have hO := hide (show Okk wr wr from okk_refl _)
      have hle : (px n 3).length ≤ 12 := px_len n 3
      have hpx := hide (show px n 3 ++ Pl.three (rm n 3 / 1) ++ [] = px n 4 by rw [List.append_nil, Nat.div_one]; exact px_end n)
      have hrm := hide (show ((rm n 3 : Int) % 1) = (rm n 4 : Int) by simp only [rm]; omega)
      have hrb : rm n 3 ≤ 1000000000000 := by simp only [rm]; omega
      generalize px n 3 = P at *
      generalize rm n 3 = r at *
      have hrb2 : r / 1 ≤ 1000000000000 := Nat.le_trans (Nat.div_le_self _ _) hrb
      have cA : Hid (∀ X : World, w.heap.size ≤ X.heap.size → X.ownsRow w.heap.size 5 1 u3 P.length (P.map bv) → Calls Tryd.prog 49 #[u3, .int .i64 ((r : Int)), .int .i64 3] X fun e w' => ∃ v', e = .returned v' ∧ w'.ownsRow w.heap.size 5 1 v' (P ++ Pl.three (r / 1)).length ((P ++ Pl.three (r / 1)).map bv) ∧ Below w.heap.size X w' ∧ Okk X w') := hide (fun X h1 h2 => by
        have := iapp3 w.heap.size u3 P (r / 1) X h1 h2 (by omega) hrb2
        rw [show ((r / 1 : Nat) : Int) = (r : Int) by omega] at this
        exact this)
      have tq : IntKind.i64.wrap ((r : Int)) = (r : Int) := by rw [IntKind.wrap_i64]; omega
      have hdl : (P ++ Pl.three (r / 1)).length = P.length + 3 := by simp [Pl.three]
      generalize Pl.three (r / 1) = D at *
      generalize P ++ D = E at *
      have hdl' := hide hdl
      clear hdl
      go_wp2_with fail
      have W0 := alloc_new wr (.cells #[.int .i64 1, .int .i64 3, .string ⟨#[]⟩] 80)
      have B0 := hide (show Below w.heap.size w (wr.alloc (.cells #[.int .i64 1, .int .i64 3, .string ⟨#[]⟩] 80)) from (unhide hb).alloc hs0 _)
      have O0 := hide ((unhide ho).alloc (.cells #[.int .i64 1, .int .i64 3, .string ⟨#[]⟩] 80))
      have z0 : w.heap.size ≤ (wr.alloc (.cells #[.int .i64 1, .int .i64 3, .string ⟨#[]⟩] 80)).heap.size := (unhide B0).size
      generalize wr.alloc (.cells #[.int .i64 1, .int .i64 3, .string ⟨#[]⟩] 80) = X at *
      generalize wr.heap.size = q at *
      clear hb ho ix hO
      have hall := hide W0
      clear W0
      have hallD : Hid (X.drew.heap[q]? = some (.cells #[.int .i64 1, .int .i64 3, .string ⟨#[]⟩] 80 (0, 0))) := hide (unhide hall)
      have BD : Hid (Below w.heap.size w X.drew) := hide (unhide B0).drew
      have cA2 := hide (unhide cA X.drew z0 (own_heap rfl (unhide O0)))
      go_region_held3 (fun w' => w'.cell? ⟨q, 0, none⟩ = some (.int .i64 1) ∧ w'.cell? ⟨q, 1, none⟩ = some (.int .i64 3) ∧ w'.cell? ⟨q, 2, none⟩ = some (.string ⟨#[]⟩))
        (first | (exact blk3 (unhide W4)) | (exact blk3 (unhide hallD)))
        ((go_at_call 49; with_reducible refine (unhide cA2).mono ?_; rintro e w4 ⟨v4, rfl, n4, b4, hok⟩; have O4 := hide n4; have B4 : Hid (Below w.heap.size w w4) := hide ((unhide BD).trans b4); have W4 : Hid (w4.heap[q]? = some (.cells #[.int .i64 1, .int .i64 3, .string ⟨#[]⟩] 80 (0, 0))) := hide (okk_blk hok (unhide hallD) (by decide)); clear n4 b4))
      rename_i hH
      obtain ⟨c0, c1, c2⟩ := hH
      have s4 := (unhide B4).size
      go_wp2_with (at_builtin; refine Lib.wpList_append_own_string _ rfl _ _ 22 9 rfl w.heap.size 5 ib Tryd.underlying22 Tryd.underlying9 hi hz0 hz1 hz2 _ _ _ rfl (unhide O4) ⟨#[]⟩ rfl ?_ ?_ s4 ?_)
      · have := unhide hdl'; simp [ByteArray.size]; unfold maxLen; omega
      · have := unhide hdl'; simp [ByteArray.size]; omega
      intro v5 w5 n5 g5 _
      have O5 := hide (row_app (l := []) rfl n5)
      have B5 := hide ((unhide B4).grown g5 s4 (fun k hk => ((unhide O4).lt k hk).1))
      obtain ⟨d0, d1, d2⟩ := blk3 (okk_blk (okk_grown (unhide O4) g5) (unhide W4) (by decide))
      have O6 := hide (show w5.ownsRow w.heap.size 5 1 v5 (px n 4).length ((px n 4).map bv) by rw [← unhide hpx]; exact unhide O5)
      clear n5 g5 O4 O5 B4 W4 c0 c1 c2 hall hallD BD O0 B0 cA cA2
      go_wp2
      go_roundw
      case rel => exact ⟨4, by omega, rfl, rfl, O6, B5⟩
      case measure => simp [intOf]
    · have hcv := conv_own (unhide ho)
      have hfin := hide (show (px n 4) = mt n from rfl)
      generalize px n 4 = P at *
      go_wp2
      go_ret
      exact ⟨ret_bytes (by rw [unhide hfin]), unhide hb⟩

end Go.Proofs.YtcpllfjhhlbmiaaDoor
