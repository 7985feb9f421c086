/-
  For every picture PictureOk of the program answers as its model does, and the picture reads behind the call as it read before; no conditions.
-/
import Derived.Test.YtcchgjeopmaemaaRRRPic
namespace Go.Proofs.YtcchgjeopmaemaaRRR
open Go.RowKit
set_option linter.unusedVariables false
set_option linter.unusedSimpArgs false

theorem keep6 {w w0 w1 : World} {a1 a2 a3 a4 a5 a6 : Addr} {v1 v2 v3 v4 v5 v6 : Value}
    (h : w0.cell? a1 = some v1 ∧ w0.cell? a2 = some v2 ∧ w0.cell? a3 = some v3 ∧ w0.cell? a4 = some v4 ∧ w0.cell? a5 = some v5 ∧ w0.cell? a6 = some v6 ∧ Below w.heap.size w w0) (hb : Below w0.heap.size w0 w1) :
    w1.cell? a1 = some v1 ∧ w1.cell? a2 = some v2 ∧ w1.cell? a3 = some v3 ∧ w1.cell? a4 = some v4 ∧ w1.cell? a5 = some v5 ∧ w1.cell? a6 = some v6 ∧ Below w.heap.size w w1 := by
  obtain ⟨h1, h2, h3, h4, h5, h6, h7⟩ := h
  exact ⟨cell_later hb h1, cell_later hb h2, cell_later hb h3, cell_later hb h4, cell_later hb h5, cell_later hb h6, h7.trans (hb.mono h7.size)⟩
theorem keep6d {w w0 : World} {a1 a2 a3 a4 a5 a6 : Addr} {v1 v2 v3 v4 v5 v6 : Value}
    (h : w0.cell? a1 = some v1 ∧ w0.cell? a2 = some v2 ∧ w0.cell? a3 = some v3 ∧ w0.cell? a4 = some v4 ∧ w0.cell? a5 = some v5 ∧ w0.cell? a6 = some v6 ∧ Below w.heap.size w w0) :
    w0.drew.cell? a1 = some v1 ∧ w0.drew.cell? a2 = some v2 ∧ w0.drew.cell? a3 = some v3 ∧ w0.drew.cell? a4 = some v4 ∧ w0.drew.cell? a5 = some v5 ∧ w0.drew.cell? a6 = some v6 ∧ Below w.heap.size w w0.drew := by
  obtain ⟨h1, h2, h3, h4, h5, h6, h7⟩ := h
  exact ⟨h1, h2, h3, h4, h5, h6, h7.drew⟩
set_option maxHeartbeats 3200000 in
theorem lawPc {W0 : World} (W H : Int) (a : Option Addr) (ca : Nat) (l : List Int) (hl0 : l.length ≤ maxLen) (ha : Ins W0 a l) :
    Calls Try.prog 5 #[pcv W H a l.length ca] W0 fun e w' => e = .returned (.bool true) ∧ Below W0.heap.size W0 w' := by
  have ha' := hide ha
  have hl1 := hide hl0
  clear ha hl0
  obtain ⟨v, hv⟩ : ∃ v : Bool, (v = true ↔ PcOk W H l) := by
    by_cases h : PcOk W H l
    · exact ⟨true, ⟨fun _ => h, fun _ => rfl⟩⟩
    · exact ⟨false, ⟨(fun k => by cases k), fun k => absurd k h⟩⟩
  have hv' := hide hv
  have hvv : (v != v) = false := by simp
  clear hv
  go_enter Try.func5, Try.ntmps5
  go_wp2_with fail
  have p0 := P3.new W0 32 W H (.slice a l.length ca)
  have b1 : Below W0.heap.size W0 (W0.alloc (.cells #[.int .i64 W, .int .i64 H, .slice a l.length ca] 32)) := (Below.refl _ _).alloc (Nat.le_refl _) _
  generalize W0.alloc (.cells #[.int .i64 W, .int .i64 H, .slice a l.length ca] 32) = w1 at *
  refine (szp_any W H a l.length ca 1048576 _ (unhide hl1) (by omega) (by omega)).mono ?_
  rintro e w2 ⟨r, rfl, hr, k2⟩
  have P := hide (p0.later k2)
  have Hb := hide (laterB b1 k2)
  clear p0 b1 k2 w1
  rcases hr with rfl | ⟨hr0, hr1, hr2⟩
  · go_wp2
    go_ret
    exact ⟨rfl, unhide Hb⟩
  have hr3 : decide (r < 0) = false := decide_eq_false (by omega)
  have hl : l.length ≤ 1048576 := by omega
  clear hr2 hr1
  obtain ⟨c0, c1, c2⟩ := (unhide P).cells
  go_wp2_with fail
  refine (top_any W H a ca l _ hl ((unhide ha').below (unhide Hb))).mono ?_
  rintro e w3 ⟨B3, rfl, q3, n3, k3⟩
  have P := hide ((unhide P).later k3)
  have Hb := hide (laterB (unhide Hb) k3)
  have N := hide n3
  clear c0 c1 c2 k3 n3 q3
  go_wp2_with fail
  refine (spic_any W H (some ⟨B3, 0, none⟩) _ l v _ (unhide hl1) (ins_own (unhide N)) (unhide hv')).mono ?_
  rintro e w4 ⟨rfl, k4⟩
  have P := hide ((unhide P).later k4)
  have Hb := hide (laterB (unhide Hb) k4)
  clear k4 N
  obtain ⟨c0, c1, c2⟩ := (unhide P).cells
  go_wp2_with fail
  refine (top_any W H a ca l _ hl ((unhide ha').below (unhide Hb))).mono ?_
  rintro e w5 ⟨B5, rfl, q5, n5, k5⟩
  have P := hide ((unhide P).later k5)
  have Hb := hide (laterB (unhide Hb) k5)
  have N := hide n5
  clear c0 c1 c2 k5 n5 q5
  go_wp2_with fail
  have x0 := P3.new w5 35 W H (.slice (some ⟨B5, 0, none⟩) l.length l.length)
  have k6 : Below w5.heap.size w5 (w5.alloc (.cells #[.int .i64 W, .int .i64 H, .slice (some ⟨B5, 0, none⟩) l.length l.length] 35)) := (Below.refl _ _).alloc (Nat.le_refl _) _
  generalize w5.alloc (.cells #[.int .i64 W, .int .i64 H, .slice (some ⟨B5, 0, none⟩) l.length l.length] 35) = w5b at *
  have P := hide ((unhide P).later k6)
  have Hb := hide (laterB (unhide Hb) k6)
  have N := hide (ownsRow_below (unhide N) k6)
  clear k6
  generalize w5.heap.size = X at *
  refine (ipic_any W H (some ⟨B5, 0, none⟩) _ l v _ (unhide hl1) (ins_own (unhide N)) (unhide hv')).mono ?_
  rintro e w6 ⟨rfl, k7⟩
  have P := hide ((unhide P).later k7)
  have Xx := hide (x0.later k7)
  have Hb := hide (laterB (unhide Hb) k7)
  have N := hide (ownsRow_below (unhide N) k7)
  clear k7 x0
  have hall : Hid (w6.cell? ⟨X, 0, none⟩ = some (.int .i64 W) ∧ w6.cell? ⟨X, 1, none⟩ = some (.int .i64 H) ∧ w6.cell? ⟨X, 2, none⟩ = some (.slice (some ⟨B5, 0, none⟩) l.length l.length) ∧ w6.cell? ⟨W0.heap.size, 0, none⟩ = some (.int .i64 W) ∧ w6.cell? ⟨W0.heap.size, 1, none⟩ = some (.int .i64 H) ∧ w6.cell? ⟨W0.heap.size, 2, none⟩ = some (.slice a l.length ca) ∧ Below w6.heap.size w6 w6) := hide ⟨(unhide Xx).cells.1, (unhide Xx).cells.2.1, (unhide Xx).cells.2.2, (unhide P).cells.1, (unhide P).cells.2.1, (unhide P).cells.2.2, Below.refl _ _⟩
  have c19 := hide (show ∀ w', Below w6.heap.size w6 w' → Calls Try.prog 19 #[pcv W H a l.length ca] w' _ from fun w' hb => top_any W H a ca l w' hl ((unhide ha').below (laterB (unhide Hb) hb)))
  have c21 := hide (show ∀ w' B, Below w6.heap.size w6 w' → OwnI w' w6.heap.size B l.length l.length l → Calls Try.prog 21 #[pcv W H (some ⟨B5, 0, none⟩) l.length l.length, pcv W H (some ⟨B, 0, none⟩) l.length l.length] w' _ from fun w' B hb hn => eqp_any W H _ _ _ _ l w' hl (ins_own (ownsRow_below (unhide N) hb)) (ins_own hn))
  clear P Xx N
  go_wp2_with fail
  go_region_held3 (fun w' => w'.cell? ⟨X, 0, none⟩ = some (.int .i64 W) ∧ w'.cell? ⟨X, 1, none⟩ = some (.int .i64 H) ∧ w'.cell? ⟨X, 2, none⟩ = some (.slice (some ⟨B5, 0, none⟩) l.length l.length) ∧ w'.cell? ⟨W0.heap.size, 0, none⟩ = some (.int .i64 W) ∧ w'.cell? ⟨W0.heap.size, 1, none⟩ = some (.int .i64 H) ∧ w'.cell? ⟨W0.heap.size, 2, none⟩ = some (.slice a l.length ca) ∧ Below w6.heap.size w6 w')
    (first | with_reducible exact hS8 | with_reducible exact hS7 | exact keep6d (unhide hall))
    ((first
      | (go_at_call 19
         refine (unhide c19 _ (Below.refl _ _).drew).mono ?_
         rintro e w7 ⟨B7, rfl, q7, n7, k7⟩
         have hS7 := keep6 (keep6d (unhide hall)) k7
         have n7' := hide (own_mono n7 (show w6.heap.size ≤ w6.drew.heap.size from Nat.le_refl _))
         clear n7 k7 q7)
      | (go_at_call 21
         refine (unhide c21 _ _ hS7.2.2.2.2.2.2 (unhide n7')).mono ?_
         rintro e w8 ⟨rfl, k8⟩
         have hS8 := keep6 hS7 k8
         clear k8)))
  have Q := hide (laterB (unhide Hb) hS8.2.2.2.2.2.2)
  clear hS7 hS8 hall
  go_wp2
  go_ret
  exact ⟨rfl, unhide Q⟩

end Go.Proofs.YtcchgjeopmaemaaRRR
