/-
  Contracts of the model's TimeText, for every argument: what it answers, and that nothing that was there is written.
-/
import Derived.Test.YtfhbmfndjbdhcaaGreatDoorSText
namespace Go.Proofs.YtfhbmfndjbdhcaaGreatDoor
open Go.RowKit
set_option linter.unusedVariables false

theorem ret_bytes {a b : ByteArray} (h : a = b) : Ending.returned (.string a) = .returned (.string b) := by rw [h]
theorem base_val (k : Nat) (hk : ∀ (n d : Int) (dr : Bool) (w : World), Calls Tryz.prog k #[.agg #[.int .i64 n, .int .i64 d, .bool dr]] w fun e w' => e = .returned (.int .i64 (Pl.base n d dr)) ∧ Below w.heap.size w w') (n d : Int) (dr : Bool) (v : Int) (hv : Pl.base n d dr = v) (w : World) :
    Calls Tryz.prog k #[.agg #[.int .i64 n, .int .i64 d, .bool dr]] w fun e w' => e = .returned (.int .i64 v) ∧ Below w.heap.size w w' := by subst hv; exact hk n d dr w

set_option maxHeartbeats 400000 in
theorem stext_r (n d : Int) (dr : Bool) (f : Int) (w : World) (hr : Pl.rok n d dr = false) :
    Calls Tryz.prog 28 #[.agg #[.int .i64 n, .int .i64 d, .bool dr], .int .i64 f] w fun e w' => e = .returned (.string ⟨#[]⟩) ∧ Below w.heap.size w w' := by
  have cb := hide (base_val 47 sbase_any n d dr 0 (Pl.base_zero hr))
  clear hr
  go_enter Tryz.func28, Tryz.ntmps28
  go_wp2_with fail
  refine (unhide cb _).mono ?_
  rintro e w1 ⟨rfl, hb⟩
  go_wp2
  go_ret
  exact ⟨rfl, below_box hb⟩

set_option maxHeartbeats 400000 in
theorem stext_f (n d : Int) (dr : Bool) (f : Int) (w : World) (hr : Pl.rok n d dr = true) (hf : Pl.isf f = false) :
    Calls Tryz.prog 28 #[.agg #[.int .i64 n, .int .i64 d, .bool dr], .int .i64 f] w fun e w' => e = .returned (.string ⟨#[]⟩) ∧ Below w.heap.size w w' := by
  obtain ⟨b1, b2⟩ := Pl.base_bd hr
  have cb := hide (base_val 47 sbase_any n d dr _ rfl)
  have cf := hide (frame_val 48 sframe_any f false hf)
  clear hr hf
  generalize Pl.base n d dr = b at *
  have hz : (b == 0) = false := by simp; omega
  go_enter Tryz.func28, Tryz.ntmps28
  go_wp2_with fail
  refine (unhide cb _).mono ?_
  rintro e w1 ⟨rfl, hb⟩
  go_wp2_with fail
  refine (unhide cf _).mono ?_
  rintro e w2 ⟨rfl, rfl⟩
  go_wp2
  go_ret
  exact ⟨rfl, below_box hb⟩

set_option maxHeartbeats 800000 in
theorem stext_late (n d : Int) (f : Int) (w : World) (hr : Pl.rok n d false = true) (hf : Pl.isf f = true) (hh : 99 < f / Pl.base n d false / 3600) :
    Calls Tryz.prog 28 #[.agg #[.int .i64 n, .int .i64 d, .bool false], .int .i64 f] w fun e w' => e = .returned (.string ⟨#[]⟩) ∧ Below w.heap.size w w' := by
  obtain ⟨b1, b2⟩ := Pl.base_bd hr
  obtain ⟨f1, f2⟩ := Pl.isf_bd hf
  have cb := hide (base_val 47 sbase_any n d false _ rfl)
  have cf := hide (frame_val 48 sframe_any f true hf)
  clear hr hf
  generalize Pl.base n d false = b at *
  have hz : (b == 0) = false := by simp; omega
  obtain ⟨g1, g2, g3, g4⟩ := Pl.qr_bd f1 f2 b1
  go_enter Tryz.func28, Tryz.ntmps28
  go_wp2_with fail
  refine (unhide cb _).mono ?_
  rintro e w1 ⟨rfl, hb⟩
  have hc := (bcell hb).1
  go_wp2_with fail
  refine (unhide cf _).mono ?_
  rintro e w2 ⟨rfl, rfl⟩
  go_wp2
  go_ret
  exact ⟨rfl, below_box hb⟩

set_option maxHeartbeats 800000 in
theorem stext_big (n d : Int) (f : Int) (w : World) (hr : Pl.rok n d false = true) (hf : Pl.isf f = true) (hh : ¬ 99 < f / Pl.base n d false / 3600) (hw : 100 < Pl.base n d false) :
    Calls Tryz.prog 28 #[.agg #[.int .i64 n, .int .i64 d, .bool false], .int .i64 f] w fun e w' => e = .returned (.string ⟨#[Pl.dg ((f / Pl.base n d false / 3600).toNat / 10), Pl.dg (f / Pl.base n d false / 3600).toNat, 58, Pl.dg ((f / Pl.base n d false / 60 % 60).toNat / 10), Pl.dg (f / Pl.base n d false / 60 % 60).toNat, 58, Pl.dg ((f / Pl.base n d false % 60).toNat / 10), Pl.dg (f / Pl.base n d false % 60).toNat, 58, Pl.dg ((f % Pl.base n d false).toNat / 100), Pl.dg ((f % Pl.base n d false).toNat / 10), Pl.dg (f % Pl.base n d false).toNat]⟩) ∧ Below w.heap.size w w' := by
  obtain ⟨b1, b2⟩ := Pl.base_bd hr
  obtain ⟨f1, f2⟩ := Pl.isf_bd hf
  have cb := hide (base_val 47 sbase_any n d false _ rfl)
  have cf := hide (frame_val 48 sframe_any f true hf)
  clear hr hf
  generalize Pl.base n d false = b at *
  have hz : (b == 0) = false := by simp; omega
  obtain ⟨g1, g2, g3, g4⟩ := Pl.qr_bd f1 f2 b1
  go_enter Tryz.func28, Tryz.ntmps28
  go_wp2_with fail
  refine (unhide cb _).mono ?_
  rintro e w1 ⟨rfl, hb⟩
  have hc := (bcell hb).1
  go_wp2_with fail
  refine (unhide cf _).mono ?_
  rintro e w2 ⟨rfl, rfl⟩
  go_wp2_with fail
  refine (swide2 _ _ (by omega) (by omega)).mono ?_
  rintro e w3 ⟨rfl, hb3⟩
  go_wp2_with fail
  refine (swide2 _ _ (by omega) (by omega)).mono ?_
  rintro e w4 ⟨rfl, hb4⟩
  go_wp2_with fail
  refine (swide2 _ _ (by omega) (by omega)).mono ?_
  rintro e w5 ⟨rfl, hb5⟩
  go_wp2_with fail
  refine (swide3 _ _ (by omega) (by omega)).mono ?_
  rintro e w6 ⟨rfl, hb6⟩
  go_wp2
  go_ret
  have k1 := below_box hb
  have k3 := k1.trans (hb3.mono k1.size)
  have k4 := k3.trans (hb4.mono k3.size)
  have k5 := k4.trans (hb5.mono k4.size)
  exact ⟨ret_bytes (join12 _ _ _ _ _ _ _ _ _ _), k5.trans (hb6.mono k5.size)⟩

set_option maxHeartbeats 800000 in
theorem stext_small (n d : Int) (f : Int) (w : World) (hr : Pl.rok n d false = true) (hf : Pl.isf f = true) (hh : ¬ 99 < f / Pl.base n d false / 3600) (hw : ¬ 100 < Pl.base n d false) :
    Calls Tryz.prog 28 #[.agg #[.int .i64 n, .int .i64 d, .bool false], .int .i64 f] w fun e w' => e = .returned (.string ⟨#[Pl.dg ((f / Pl.base n d false / 3600).toNat / 10), Pl.dg (f / Pl.base n d false / 3600).toNat, 58, Pl.dg ((f / Pl.base n d false / 60 % 60).toNat / 10), Pl.dg (f / Pl.base n d false / 60 % 60).toNat, 58, Pl.dg ((f / Pl.base n d false % 60).toNat / 10), Pl.dg (f / Pl.base n d false % 60).toNat, 58, Pl.dg ((f % Pl.base n d false).toNat / 10), Pl.dg (f % Pl.base n d false).toNat]⟩) ∧ Below w.heap.size w w' := by
  obtain ⟨b1, b2⟩ := Pl.base_bd hr
  obtain ⟨f1, f2⟩ := Pl.isf_bd hf
  have cb := hide (base_val 47 sbase_any n d false _ rfl)
  have cf := hide (frame_val 48 sframe_any f true hf)
  clear hr hf
  generalize Pl.base n d false = b at *
  have hz : (b == 0) = false := by simp; omega
  obtain ⟨g1, g2, g3, g4⟩ := Pl.qr_bd f1 f2 b1
  go_enter Tryz.func28, Tryz.ntmps28
  go_wp2_with fail
  refine (unhide cb _).mono ?_
  rintro e w1 ⟨rfl, hb⟩
  have hc := (bcell hb).1
  go_wp2_with fail
  refine (unhide cf _).mono ?_
  rintro e w2 ⟨rfl, rfl⟩
  go_wp2_with fail
  refine (swide2 _ _ (by omega) (by omega)).mono ?_
  rintro e w3 ⟨rfl, hb3⟩
  go_wp2_with fail
  refine (swide2 _ _ (by omega) (by omega)).mono ?_
  rintro e w4 ⟨rfl, hb4⟩
  go_wp2_with fail
  refine (swide2 _ _ (by omega) (by omega)).mono ?_
  rintro e w5 ⟨rfl, hb5⟩
  go_wp2_with fail
  refine (swide2 _ _ (by omega) (by omega)).mono ?_
  rintro e w6 ⟨rfl, hb6⟩
  go_wp2
  go_ret
  have k1 := below_box hb
  have k3 := k1.trans (hb3.mono k1.size)
  have k4 := k3.trans (hb4.mono k3.size)
  have k5 := k4.trans (hb5.mono k4.size)
  exact ⟨ret_bytes (join11 _ _ _ _ _ _ _ _ _), k5.trans (hb6.mono k5.size)⟩

set_option maxHeartbeats 800000 in
theorem stext_30a  (f : Int) (w : World) (hr : Pl.rok 30000 1001 true = true) (hf : Pl.isf f = true) (hw : 1800 ≤ f % 17982) :
    Calls Tryz.prog 28 #[.agg #[.int .i64 30000, .int .i64 1001, .bool true], .int .i64 f] w fun e w' => e = .returned (.string ⟨#[Pl.dg (((f + 18 * (f / 17982) + 2 * ((f % 17982 - 1800) / 1798 + 1)) / 30 / 3600).toNat / 10), Pl.dg ((f + 18 * (f / 17982) + 2 * ((f % 17982 - 1800) / 1798 + 1)) / 30 / 3600).toNat, 58, Pl.dg (((f + 18 * (f / 17982) + 2 * ((f % 17982 - 1800) / 1798 + 1)) / 30 / 60 % 60).toNat / 10), Pl.dg ((f + 18 * (f / 17982) + 2 * ((f % 17982 - 1800) / 1798 + 1)) / 30 / 60 % 60).toNat, 58, Pl.dg (((f + 18 * (f / 17982) + 2 * ((f % 17982 - 1800) / 1798 + 1)) / 30 % 60).toNat / 10), Pl.dg ((f + 18 * (f / 17982) + 2 * ((f % 17982 - 1800) / 1798 + 1)) / 30 % 60).toNat, 59, Pl.dg (((f + 18 * (f / 17982) + 2 * ((f % 17982 - 1800) / 1798 + 1)) % 30).toNat / 10), Pl.dg ((f + 18 * (f / 17982) + 2 * ((f % 17982 - 1800) / 1798 + 1)) % 30).toNat]⟩) ∧ Below w.heap.size w w' := by
  obtain ⟨f1, f2⟩ := Pl.isf_bd hf
  have cb := hide (base_val 47 sbase_any 30000 1001 true 30 (Pl.base30 hr))
  have cf := hide (frame_val 48 sframe_any f true hf)
  clear hr hf
  go_enter Tryz.func28, Tryz.ntmps28
  go_wp2_with fail
  refine (unhide cb _).mono ?_
  rintro e w1 ⟨rfl, hb⟩
  have hc := (bcell hb).1
  go_wp2_with fail
  refine (unhide cf _).mono ?_
  rintro e w2 ⟨rfl, rfl⟩
  go_wp2_with fail
  refine (swide2 _ _ (by omega) (by omega)).mono ?_
  rintro e w3 ⟨rfl, hb3⟩
  go_wp2_with fail
  refine (swide2 _ _ (by omega) (by omega)).mono ?_
  rintro e w4 ⟨rfl, hb4⟩
  go_wp2_with fail
  refine (swide2 _ _ (by omega) (by omega)).mono ?_
  rintro e w5 ⟨rfl, hb5⟩
  go_wp2_with fail
  refine (swide2 _ _ (by omega) (by omega)).mono ?_
  rintro e w6 ⟨rfl, hb6⟩
  go_wp2
  go_ret
  have k1 := below_box hb
  have k3 := k1.trans (hb3.mono k1.size)
  have k4 := k3.trans (hb4.mono k3.size)
  have k5 := k4.trans (hb5.mono k4.size)
  exact ⟨ret_bytes (join11 _ _ _ _ _ _ _ _ _), k5.trans (hb6.mono k5.size)⟩

set_option maxHeartbeats 800000 in
theorem stext_30b  (f : Int) (w : World) (hr : Pl.rok 30000 1001 true = true) (hf : Pl.isf f = true) (hw : ¬ 1800 ≤ f % 17982) :
    Calls Tryz.prog 28 #[.agg #[.int .i64 30000, .int .i64 1001, .bool true], .int .i64 f] w fun e w' => e = .returned (.string ⟨#[Pl.dg (((f + 18 * (f / 17982)) / 30 / 3600).toNat / 10), Pl.dg ((f + 18 * (f / 17982)) / 30 / 3600).toNat, 58, Pl.dg (((f + 18 * (f / 17982)) / 30 / 60 % 60).toNat / 10), Pl.dg ((f + 18 * (f / 17982)) / 30 / 60 % 60).toNat, 58, Pl.dg (((f + 18 * (f / 17982)) / 30 % 60).toNat / 10), Pl.dg ((f + 18 * (f / 17982)) / 30 % 60).toNat, 59, Pl.dg (((f + 18 * (f / 17982)) % 30).toNat / 10), Pl.dg ((f + 18 * (f / 17982)) % 30).toNat]⟩) ∧ Below w.heap.size w w' := by
  obtain ⟨f1, f2⟩ := Pl.isf_bd hf
  have cb := hide (base_val 47 sbase_any 30000 1001 true 30 (Pl.base30 hr))
  have cf := hide (frame_val 48 sframe_any f true hf)
  clear hr hf
  go_enter Tryz.func28, Tryz.ntmps28
  go_wp2_with fail
  refine (unhide cb _).mono ?_
  rintro e w1 ⟨rfl, hb⟩
  have hc := (bcell hb).1
  go_wp2_with fail
  refine (unhide cf _).mono ?_
  rintro e w2 ⟨rfl, rfl⟩
  go_wp2_with fail
  refine (swide2 _ _ (by omega) (by omega)).mono ?_
  rintro e w3 ⟨rfl, hb3⟩
  go_wp2_with fail
  refine (swide2 _ _ (by omega) (by omega)).mono ?_
  rintro e w4 ⟨rfl, hb4⟩
  go_wp2_with fail
  refine (swide2 _ _ (by omega) (by omega)).mono ?_
  rintro e w5 ⟨rfl, hb5⟩
  go_wp2_with fail
  refine (swide2 _ _ (by omega) (by omega)).mono ?_
  rintro e w6 ⟨rfl, hb6⟩
  go_wp2
  go_ret
  have k1 := below_box hb
  have k3 := k1.trans (hb3.mono k1.size)
  have k4 := k3.trans (hb4.mono k3.size)
  have k5 := k4.trans (hb5.mono k4.size)
  exact ⟨ret_bytes (join11 _ _ _ _ _ _ _ _ _), k5.trans (hb6.mono k5.size)⟩

set_option maxHeartbeats 800000 in
theorem stext_60a  (f : Int) (w : World) (hr : Pl.rok 60000 1001 true = true) (hf : Pl.isf f = true) (hw : 3600 ≤ f % 35964) :
    Calls Tryz.prog 28 #[.agg #[.int .i64 60000, .int .i64 1001, .bool true], .int .i64 f] w fun e w' => e = .returned (.string ⟨#[Pl.dg (((f + 36 * (f / 35964) + 4 * ((f % 35964 - 3600) / 3596 + 1)) / 60 / 3600).toNat / 10), Pl.dg ((f + 36 * (f / 35964) + 4 * ((f % 35964 - 3600) / 3596 + 1)) / 60 / 3600).toNat, 58, Pl.dg (((f + 36 * (f / 35964) + 4 * ((f % 35964 - 3600) / 3596 + 1)) / 60 / 60 % 60).toNat / 10), Pl.dg ((f + 36 * (f / 35964) + 4 * ((f % 35964 - 3600) / 3596 + 1)) / 60 / 60 % 60).toNat, 58, Pl.dg (((f + 36 * (f / 35964) + 4 * ((f % 35964 - 3600) / 3596 + 1)) / 60 % 60).toNat / 10), Pl.dg ((f + 36 * (f / 35964) + 4 * ((f % 35964 - 3600) / 3596 + 1)) / 60 % 60).toNat, 59, Pl.dg (((f + 36 * (f / 35964) + 4 * ((f % 35964 - 3600) / 3596 + 1)) % 60).toNat / 10), Pl.dg ((f + 36 * (f / 35964) + 4 * ((f % 35964 - 3600) / 3596 + 1)) % 60).toNat]⟩) ∧ Below w.heap.size w w' := by
  obtain ⟨f1, f2⟩ := Pl.isf_bd hf
  have cb := hide (base_val 47 sbase_any 60000 1001 true 60 (Pl.base60 hr))
  have cf := hide (frame_val 48 sframe_any f true hf)
  clear hr hf
  go_enter Tryz.func28, Tryz.ntmps28
  go_wp2_with fail
  refine (unhide cb _).mono ?_
  rintro e w1 ⟨rfl, hb⟩
  have hc := (bcell hb).1
  go_wp2_with fail
  refine (unhide cf _).mono ?_
  rintro e w2 ⟨rfl, rfl⟩
  go_wp2_with fail
  refine (swide2 _ _ (by omega) (by omega)).mono ?_
  rintro e w3 ⟨rfl, hb3⟩
  go_wp2_with fail
  refine (swide2 _ _ (by omega) (by omega)).mono ?_
  rintro e w4 ⟨rfl, hb4⟩
  go_wp2_with fail
  refine (swide2 _ _ (by omega) (by omega)).mono ?_
  rintro e w5 ⟨rfl, hb5⟩
  go_wp2_with fail
  refine (swide2 _ _ (by omega) (by omega)).mono ?_
  rintro e w6 ⟨rfl, hb6⟩
  go_wp2
  go_ret
  have k1 := below_box hb
  have k3 := k1.trans (hb3.mono k1.size)
  have k4 := k3.trans (hb4.mono k3.size)
  have k5 := k4.trans (hb5.mono k4.size)
  exact ⟨ret_bytes (join11 _ _ _ _ _ _ _ _ _), k5.trans (hb6.mono k5.size)⟩

set_option maxHeartbeats 800000 in
theorem stext_60b  (f : Int) (w : World) (hr : Pl.rok 60000 1001 true = true) (hf : Pl.isf f = true) (hw : ¬ 3600 ≤ f % 35964) :
    Calls Tryz.prog 28 #[.agg #[.int .i64 60000, .int .i64 1001, .bool true], .int .i64 f] w fun e w' => e = .returned (.string ⟨#[Pl.dg (((f + 36 * (f / 35964)) / 60 / 3600).toNat / 10), Pl.dg ((f + 36 * (f / 35964)) / 60 / 3600).toNat, 58, Pl.dg (((f + 36 * (f / 35964)) / 60 / 60 % 60).toNat / 10), Pl.dg ((f + 36 * (f / 35964)) / 60 / 60 % 60).toNat, 58, Pl.dg (((f + 36 * (f / 35964)) / 60 % 60).toNat / 10), Pl.dg ((f + 36 * (f / 35964)) / 60 % 60).toNat, 59, Pl.dg (((f + 36 * (f / 35964)) % 60).toNat / 10), Pl.dg ((f + 36 * (f / 35964)) % 60).toNat]⟩) ∧ Below w.heap.size w w' := by
  obtain ⟨f1, f2⟩ := Pl.isf_bd hf
  have cb := hide (base_val 47 sbase_any 60000 1001 true 60 (Pl.base60 hr))
  have cf := hide (frame_val 48 sframe_any f true hf)
  clear hr hf
  go_enter Tryz.func28, Tryz.ntmps28
  go_wp2_with fail
  refine (unhide cb _).mono ?_
  rintro e w1 ⟨rfl, hb⟩
  have hc := (bcell hb).1
  go_wp2_with fail
  refine (unhide cf _).mono ?_
  rintro e w2 ⟨rfl, rfl⟩
  go_wp2_with fail
  refine (swide2 _ _ (by omega) (by omega)).mono ?_
  rintro e w3 ⟨rfl, hb3⟩
  go_wp2_with fail
  refine (swide2 _ _ (by omega) (by omega)).mono ?_
  rintro e w4 ⟨rfl, hb4⟩
  go_wp2_with fail
  refine (swide2 _ _ (by omega) (by omega)).mono ?_
  rintro e w5 ⟨rfl, hb5⟩
  go_wp2_with fail
  refine (swide2 _ _ (by omega) (by omega)).mono ?_
  rintro e w6 ⟨rfl, hb6⟩
  go_wp2
  go_ret
  have k1 := below_box hb
  have k3 := k1.trans (hb3.mono k1.size)
  have k4 := k3.trans (hb4.mono k3.size)
  have k5 := k4.trans (hb5.mono k4.size)
  exact ⟨ret_bytes (join11 _ _ _ _ _ _ _ _ _), k5.trans (hb6.mono k5.size)⟩

theorem tt_no1 {n d : Int} {dr : Bool} {f : Int} (h : Pl.rok n d dr = false) : Pl.tt n d dr f = [] := by simp [Pl.tt, h]
theorem tt_no2 {n d : Int} {dr : Bool} {f : Int} (h : Pl.isf f = false) : Pl.tt n d dr f = [] := by simp [Pl.tt, h]
theorem tt_yes {n d : Int} {dr : Bool} {f : Int} (h : Pl.rok n d dr = true) (hf : Pl.isf f = true) :
    Pl.tt n d dr f = if 99 < Pl.clk n dr f / Pl.base n d dr / 3600 then [] else Pl.txt dr (Pl.base n d dr) (Pl.clk n dr f) := by simp [Pl.tt, h, hf]

theorem stext_any (n d : Int) (dr : Bool) (f : Int) (w : World) :
    Calls Tryz.prog 28 #[.agg #[.int .i64 n, .int .i64 d, .bool dr], .int .i64 f] w fun e w' => e = .returned (.string ⟨(Pl.tt n d dr f).toArray⟩) ∧ Below w.heap.size w w' := by
  cases hr : Pl.rok n d dr
  · rw [tt_no1 hr]; exact stext_r n d dr f w hr
  cases hf : Pl.isf f
  · rw [tt_no2 hf]; exact stext_f n d dr f w hr hf
  rw [tt_yes hr hf]
  have hfb := Pl.isf_bd hf
  cases dr
  · have e : Pl.clk n false f = f := by simp [Pl.clk]
    rw [e]
    by_cases hh : 99 < f / Pl.base n d false / 3600
    · rw [if_pos hh]; exact stext_late n d f w hr hf hh
    rw [if_neg hh]
    by_cases hw : 100 < Pl.base n d false
    · have h := stext_big n d f w hr hf hh hw
      simpa [Pl.txt, Pl.ff, hw, Pl.two, Pl.three, Pl.mark] using h
    · have h := stext_small n d f w hr hf hh hw
      simpa [Pl.txt, Pl.ff, hw, Pl.two, Pl.mark] using h
  · obtain ⟨rfl, rfl | rfl⟩ := Pl.rok_drop hr
    · rw [Pl.base30 hr]
      by_cases hw : 1800 ≤ f % 17982
      · have e : Pl.clk 30000 true f = f + 18 * (f / 17982) + 2 * ((f % 17982 - 1800) / 1798 + 1) := by simp [Pl.clk, Pl.cd, hw]
        have h := stext_30a f w hr hf hw
        rw [e, if_neg (by omega)]
        simpa [Pl.txt, Pl.ff, Pl.two, Pl.mark] using h
      · have e : Pl.clk 30000 true f = f + 18 * (f / 17982) := by simp [Pl.clk, Pl.cd, hw]
        have h := stext_30b f w hr hf hw
        rw [e, if_neg (by omega)]
        simpa [Pl.txt, Pl.ff, Pl.two, Pl.mark] using h
    · rw [Pl.base60 hr]
      by_cases hw : 3600 ≤ f % 35964
      · have e : Pl.clk 60000 true f = f + 36 * (f / 35964) + 4 * ((f % 35964 - 3600) / 3596 + 1) := by simp [Pl.clk, Pl.cd, hw]
        have h := stext_60a f w hr hf hw
        rw [e, if_neg (by omega)]
        simpa [Pl.txt, Pl.ff, Pl.two, Pl.mark] using h
      · have e : Pl.clk 60000 true f = f + 36 * (f / 35964) := by simp [Pl.clk, Pl.cd, hw]
        have h := stext_60b f w hr hf hw
        rw [e, if_neg (by omega)]
        simpa [Pl.txt, Pl.ff, Pl.two, Pl.mark] using h

end Go.Proofs.YtfhbmfndjbdhcaaGreatDoor
