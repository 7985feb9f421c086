/-
  Contracts of the program's clock number and of its digits that are appended, for right rates and frames: what each answers, and that nothing that was there is written.
-/
import Derived.Test.YthjggjnkhhoigaaGreatDoorIParts
namespace Go.Proofs.YthjggjnkhhoigaaGreatDoor
open Go.RowKit
set_option linter.unusedVariables false

set_option maxHeartbeats 400000 in
theorem iclk_30a (f : Int) (w : World) (hr : Pl.rok 30000 1001 true = true) (hf : Pl.isf f = true) (hw : 1800 ≤ f % 17982) :
    Calls Tryz.prog 102 #[.agg #[.int .i64 30000, .int .i64 1001, .bool true], .int .i64 f] w fun e w' => e = .returned (.int .i64 (f + 18 * (f / 17982) + 2 * ((f % 17982 - 1800) / 1798 + 1))) ∧ Below w.heap.size w w' := by
  obtain ⟨f1, f2⟩ := Pl.isf_bd hf
  have cb := hide (base_val 81 ibase_any 30000 1001 true 30 (Pl.base30 hr))
  clear hr hf
  go_enter Tryz.func102, Tryz.ntmps102
  go_wp2_with fail
  refine (ileft_30 1001 _).mono ?_
  rintro e w1 ⟨rfl, hb1⟩
  have hc1 := (bcell hb1).1
  go_wp2_with fail
  refine (unhide cb _).mono ?_
  rintro e w2 ⟨rfl, hb2⟩
  go_wp2
  go_ret
  have k1 := below_box hb1
  exact ⟨ret_int (by omega), k1.trans (hb2.mono k1.size)⟩

set_option maxHeartbeats 400000 in
theorem iclk_30b (f : Int) (w : World) (hr : Pl.rok 30000 1001 true = true) (hf : Pl.isf f = true) (hw : ¬ 1800 ≤ f % 17982) :
    Calls Tryz.prog 102 #[.agg #[.int .i64 30000, .int .i64 1001, .bool true], .int .i64 f] w fun e w' => e = .returned (.int .i64 (f + 18 * (f / 17982))) ∧ Below w.heap.size w w' := by
  obtain ⟨f1, f2⟩ := Pl.isf_bd hf
  have cb := hide (base_val 81 ibase_any 30000 1001 true 30 (Pl.base30 hr))
  clear hr hf
  go_enter Tryz.func102, Tryz.ntmps102
  go_wp2_with fail
  refine (ileft_30 1001 _).mono ?_
  rintro e w1 ⟨rfl, hb1⟩
  have hc1 := (bcell hb1).1
  go_wp2_with fail
  refine (unhide cb _).mono ?_
  rintro e w2 ⟨rfl, hb2⟩
  go_wp2
  go_ret
  have k1 := below_box hb1
  exact ⟨ret_int (by omega), k1.trans (hb2.mono k1.size)⟩

set_option maxHeartbeats 400000 in
theorem iclk_60a (f : Int) (w : World) (hr : Pl.rok 60000 1001 true = true) (hf : Pl.isf f = true) (hw : 3600 ≤ f % 35964) :
    Calls Tryz.prog 102 #[.agg #[.int .i64 60000, .int .i64 1001, .bool true], .int .i64 f] w fun e w' => e = .returned (.int .i64 (f + 36 * (f / 35964) + 4 * ((f % 35964 - 3600) / 3596 + 1))) ∧ Below w.heap.size w w' := by
  obtain ⟨f1, f2⟩ := Pl.isf_bd hf
  have cb := hide (base_val 81 ibase_any 60000 1001 true 60 (Pl.base60 hr))
  clear hr hf
  go_enter Tryz.func102, Tryz.ntmps102
  go_wp2_with fail
  refine (ileft_60 1001 _).mono ?_
  rintro e w1 ⟨rfl, hb1⟩
  have hc1 := (bcell hb1).1
  go_wp2_with fail
  refine (unhide cb _).mono ?_
  rintro e w2 ⟨rfl, hb2⟩
  go_wp2
  go_ret
  have k1 := below_box hb1
  exact ⟨ret_int (by omega), k1.trans (hb2.mono k1.size)⟩

set_option maxHeartbeats 400000 in
theorem iclk_60b (f : Int) (w : World) (hr : Pl.rok 60000 1001 true = true) (hf : Pl.isf f = true) (hw : ¬ 3600 ≤ f % 35964) :
    Calls Tryz.prog 102 #[.agg #[.int .i64 60000, .int .i64 1001, .bool true], .int .i64 f] w fun e w' => e = .returned (.int .i64 (f + 36 * (f / 35964))) ∧ Below w.heap.size w w' := by
  obtain ⟨f1, f2⟩ := Pl.isf_bd hf
  have cb := hide (base_val 81 ibase_any 60000 1001 true 60 (Pl.base60 hr))
  clear hr hf
  go_enter Tryz.func102, Tryz.ntmps102
  go_wp2_with fail
  refine (ileft_60 1001 _).mono ?_
  rintro e w1 ⟨rfl, hb1⟩
  have hc1 := (bcell hb1).1
  go_wp2_with fail
  refine (unhide cb _).mono ?_
  rintro e w2 ⟨rfl, hb2⟩
  go_wp2
  go_ret
  have k1 := below_box hb1
  exact ⟨ret_int (by omega), k1.trans (hb2.mono k1.size)⟩

set_option maxHeartbeats 400000 in
theorem iclk_no (n d : Int) (f : Int) (w : World) (hr : Pl.rok n d false = true) (hf : Pl.isf f = true) :
    Calls Tryz.prog 102 #[.agg #[.int .i64 n, .int .i64 d, .bool false], .int .i64 f] w fun e w' => e = .returned (.int .i64 f) ∧ Below w.heap.size w w' := by
  obtain ⟨f1, f2⟩ := Pl.isf_bd hf
  obtain ⟨b1, b2⟩ := Pl.base_bd hr
  have cb := hide (base_val 81 ibase_any n d false _ rfl)
  clear hr hf
  generalize Pl.base n d false = b at *
  go_enter Tryz.func102, Tryz.ntmps102
  go_wp2_with fail
  refine (ileft_no n d _).mono ?_
  rintro e w1 ⟨rfl, hb1⟩
  have hc1 := (bcell hb1).1
  go_wp2_with fail
  refine (unhide cb _).mono ?_
  rintro e w2 ⟨rfl, hb2⟩
  have k1 := below_box hb1
  have k2 := k1.trans (hb2.mono k1.size)
  go_wp2
  all_goals (go_ret; exact ⟨rfl, k2⟩)

theorem iclk_any (n d : Int) (dr : Bool) (f : Int) (w : World) (hr : Pl.rok n d dr = true) (hf : Pl.isf f = true) :
    Calls Tryz.prog 102 #[.agg #[.int .i64 n, .int .i64 d, .bool dr], .int .i64 f] w fun e w' => e = .returned (.int .i64 (Pl.clk n dr f)) ∧ Below w.heap.size w w' := by
  cases dr
  · have e : Pl.clk n false f = f := by simp [Pl.clk]
    rw [e]; exact iclk_no n d f w hr hf
  · obtain ⟨rfl, rfl | rfl⟩ := Pl.rok_drop hr
    · by_cases hw : 1800 ≤ f % 17982
      · have e : Pl.clk 30000 true f = f + 18 * (f / 17982) + 2 * ((f % 17982 - 1800) / 1798 + 1) := by simp [Pl.clk, Pl.cd, hw]
        rw [e]; exact iclk_30a f w hr hf hw
      · have e : Pl.clk 30000 true f = f + 18 * (f / 17982) := by simp [Pl.clk, Pl.cd, hw]
        rw [e]; exact iclk_30b f w hr hf hw
    · by_cases hw : 3600 ≤ f % 35964
      · have e : Pl.clk 60000 true f = f + 36 * (f / 35964) + 4 * ((f % 35964 - 3600) / 3596 + 1) := by simp [Pl.clk, Pl.cd, hw]
        rw [e]; exact iclk_60a f w hr hf hw
      · have e : Pl.clk 60000 true f = f + 36 * (f / 35964) := by simp [Pl.clk, Pl.cd, hw]
        rw [e]; exact iclk_60b f w hr hf hw

end Go.Proofs.YthjggjnkhhoigaaGreatDoor
