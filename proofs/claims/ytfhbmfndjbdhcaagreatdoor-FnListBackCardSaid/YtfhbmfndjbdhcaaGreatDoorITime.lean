/-
  Contract of the program's TimeText, for every argument: what it answers, and that nothing that was there is written.
-/
import Derived.Test.YtfhbmfndjbdhcaaGreatDoorIApp
import Derived.Deep.RegionWith
import Derived.Lib.SmallJoins
namespace Go.Proofs.YtfhbmfndjbdhcaaGreatDoor
open Go.RowKit Go.Joins
set_option linter.unusedVariables false

theorem clk_bd {n : Int} {dr : Bool} {f : Int} (h0 : 0 ≤ f) (h1 : f ≤ 10000000) : 0 ≤ Pl.clk n dr f ∧ Pl.clk n dr f ≤ 20000000 := by
  unfold Pl.clk Pl.cd; split <;> (try split) <;> (try split) <;> omega

set_option maxHeartbeats 400000 in
theorem itext_r (n d : Int) (dr : Bool) (f : Int) (w : World) (hr : Pl.rok n d dr = false) :
    Calls Tryz.prog 41 #[.agg #[.int .i64 n, .int .i64 d, .bool dr], .int .i64 f] w fun e w' => e = .returned (.string ⟨#[]⟩) ∧ Below w.heap.size w w' := by
  have cb := hide (base_val 67 ibase_any n d dr 0 (Pl.base_zero hr))
  clear hr
  go_enter Tryz.func41, Tryz.ntmps41
  go_wp2_with fail
  refine (unhide cb _).mono ?_
  rintro e w1 ⟨rfl, hb⟩
  go_wp2
  go_ret
  exact ⟨rfl, below_box hb⟩

set_option maxHeartbeats 400000 in
theorem itext_f (n d : Int) (dr : Bool) (f : Int) (w : World) (hr : Pl.rok n d dr = true) (hf : Pl.isf f = false) :
    Calls Tryz.prog 41 #[.agg #[.int .i64 n, .int .i64 d, .bool dr], .int .i64 f] w fun e w' => e = .returned (.string ⟨#[]⟩) ∧ Below w.heap.size w w' := by
  obtain ⟨b1, b2⟩ := Pl.base_bd hr
  have cb := hide (base_val 67 ibase_any n d dr _ rfl)
  have cf := hide (frame_val 68 iframe_any f false hf)
  clear hr hf
  generalize Pl.base n d dr = b at *
  have hz : (b == 0) = false := by simp; omega
  go_enter Tryz.func41, Tryz.ntmps41
  go_wp2_with fail
  refine (unhide cb _).mono ?_
  rintro e w1 ⟨rfl, hb⟩
  go_wp2_with fail
  refine (unhide cf _).mono ?_
  rintro e w2 ⟨rfl, rfl⟩
  go_wp2
  go_ret
  exact ⟨rfl, below_box hb⟩

theorem clk_val (n d : Int) (dr : Bool) (f : Int) (hr : Pl.rok n d dr = true) (hf : Pl.isf f = true) (c : Int) (hc : Pl.clk n dr f = c) (w : World) :
    Calls Tryz.prog 70 #[.agg #[.int .i64 n, .int .i64 d, .bool dr], .int .i64 f] w fun e w' => e = .returned (.int .i64 c) ∧ Below w.heap.size w w' := by subst hc; exact iclk_any n d dr f w hr hf

set_option maxHeartbeats 800000 in
theorem itext_late (n d : Int) (dr : Bool) (f : Int) (w : World) (hr : Pl.rok n d dr = true) (hf : Pl.isf f = true) (hh : 99 < Pl.clk n dr f / Pl.base n d dr / 3600) :
    Calls Tryz.prog 41 #[.agg #[.int .i64 n, .int .i64 d, .bool dr], .int .i64 f] w fun e w' => e = .returned (.string ⟨#[]⟩) ∧ Below w.heap.size w w' := by
  obtain ⟨b1, b2⟩ := Pl.base_bd hr
  obtain ⟨f1, f2⟩ := Pl.isf_bd hf
  obtain ⟨k1, k2⟩ := clk_bd (n := n) (dr := dr) f1 f2
  have cb := hide (base_val 67 ibase_any n d dr _ rfl)
  have cf := hide (frame_val 68 iframe_any f true hf)
  have cc := hide (clk_val n d dr f hr hf _ rfl)
  have hq := (Pl.fields (Pl.clk n dr f) (Pl.base n d dr) b1).1
  clear hr hf
  generalize Pl.base n d dr = b at *
  generalize Pl.clk n dr f = c at *
  rw [← hq] at hh
  clear hq
  have hz : (b == 0) = false := by simp; omega
  go_enter Tryz.func41, Tryz.ntmps41
  go_wp2_with fail
  refine (unhide cb _).mono ?_
  rintro e w1 ⟨rfl, hb⟩
  go_wp2_with fail
  refine (unhide cf _).mono ?_
  rintro e w2 ⟨rfl, rfl⟩
  go_wp2_with fail
  refine (idiv_any b _ (by omega) (by omega)).mono ?_
  rintro e w3 ⟨rfl, hb3⟩
  have k1 := below_box hb
  have k3 := k1.trans (hb3.mono k1.size)
  have hc := (bcell hb).1
  have hc3 := (bcell hb3).1
  have hz2 : w.heap.size < w2.heap.size := by have := hb.size; simp at this; omega
  have hz3 : w.heap.size < w3.heap.size := by have := hb3.size; omega
  go_wp2_with fail
  refine (unhide cc _).mono ?_
  rintro e w4 ⟨rfl, hb4⟩
  have hc4 := (bcell hb4).1
  go_wp2
  go_ret
  exact ⟨rfl, (k3.alloc k3.size _).trans (hb4.mono (by have := k3.size; simp; omega))⟩

end Go.Proofs.YtfhbmfndjbdhcaaGreatDoor
