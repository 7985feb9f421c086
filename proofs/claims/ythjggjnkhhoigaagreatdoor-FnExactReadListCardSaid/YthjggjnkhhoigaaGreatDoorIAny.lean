/-
  Contract of the program's TimeText, for every rate and every frame.
-/
import Derived.Test.YthjggjnkhhoigaaGreatDoorITxt
namespace Go.Proofs.YthjggjnkhhoigaaGreatDoor
open Go.RowKit Go.Joins
set_option linter.unusedVariables false

theorem itext_any (n d : Int) (dr : Bool) (f : Int) (w : World) :
    Calls Tryz.prog 85 #[.agg #[.int .i64 n, .int .i64 d, .bool dr], .int .i64 f] w fun e w' => e = .returned (.string ⟨(Pl.tt n d dr f).toArray⟩) ∧ Below w.heap.size w w' := by
  cases hr : Pl.rok n d dr
  · rw [tt_no1 hr]; exact itext_r n d dr f w hr
  cases hf : Pl.isf f
  · rw [tt_no2 hf]; exact itext_f n d dr f w hr hf
  rw [tt_yes hr hf]
  by_cases hh : 99 < Pl.clk n dr f / Pl.base n d dr / 3600
  · rw [if_pos hh]; exact itext_late n d dr f w hr hf hh
  · rw [if_neg hh]
    have h := itext_core n d dr f w hr hf hh
    obtain ⟨e1, e2, e3, e4⟩ := Pl.fields (Pl.clk n dr f) (Pl.base n d dr) (Pl.base_bd hr).1
    have e : preL (Pl.base n d dr) (Pl.clk n dr f) (Pl.clk n dr f % (3600 * Pl.base n d dr)) (Pl.clk n dr f % (3600 * Pl.base n d dr) % (60 * Pl.base n d dr)) (Pl.clk n dr f % (3600 * Pl.base n d dr) % (60 * Pl.base n d dr) % Pl.base n d dr) (Pl.mark dr) 4 = Pl.txt dr (Pl.base n d dr) (Pl.clk n dr f) := by
      simp only [preL, e1, e2, e3, e4, Pl.txt, List.append_assoc, List.cons_append, List.nil_append]
    rw [e] at h
    exact h


end Go.Proofs.YthjggjnkhhoigaaGreatDoor
