/-
  Contracts of FrameIn, of the program and of its model, for every argument: what each answers, and that nothing that was there is written.
-/
import Derived.Test.YtffibbcombjkcaaInst
namespace Go.Proofs.Ytffibbcombjkcaa
open Go.RowKit
set_option linter.unusedVariables false

theorem below_box2 {w w1 : World} {o o' : Obj} (hb : Below ((w.alloc o).alloc o').heap.size ((w.alloc o).alloc o') w1) : Below w.heap.size w w1 :=
  (((Below.refl _ _).alloc (Nat.le_refl _) _).alloc (by simp) _).trans (hb.mono (by simp; omega))

set_option maxHeartbeats 400000 in
theorem ifin_r (n d : Int) (dr : Bool) (m e' : Int) (ds : Bool) (f : Int) (w : World) (hr : Pl.rok n d dr = false) :
    Calls Try.prog 17 #[.agg #[.int .i64 n, .int .i64 d, .bool dr], .agg #[.int .i64 m, .int .i64 e', .bool ds], .int .i64 f] w fun e w' => e = .returned (.int .i64 (-1)) ∧ Below w.heap.size w w' := by
  have cr := hide (rok_val 22 irok_any n d dr false hr)
  clear hr
  go_enter Try.func17, Try.ntmps17
  go_wp2_with fail
  refine (unhide cr _).mono ?_
  rintro e w1 ⟨rfl, hb1⟩
  go_wp2
  go_ret
  exact ⟨rfl, below_box2 hb1⟩

set_option maxHeartbeats 400000 in
theorem ifin_s (n d : Int) (dr : Bool) (m e' : Int) (ds : Bool) (f : Int) (w : World) (hr : Pl.rok n d dr = true) (hs : Pl.rok m e' ds = false) :
    Calls Try.prog 17 #[.agg #[.int .i64 n, .int .i64 d, .bool dr], .agg #[.int .i64 m, .int .i64 e', .bool ds], .int .i64 f] w fun e w' => e = .returned (.int .i64 (-1)) ∧ Below w.heap.size w w' := by
  have cr := hide (rok_val 22 irok_any n d dr true hr)
  clear hr
  have cs := hide (rok_val 22 irok_any m e' ds false hs)
  clear hs
  go_enter Try.func17, Try.ntmps17
  go_wp2_with fail
  refine (unhide cr _).mono ?_
  rintro e w1 ⟨rfl, hb1⟩
  have hc1 := (bcell hb1).1
  have hz1 : w.heap.size + 1 < w1.heap.size := by have := hb1.size; simp at this; omega
  have hz0 : w.heap.size < w1.heap.size := by omega
  go_wp2_with fail
  refine (unhide cs _).mono ?_
  rintro e w2 ⟨rfl, hb2⟩
  go_wp2
  go_ret
  exact ⟨rfl, (below_box2 hb1).trans (hb2.mono (by omega))⟩

set_option maxHeartbeats 400000 in
theorem ifin_f (n d : Int) (dr : Bool) (m e' : Int) (ds : Bool) (f : Int) (w : World) (hr : Pl.rok n d dr = true) (hs : Pl.rok m e' ds = true) (hf : Pl.isf f = false) :
    Calls Try.prog 17 #[.agg #[.int .i64 n, .int .i64 d, .bool dr], .agg #[.int .i64 m, .int .i64 e', .bool ds], .int .i64 f] w fun e w' => e = .returned (.int .i64 (-1)) ∧ Below w.heap.size w w' := by
  have cr := hide (rok_val 22 irok_any n d dr true hr)
  clear hr
  have cs := hide (rok_val 22 irok_any m e' ds true hs)
  clear hs
  have cf := hide (frame_val 30 iframe_any f false hf)
  clear hf
  go_enter Try.func17, Try.ntmps17
  go_wp2_with fail
  refine (unhide cr _).mono ?_
  rintro e w1 ⟨rfl, hb1⟩
  have hc1 := (bcell hb1).1
  have hz1 : w.heap.size + 1 < w1.heap.size := by have := hb1.size; simp at this; omega
  have hz0 : w.heap.size < w1.heap.size := by omega
  go_wp2_with fail
  refine (unhide cs _).mono ?_
  rintro e w2 ⟨rfl, hb2⟩
  have hc2 := (bcell hb2).1
  go_wp2_with fail
  refine (unhide cf _).mono ?_
  rintro e w3 ⟨rfl, rfl⟩
  go_wp2
  go_ret
  exact ⟨rfl, (below_box2 hb1).trans (hb2.mono (by omega))⟩

set_option maxHeartbeats 400000 in
theorem ifin_q (n d : Int) (dr : Bool) (m e' : Int) (ds : Bool) (f : Int) (w : World) (hr : Pl.rok n d dr = true) (hs : Pl.rok m e' ds = true) (hf : Pl.isf f = true) (hq : Pl.isf (f * d * m / (n * e')) = false) :
    Calls Try.prog 17 #[.agg #[.int .i64 n, .int .i64 d, .bool dr], .agg #[.int .i64 m, .int .i64 e', .bool ds], .int .i64 f] w fun e w' => e = .returned (.int .i64 (-1)) ∧ Below w.heap.size w w' := by
  obtain ⟨b1, b2, b3, b4, b5⟩ := Pl.rok_bd hr
  obtain ⟨k1, k2, k3, k4, k5⟩ := Pl.rok_bd hs
  obtain ⟨f1, f2⟩ := Pl.isf_bd hf
  obtain ⟨g1, g2⟩ := Pl.mul_bd f1 f2 (show 0 ≤ d by omega) b4
  obtain ⟨g3, g4⟩ := Pl.mul_bd g1 g2 (show 0 ≤ m by omega) k2
  obtain ⟨g5, g6⟩ := Pl.mul_bd (show 0 ≤ n by omega) b2 (show 0 ≤ e' by omega) k4
  have g7 : 1 ≤ n * e' := Int.mul_pos (show 0 < n by omega) (show 0 < e' by omega)
  have hq' := hide hq
  clear hq
  have cr := hide (rok_val 22 irok_any n d dr true hr)
  clear hr
  have cs := hide (rok_val 22 irok_any m e' ds true hs)
  clear hs
  have cf := hide (frame_val 30 iframe_any f true hf)
  clear hf
  go_enter Try.func17, Try.ntmps17
  go_wp2_with fail
  refine (unhide cr _).mono ?_
  rintro e w1 ⟨rfl, hb1⟩
  have hc1 := (bcell hb1).1
  have hz1 : w.heap.size + 1 < w1.heap.size := by have := hb1.size; simp at this; omega
  have hz0 : w.heap.size < w1.heap.size := by omega
  go_wp2_with fail
  refine (unhide cs _).mono ?_
  rintro e w2 ⟨rfl, hb2⟩
  have hc2 := (bcell hb2).1
  go_wp2_with fail
  refine (unhide cf _).mono ?_
  rintro e w3 ⟨rfl, rfl⟩
  go_wp2_with fail
  refine (frame_val 30 iframe_any _ false (unhide hq') _).mono ?_
  rintro e w4 ⟨rfl, rfl⟩
  go_wp2
  go_ret
  exact ⟨rfl, (below_box2 hb1).trans (hb2.mono (by omega))⟩

set_option maxHeartbeats 400000 in
theorem ifin_yes (n d : Int) (dr : Bool) (m e' : Int) (ds : Bool) (f : Int) (w : World) (hr : Pl.rok n d dr = true) (hs : Pl.rok m e' ds = true) (hf : Pl.isf f = true) (hq : Pl.isf (f * d * m / (n * e')) = true) :
    Calls Try.prog 17 #[.agg #[.int .i64 n, .int .i64 d, .bool dr], .agg #[.int .i64 m, .int .i64 e', .bool ds], .int .i64 f] w fun e w' => e = .returned (.int .i64 (f * d * m / (n * e'))) ∧ Below w.heap.size w w' := by
  obtain ⟨b1, b2, b3, b4, b5⟩ := Pl.rok_bd hr
  obtain ⟨k1, k2, k3, k4, k5⟩ := Pl.rok_bd hs
  obtain ⟨f1, f2⟩ := Pl.isf_bd hf
  obtain ⟨g1, g2⟩ := Pl.mul_bd f1 f2 (show 0 ≤ d by omega) b4
  obtain ⟨g3, g4⟩ := Pl.mul_bd g1 g2 (show 0 ≤ m by omega) k2
  obtain ⟨g5, g6⟩ := Pl.mul_bd (show 0 ≤ n by omega) b2 (show 0 ≤ e' by omega) k4
  have g7 : 1 ≤ n * e' := Int.mul_pos (show 0 < n by omega) (show 0 < e' by omega)
  have hq' := hide hq
  clear hq
  have cr := hide (rok_val 22 irok_any n d dr true hr)
  clear hr
  have cs := hide (rok_val 22 irok_any m e' ds true hs)
  clear hs
  have cf := hide (frame_val 30 iframe_any f true hf)
  clear hf
  go_enter Try.func17, Try.ntmps17
  go_wp2_with fail
  refine (unhide cr _).mono ?_
  rintro e w1 ⟨rfl, hb1⟩
  have hc1 := (bcell hb1).1
  have hz1 : w.heap.size + 1 < w1.heap.size := by have := hb1.size; simp at this; omega
  have hz0 : w.heap.size < w1.heap.size := by omega
  go_wp2_with fail
  refine (unhide cs _).mono ?_
  rintro e w2 ⟨rfl, hb2⟩
  have hc2 := (bcell hb2).1
  go_wp2_with fail
  refine (unhide cf _).mono ?_
  rintro e w3 ⟨rfl, rfl⟩
  go_wp2_with fail
  refine (frame_val 30 iframe_any _ true (unhide hq') _).mono ?_
  rintro e w4 ⟨rfl, rfl⟩
  go_wp2
  go_ret
  exact ⟨rfl, (below_box2 hb1).trans (hb2.mono (by omega))⟩

theorem ifin_any (n d : Int) (dr : Bool) (m e' : Int) (ds : Bool) (f : Int) (w : World) :
    Calls Try.prog 17 #[.agg #[.int .i64 n, .int .i64 d, .bool dr], .agg #[.int .i64 m, .int .i64 e', .bool ds], .int .i64 f] w fun e w' => e = .returned (.int .i64 (Pl.fin n d dr m e' ds f)) ∧ Below w.heap.size w w' := by
  unfold Pl.fin
  cases hr : Pl.rok n d dr
  · simp only [Bool.false_eq_true, false_and, if_false]; exact ifin_r n d dr m e' ds f w hr
  cases hs : Pl.rok m e' ds
  · simp only [Bool.false_eq_true, false_and, and_false, if_false]; exact ifin_s n d dr m e' ds f w hr hs
  cases hf : Pl.isf f
  · simp only [Bool.false_eq_true, and_false, if_false]; exact ifin_f n d dr m e' ds f w hr hs hf
  rw [if_pos ⟨rfl, rfl, rfl⟩]
  cases hq : Pl.isf (f * d * m / (n * e'))
  · rw [if_neg (by simp)]; exact ifin_q n d dr m e' ds f w hr hs hf hq
  · rw [if_pos rfl]; exact ifin_yes n d dr m e' ds f w hr hs hf hq

set_option maxHeartbeats 400000 in
theorem sfin_r (n d : Int) (dr : Bool) (m e' : Int) (ds : Bool) (f : Int) (w : World) (hr : Pl.rok n d dr = false) :
    Calls Try.prog 18 #[.agg #[.int .i64 n, .int .i64 d, .bool dr], .agg #[.int .i64 m, .int .i64 e', .bool ds], .int .i64 f] w fun e w' => e = .returned (.int .i64 (-1)) ∧ Below w.heap.size w w' := by
  have cr := hide (rok_val 20 srok_any n d dr false hr)
  clear hr
  go_enter Try.func18, Try.ntmps18
  go_wp2_with fail
  refine (unhide cr _).mono ?_
  rintro e w1 ⟨rfl, hb1⟩
  go_wp2
  go_ret
  exact ⟨rfl, below_box2 hb1⟩

set_option maxHeartbeats 400000 in
theorem sfin_s (n d : Int) (dr : Bool) (m e' : Int) (ds : Bool) (f : Int) (w : World) (hr : Pl.rok n d dr = true) (hs : Pl.rok m e' ds = false) :
    Calls Try.prog 18 #[.agg #[.int .i64 n, .int .i64 d, .bool dr], .agg #[.int .i64 m, .int .i64 e', .bool ds], .int .i64 f] w fun e w' => e = .returned (.int .i64 (-1)) ∧ Below w.heap.size w w' := by
  have cr := hide (rok_val 20 srok_any n d dr true hr)
  clear hr
  have cs := hide (rok_val 20 srok_any m e' ds false hs)
  clear hs
  go_enter Try.func18, Try.ntmps18
  go_wp2_with fail
  refine (unhide cr _).mono ?_
  rintro e w1 ⟨rfl, hb1⟩
  have hc1 := (bcell hb1).1
  have hz1 : w.heap.size + 1 < w1.heap.size := by have := hb1.size; simp at this; omega
  have hz0 : w.heap.size < w1.heap.size := by omega
  go_wp2_with fail
  refine (unhide cs _).mono ?_
  rintro e w2 ⟨rfl, hb2⟩
  go_wp2
  go_ret
  exact ⟨rfl, (below_box2 hb1).trans (hb2.mono (by omega))⟩

set_option maxHeartbeats 400000 in
theorem sfin_f (n d : Int) (dr : Bool) (m e' : Int) (ds : Bool) (f : Int) (w : World) (hr : Pl.rok n d dr = true) (hs : Pl.rok m e' ds = true) (hf : Pl.isf f = false) :
    Calls Try.prog 18 #[.agg #[.int .i64 n, .int .i64 d, .bool dr], .agg #[.int .i64 m, .int .i64 e', .bool ds], .int .i64 f] w fun e w' => e = .returned (.int .i64 (-1)) ∧ Below w.heap.size w w' := by
  have cr := hide (rok_val 20 srok_any n d dr true hr)
  clear hr
  have cs := hide (rok_val 20 srok_any m e' ds true hs)
  clear hs
  have cf := hide (frame_val 37 sframe_any f false hf)
  clear hf
  go_enter Try.func18, Try.ntmps18
  go_wp2_with fail
  refine (unhide cr _).mono ?_
  rintro e w1 ⟨rfl, hb1⟩
  have hc1 := (bcell hb1).1
  have hz1 : w.heap.size + 1 < w1.heap.size := by have := hb1.size; simp at this; omega
  have hz0 : w.heap.size < w1.heap.size := by omega
  go_wp2_with fail
  refine (unhide cs _).mono ?_
  rintro e w2 ⟨rfl, hb2⟩
  have hc2 := (bcell hb2).1
  go_wp2_with fail
  refine (unhide cf _).mono ?_
  rintro e w3 ⟨rfl, rfl⟩
  go_wp2
  go_ret
  exact ⟨rfl, (below_box2 hb1).trans (hb2.mono (by omega))⟩

set_option maxHeartbeats 400000 in
theorem sfin_q (n d : Int) (dr : Bool) (m e' : Int) (ds : Bool) (f : Int) (w : World) (hr : Pl.rok n d dr = true) (hs : Pl.rok m e' ds = true) (hf : Pl.isf f = true) (hq : Pl.isf (f * d * m / (n * e')) = false) :
    Calls Try.prog 18 #[.agg #[.int .i64 n, .int .i64 d, .bool dr], .agg #[.int .i64 m, .int .i64 e', .bool ds], .int .i64 f] w fun e w' => e = .returned (.int .i64 (-1)) ∧ Below w.heap.size w w' := by
  obtain ⟨b1, b2, b3, b4, b5⟩ := Pl.rok_bd hr
  obtain ⟨k1, k2, k3, k4, k5⟩ := Pl.rok_bd hs
  obtain ⟨f1, f2⟩ := Pl.isf_bd hf
  obtain ⟨g1, g2⟩ := Pl.mul_bd f1 f2 (show 0 ≤ d by omega) b4
  obtain ⟨g3, g4⟩ := Pl.mul_bd g1 g2 (show 0 ≤ m by omega) k2
  obtain ⟨g5, g6⟩ := Pl.mul_bd (show 0 ≤ n by omega) b2 (show 0 ≤ e' by omega) k4
  have g7 : 1 ≤ n * e' := Int.mul_pos (show 0 < n by omega) (show 0 < e' by omega)
  have hq' := hide hq
  clear hq
  have cr := hide (rok_val 20 srok_any n d dr true hr)
  clear hr
  have cs := hide (rok_val 20 srok_any m e' ds true hs)
  clear hs
  have cf := hide (frame_val 37 sframe_any f true hf)
  clear hf
  go_enter Try.func18, Try.ntmps18
  go_wp2_with fail
  refine (unhide cr _).mono ?_
  rintro e w1 ⟨rfl, hb1⟩
  have hc1 := (bcell hb1).1
  have hz1 : w.heap.size + 1 < w1.heap.size := by have := hb1.size; simp at this; omega
  have hz0 : w.heap.size < w1.heap.size := by omega
  go_wp2_with fail
  refine (unhide cs _).mono ?_
  rintro e w2 ⟨rfl, hb2⟩
  have hc2 := (bcell hb2).1
  go_wp2_with fail
  refine (unhide cf _).mono ?_
  rintro e w3 ⟨rfl, rfl⟩
  go_wp2_with fail
  refine (frame_val 37 sframe_any _ false (unhide hq') _).mono ?_
  rintro e w4 ⟨rfl, rfl⟩
  go_wp2
  go_ret
  exact ⟨rfl, (below_box2 hb1).trans (hb2.mono (by omega))⟩

set_option maxHeartbeats 400000 in
theorem sfin_yes (n d : Int) (dr : Bool) (m e' : Int) (ds : Bool) (f : Int) (w : World) (hr : Pl.rok n d dr = true) (hs : Pl.rok m e' ds = true) (hf : Pl.isf f = true) (hq : Pl.isf (f * d * m / (n * e')) = true) :
    Calls Try.prog 18 #[.agg #[.int .i64 n, .int .i64 d, .bool dr], .agg #[.int .i64 m, .int .i64 e', .bool ds], .int .i64 f] w fun e w' => e = .returned (.int .i64 (f * d * m / (n * e'))) ∧ Below w.heap.size w w' := by
  obtain ⟨b1, b2, b3, b4, b5⟩ := Pl.rok_bd hr
  obtain ⟨k1, k2, k3, k4, k5⟩ := Pl.rok_bd hs
  obtain ⟨f1, f2⟩ := Pl.isf_bd hf
  obtain ⟨g1, g2⟩ := Pl.mul_bd f1 f2 (show 0 ≤ d by omega) b4
  obtain ⟨g3, g4⟩ := Pl.mul_bd g1 g2 (show 0 ≤ m by omega) k2
  obtain ⟨g5, g6⟩ := Pl.mul_bd (show 0 ≤ n by omega) b2 (show 0 ≤ e' by omega) k4
  have g7 : 1 ≤ n * e' := Int.mul_pos (show 0 < n by omega) (show 0 < e' by omega)
  have hq' := hide hq
  clear hq
  have cr := hide (rok_val 20 srok_any n d dr true hr)
  clear hr
  have cs := hide (rok_val 20 srok_any m e' ds true hs)
  clear hs
  have cf := hide (frame_val 37 sframe_any f true hf)
  clear hf
  go_enter Try.func18, Try.ntmps18
  go_wp2_with fail
  refine (unhide cr _).mono ?_
  rintro e w1 ⟨rfl, hb1⟩
  have hc1 := (bcell hb1).1
  have hz1 : w.heap.size + 1 < w1.heap.size := by have := hb1.size; simp at this; omega
  have hz0 : w.heap.size < w1.heap.size := by omega
  go_wp2_with fail
  refine (unhide cs _).mono ?_
  rintro e w2 ⟨rfl, hb2⟩
  have hc2 := (bcell hb2).1
  go_wp2_with fail
  refine (unhide cf _).mono ?_
  rintro e w3 ⟨rfl, rfl⟩
  go_wp2_with fail
  refine (frame_val 37 sframe_any _ true (unhide hq') _).mono ?_
  rintro e w4 ⟨rfl, rfl⟩
  go_wp2
  go_ret
  exact ⟨rfl, (below_box2 hb1).trans (hb2.mono (by omega))⟩

theorem sfin_any (n d : Int) (dr : Bool) (m e' : Int) (ds : Bool) (f : Int) (w : World) :
    Calls Try.prog 18 #[.agg #[.int .i64 n, .int .i64 d, .bool dr], .agg #[.int .i64 m, .int .i64 e', .bool ds], .int .i64 f] w fun e w' => e = .returned (.int .i64 (Pl.fin n d dr m e' ds f)) ∧ Below w.heap.size w w' := by
  unfold Pl.fin
  cases hr : Pl.rok n d dr
  · simp only [Bool.false_eq_true, false_and, if_false]; exact sfin_r n d dr m e' ds f w hr
  cases hs : Pl.rok m e' ds
  · simp only [Bool.false_eq_true, false_and, and_false, if_false]; exact sfin_s n d dr m e' ds f w hr hs
  cases hf : Pl.isf f
  · simp only [Bool.false_eq_true, and_false, if_false]; exact sfin_f n d dr m e' ds f w hr hs hf
  rw [if_pos ⟨rfl, rfl, rfl⟩]
  cases hq : Pl.isf (f * d * m / (n * e'))
  · rw [if_neg (by simp)]; exact sfin_q n d dr m e' ds f w hr hs hf hq
  · rw [if_pos rfl]; exact sfin_yes n d dr m e' ds f w hr hs hf hq

end Go.Proofs.Ytffibbcombjkcaa
