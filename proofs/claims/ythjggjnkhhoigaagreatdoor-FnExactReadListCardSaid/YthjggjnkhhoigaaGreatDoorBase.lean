/-
  Contracts of RateOk, Base, isFrame and of the law's copy of a rate, joined, for every rate: what each answers, and that nothing that was there is written.
-/
import Derived.Test.YthjggjnkhhoigaaGreatDoorRate
namespace Go.Proofs.YthjggjnkhhoigaaGreatDoor
open Go.RowKit

theorem rok_in {n d : Int} {dr : Bool} (h : 1 ≤ n ∧ n ≤ 240000 ∧ 1 ≤ d ∧ d ≤ 1001) :
    Pl.rok n d dr = ((Pl.gc n d == 1) && decide (n ≤ 120 * d) && (!dr || (d == 1001 && (n == 30000 || n == 60000)))) := by
  obtain ⟨h1, h2, h3, h4⟩ := h
  simp [Pl.rok, h1, h2, h3, h4]
theorem rok_out {n d : Int} {dr : Bool} (h : ¬ (1 ≤ n ∧ n ≤ 240000 ∧ 1 ≤ d ∧ d ≤ 1001)) : Pl.rok n d dr = false := by
  cases hr : Pl.rok n d dr
  · rfl
  · have := Pl.rok_bd hr; omega

theorem srok_any (n d : Int) (dr : Bool) (w : World) :
    Calls Tryz.prog 11 #[.agg #[.int .i64 n, .int .i64 d, .bool dr]] w fun e w' => e = .returned (.bool (Pl.rok n d dr)) ∧ Below w.heap.size w w' := by
  by_cases h : 1 ≤ n ∧ n ≤ 240000 ∧ 1 ≤ d ∧ d ≤ 1001
  · rw [rok_in h]
    cases hg : Pl.gc n d != 1
    · have hg' : (Pl.gc n d == 1) = true := by simpa using hg
      by_cases hq : n ≤ 120 * d
      · rw [hg', decide_eq_true hq]
        cases dr
        · exact srok_plain n d w h hg hq
        · cases hd : d == 1001
          · exact srok_d1 n d w h hg hq hd
          · cases hn : n == 30000
            · cases hm : n == 60000
              · exact srok_d4 n d w h hg hq hd hn hm
              · exact srok_d3 n d w h hg hq hd hn hm
            · exact srok_d2 n d w h hg hq hd hn
      · rw [hg', decide_eq_false hq]
        exact srok_no4 n d dr w h hg hq
    · have hg' : (Pl.gc n d == 1) = false := by simpa using hg
      rw [hg']
      exact srok_no3 n d dr w h hg
  · rw [rok_out h]
    by_cases h1 : 1 ≤ n ∧ n ≤ 240000
    · exact srok_no2 n d dr w h1 (by omega)
    · exact srok_no1 n d dr w h1

theorem irok_any (n d : Int) (dr : Bool) (w : World) :
    Calls Tryz.prog 26 #[.agg #[.int .i64 n, .int .i64 d, .bool dr]] w fun e w' => e = .returned (.bool (Pl.rok n d dr)) ∧ Below w.heap.size w w' := by
  by_cases h : 1 ≤ n ∧ n ≤ 240000 ∧ 1 ≤ d ∧ d ≤ 1001
  · rw [rok_in h]
    by_cases hq : n ≤ 120 * d
    · rw [decide_eq_true hq]
      cases hg : Pl.gc n d != 1
      · have hg' : (Pl.gc n d == 1) = true := by simpa using hg
        rw [hg']
        cases dr
        · exact irok_plain n d w h hg hq
        · cases hd : d == 1001
          · exact irok_d1 n d w h hg hq hd
          · cases hn : n == 30000
            · cases hm : n == 60000
              · exact irok_d4 n d w h hg hq hd hn hm
              · exact irok_d3 n d w h hg hq hd hn hm
            · exact irok_d2 n d w h hg hq hd hn
      · have hg' : (Pl.gc n d == 1) = false := by simpa using hg
        rw [hg']
        exact irok_no3 n d dr w h hg hq
    · rw [decide_eq_false hq, Bool.and_false]
      exact irok_no4 n d dr w h hq
  · rw [rok_out h]
    by_cases h1 : n < 1
    · exact irok_n1 n d dr w h1
    by_cases h2 : 240000 < n
    · exact irok_n2 n d dr w h1 h2
    by_cases h3 : d < 1
    · exact irok_n3 n d dr w h1 h2 h3
    · exact irok_n4 n d dr w h1 h2 h3 (by omega)

set_option maxHeartbeats 400000 in
theorem to_any (n d : Int) (dr : Bool) (w : World) :
    Calls Tryz.prog 5 #[.agg #[.int .i64 n, .int .i64 d, .bool dr]] w fun e w' => e = .returned (.agg #[.int .i64 n, .int .i64 d, .bool dr]) ∧ Below w.heap.size w w' := by
  go_enter Tryz.func5, Tryz.ntmps5
  go_wp2
  exact bodyPost_ret (v := .agg #[.int .i64 n, .int .i64 d, .bool dr]) (by simp [results, Tryz.results5, go_sem]) rfl ⟨rfl, (((Below.refl _ _).alloc (Nat.le_refl _) _).alloc (by simp) _).alloc (by simp; omega) _⟩

set_option maxHeartbeats 400000 in
theorem sbase_no (n d : Int) (dr : Bool) (w : World) (h : Pl.rok n d dr = false) :
    Calls Tryz.prog 37 #[.agg #[.int .i64 n, .int .i64 d, .bool dr]] w fun e w' => e = .returned (.int .i64 0) ∧ Below w.heap.size w w' := by
  have c := srok_any n d dr
  rw [h] at c
  have c' := hide c
  clear c
  go_enter Tryz.func37, Tryz.ntmps37
  go_wp2_with fail
  refine (unhide c' _).mono ?_
  rintro e w1 ⟨rfl, hb⟩
  go_wp2
  go_ret
  exact ⟨rfl, ((Below.refl _ _).alloc (Nat.le_refl _) _).trans (hb.mono (by simp))⟩

set_option maxHeartbeats 400000 in
theorem sbase_yes (n d : Int) (dr : Bool) (w : World) (h : Pl.rok n d dr = true) :
    Calls Tryz.prog 37 #[.agg #[.int .i64 n, .int .i64 d, .bool dr]] w fun e w' => e = .returned (.int .i64 ((n + d - 1) / d)) ∧ Below w.heap.size w w' := by
  have c := srok_any n d dr
  obtain ⟨b1, b2, b3, b4, b5⟩ := Pl.rok_bd h
  rw [h] at c
  have c' := hide c
  clear c h
  go_enter Tryz.func37, Tryz.ntmps37
  go_wp2_with fail
  refine (unhide c' _).mono ?_
  rintro e w1 ⟨rfl, hb⟩
  obtain ⟨hc, hf⟩ := bcell hb
  go_wp2
  go_ret
  exact ⟨rfl, ((Below.refl _ _).alloc (Nat.le_refl _) _).trans (hb.mono (by simp))⟩

set_option maxHeartbeats 400000 in
theorem ibase_no (n d : Int) (dr : Bool) (w : World) (h : Pl.rok n d dr = false) :
    Calls Tryz.prog 81 #[.agg #[.int .i64 n, .int .i64 d, .bool dr]] w fun e w' => e = .returned (.int .i64 0) ∧ Below w.heap.size w w' := by
  have c := irok_any n d dr
  rw [h] at c
  have c' := hide c
  clear c
  go_enter Tryz.func81, Tryz.ntmps81
  go_wp2_with fail
  refine (unhide c' _).mono ?_
  rintro e w1 ⟨rfl, hb⟩
  go_wp2
  go_ret
  exact ⟨rfl, ((Below.refl _ _).alloc (Nat.le_refl _) _).trans (hb.mono (by simp))⟩

set_option maxHeartbeats 400000 in
theorem ibase_yes (n d : Int) (dr : Bool) (w : World) (h : Pl.rok n d dr = true) :
    Calls Tryz.prog 81 #[.agg #[.int .i64 n, .int .i64 d, .bool dr]] w fun e w' => e = .returned (.int .i64 ((n + d - 1) / d)) ∧ Below w.heap.size w w' := by
  have c := irok_any n d dr
  obtain ⟨b1, b2, b3, b4, b5⟩ := Pl.rok_bd h
  rw [h] at c
  have c' := hide c
  clear c h
  go_enter Tryz.func81, Tryz.ntmps81
  go_wp2_with fail
  refine (unhide c' _).mono ?_
  rintro e w1 ⟨rfl, hb⟩
  obtain ⟨hc, hf⟩ := bcell hb
  go_wp2
  go_ret
  exact ⟨rfl, ((Below.refl _ _).alloc (Nat.le_refl _) _).trans (hb.mono (by simp))⟩

theorem sbase_any (n d : Int) (dr : Bool) (w : World) :
    Calls Tryz.prog 37 #[.agg #[.int .i64 n, .int .i64 d, .bool dr]] w fun e w' => e = .returned (.int .i64 (Pl.base n d dr)) ∧ Below w.heap.size w w' := by
  cases h : Pl.rok n d dr
  · have e : Pl.base n d dr = 0 := by simp [Pl.base, h]
    rw [e]; exact sbase_no n d dr w h
  · have e : Pl.base n d dr = (n + d - 1) / d := by simp [Pl.base, h]
    rw [e]; exact sbase_yes n d dr w h
theorem ibase_any (n d : Int) (dr : Bool) (w : World) :
    Calls Tryz.prog 81 #[.agg #[.int .i64 n, .int .i64 d, .bool dr]] w fun e w' => e = .returned (.int .i64 (Pl.base n d dr)) ∧ Below w.heap.size w w' := by
  cases h : Pl.rok n d dr
  · have e : Pl.base n d dr = 0 := by simp [Pl.base, h]
    rw [e]; exact ibase_no n d dr w h
  · have e : Pl.base n d dr = (n + d - 1) / d := by simp [Pl.base, h]
    rw [e]; exact ibase_yes n d dr w h

set_option maxHeartbeats 400000 in
theorem iframe_any (f : Int) (w : World) :
    Calls Tryz.prog 101 #[.int .i64 f] w fun e w' => e = .returned (.bool (Pl.isf f)) ∧ w' = w := by
  by_cases h1 : 0 ≤ f
  · by_cases h2 : f ≤ 10000000
    · rw [Pl.isf_mk ⟨h1, h2⟩]
      go_enter Tryz.func101, Tryz.ntmps101
      go_wp2
      go_ret
      exact ⟨rfl, rfl⟩
    · rw [Pl.isf_no (by omega)]
      go_enter Tryz.func101, Tryz.ntmps101
      go_wp2
      go_ret
      exact ⟨ret_bool (by simp), rfl⟩
  · rw [Pl.isf_no (by omega)]
    have hd : decide (0 ≤ f) = false := by simpa using h1
    go_enter Tryz.func101, Tryz.ntmps101
    go_wp2
    go_ret
    exact ⟨rfl, rfl⟩

set_option maxHeartbeats 400000 in
theorem sframe_any (f : Int) (w : World) :
    Calls Tryz.prog 56 #[.int .i64 f] w fun e w' => e = .returned (.bool (Pl.isf f)) ∧ w' = w := by
  have c := in_val f 0 10000000 (Pl.isf f) rfl
  go_enter Tryz.func56, Tryz.ntmps56
  go_wp2_with (go_at_call 16; refine (c _).mono ?_; rintro e w' ⟨rfl, rfl⟩)
  go_ret
  exact ⟨rfl, rfl⟩

end Go.Proofs.YthjggjnkhhoigaaGreatDoor
