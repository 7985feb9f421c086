/-
  Contracts of the program's small functions on times (what is left out, the clock's number, divisors, digits, marks), for right rates and frames: what each answers, and that nothing that was there is written.
  Contracts of the program's clock number and of its digits that are appended, for right rates and frames: what each answers, and that nothing that was there is written.
-/
import Derived.Test.YtfhbmfndjbdhcaaGreatDoorSTime
namespace Go.Proofs.YtfhbmfndjbdhcaaGreatDoor
open Go.RowKit
set_option linter.unusedVariables false

set_option maxHeartbeats 400000 in
theorem ileft_no (n d : Int) (w : World) :
    Calls Tryz.prog 94 #[.agg #[.int .i64 n, .int .i64 d, .bool false]] w fun e w' => e = .returned (.int .i64 0) ∧ Below w.heap.size w w' := by
  go_enter Tryz.func94, Tryz.ntmps94
  go_wp2
  go_ret
  exact ⟨rfl, (Below.refl _ _).alloc (Nat.le_refl _) _⟩
set_option maxHeartbeats 400000 in
theorem ileft_60 (d : Int) (w : World) :
    Calls Tryz.prog 94 #[.agg #[.int .i64 60000, .int .i64 d, .bool true]] w fun e w' => e = .returned (.int .i64 4) ∧ Below w.heap.size w w' := by
  go_enter Tryz.func94, Tryz.ntmps94
  go_wp2
  go_ret
  exact ⟨rfl, (Below.refl _ _).alloc (Nat.le_refl _) _⟩
set_option maxHeartbeats 400000 in
theorem ileft_30 (d : Int) (w : World) :
    Calls Tryz.prog 94 #[.agg #[.int .i64 30000, .int .i64 d, .bool true]] w fun e w' => e = .returned (.int .i64 2) ∧ Below w.heap.size w w' := by
  go_enter Tryz.func94, Tryz.ntmps94
  go_wp2
  go_ret
  exact ⟨rfl, (Below.refl _ _).alloc (Nat.le_refl _) _⟩

set_option maxHeartbeats 400000 in
theorem idiv_any (b : Int) (w : World) (h0 : 0 ≤ b) (h1 : b ≤ 1000000) :
    Calls Tryz.prog 69 #[.int .i64 b] w fun e w' => e = .returned (.agg #[.int .i64 (3600 * b), .int .i64 (60 * b), .int .i64 b, .int .i64 1]) ∧ Below w.heap.size w w' := by
  go_enter Tryz.func69, Tryz.ntmps69
  go_wp2
  exact bodyPost_ret (v := .agg #[.int .i64 (3600 * b), .int .i64 (60 * b), .int .i64 b, .int .i64 1]) (by simp [results, Tryz.results69, go_sem]) rfl ⟨rfl, (Below.refl _ _).alloc (Nat.le_refl _) _⟩

def fdig (b : Int) (i : Int) : Int := if 100 < b ∧ i = 3 then 3 else 2
set_option maxHeartbeats 400000 in
theorem ifd_any (b i : Int) (w : World) :
    Calls Tryz.prog 73 #[.int .i64 b, .int .i64 i] w fun e w' => e = .returned (.int .i64 (fdig b i)) ∧ w' = w := by
  unfold fdig
  by_cases hb : 100 < b
  · by_cases hi : i = 3
    · subst hi
      rw [if_pos ⟨hb, rfl⟩]
      go_enter Tryz.func73, Tryz.ntmps73
      go_wp2
      go_ret
      exact ⟨rfl, rfl⟩
    · rw [if_neg (by omega)]
      have hi' : (i == 3) = false := by simpa using hi
      go_enter Tryz.func73, Tryz.ntmps73
      go_wp2
      go_ret
      exact ⟨rfl, rfl⟩
  · rw [if_neg (by omega)]
    have hb' : decide (100 < b) = false := by simpa using hb
    go_enter Tryz.func73, Tryz.ntmps73
    go_wp2
    go_ret
    exact ⟨rfl, rfl⟩

def tbytes (b : Int) : Int := if 100 < b then 12 else 11
theorem fdig_add (b : Int) (k : Nat) (hk : k < 4) : (3 + 2 * (k : Int) + fdig b k = if 100 < b ∧ k = 3 then 3 + 2 * ((k : Int) + 1) + 1 else 3 + 2 * ((k : Int) + 1)) := by
  unfold fdig; split <;> split <;> omega
set_option maxHeartbeats 400000 in
theorem itb_any (b : Int) (w : World) :
    Calls Tryz.prog 71 #[.int .i64 b] w fun e w' => e = .returned (.int .i64 (tbytes b)) ∧ w' = w := by
  go_enter Tryz.func71, Tryz.ntmps71
  go_wp2
  go_loop [3, 5] (fun s t => ∃ k : Nat, k ≤ 4 ∧ t = .int .i64 k ∧ s = .int .i64 (if k = 4 then tbytes b else 3 + 2 * (k : Int))) (fun _ t => 4 - (intOf t).toNat)
  case atStart => exact ⟨0, by omega, rfl, rfl⟩
  case round =>
    obtain ⟨k, hk, rfl, rfl⟩ := hrel
    by_cases hlt : k < 4
    · have e0 : (if k = 4 then tbytes b else 3 + 2 * (k : Int)) = 3 + 2 * (k : Int) := if_neg (by omega)
      rw [e0]
      have hfd : fdig b k = 2 ∨ fdig b k = 3 := by unfold fdig; split <;> simp
      have hf0 : 2 ≤ fdig b k := by omega
      have hf1 : fdig b k ≤ 3 := by omega
      have hnew : Hid ((3 + 2 * (k : Int) + fdig b k) = (if k + 1 = 4 then tbytes b else 3 + 2 * ((k + 1 : Nat) : Int))) := hide (by
        unfold fdig tbytes; split <;> split <;> (try split) <;> omega)
      clear hfd e0
      go_wp2_with (go_at_call 73; refine (ifd_any _ _ _).mono ?_; rintro e w' ⟨rfl, rfl⟩)
      go_round
      case rel => exact ⟨k + 1, by omega, by go_num, by rw [← unhide hnew]⟩
      case measure => simp [intOf]; omega
    · have e0 : k = 4 := by omega
      subst e0
      go_wp2
      go_ret
      exact ⟨rfl, rfl⟩

set_option maxHeartbeats 400000 in
theorem imark_no (n d i : Int) (w : World) :
    Calls Tryz.prog 72 #[.agg #[.int .i64 n, .int .i64 d, .bool false], .int .i64 i] w fun e w' => e = .returned (.int .i32 58) ∧ Below w.heap.size w w' := by
  go_enter Tryz.func72, Tryz.ntmps72
  go_wp2
  go_ret
  exact ⟨rfl, (Below.refl _ _).alloc (Nat.le_refl _) _⟩
set_option maxHeartbeats 400000 in
theorem imark_yes (n d : Int) (w : World) :
    Calls Tryz.prog 72 #[.agg #[.int .i64 n, .int .i64 d, .bool true], .int .i64 3] w fun e w' => e = .returned (.int .i32 59) ∧ Below w.heap.size w w' := by
  go_enter Tryz.func72, Tryz.ntmps72
  go_wp2
  go_ret
  exact ⟨rfl, (Below.refl _ _).alloc (Nat.le_refl _) _⟩
set_option maxHeartbeats 400000 in
theorem imark_mid (n d i : Int) (w : World) (hi : (i == 3) = false) :
    Calls Tryz.prog 72 #[.agg #[.int .i64 n, .int .i64 d, .bool true], .int .i64 i] w fun e w' => e = .returned (.int .i32 58) ∧ Below w.heap.size w w' := by
  go_enter Tryz.func72, Tryz.ntmps72
  go_wp2
  go_ret
  exact ⟨rfl, (Below.refl _ _).alloc (Nat.le_refl _) _⟩
def fmark (dr : Bool) (i : Int) : UInt8 := if dr = true ∧ i = 3 then 59 else 58
theorem imark_any (n d : Int) (dr : Bool) (i : Int) (w : World) :
    Calls Tryz.prog 72 #[.agg #[.int .i64 n, .int .i64 d, .bool dr], .int .i64 i] w fun e w' => e = .returned (.int .i32 ((fmark dr i).toNat : Int)) ∧ Below w.heap.size w w' := by
  unfold fmark
  cases dr
  · simpa using imark_no n d i w
  · by_cases hi : i = 3
    · subst hi; simpa using imark_yes n d w
    · simpa [hi] using imark_mid n d i w (by simpa using hi)

end Go.Proofs.YtfhbmfndjbdhcaaGreatDoor

namespace Go.Proofs.YtfhbmfndjbdhcaaGreatDoor
open Go.RowKit
set_option linter.unusedVariables false

set_option maxHeartbeats 400000 in
theorem iclk_30a (f : Int) (w : World) (hr : Pl.rok 30000 1001 true = true) (hf : Pl.isf f = true) (hw : 1800 ≤ f % 17982) :
    Calls Tryz.prog 70 #[.agg #[.int .i64 30000, .int .i64 1001, .bool true], .int .i64 f] w fun e w' => e = .returned (.int .i64 (f + 18 * (f / 17982) + 2 * ((f % 17982 - 1800) / 1798 + 1))) ∧ Below w.heap.size w w' := by
  obtain ⟨f1, f2⟩ := Pl.isf_bd hf
  have cb := hide (base_val 67 ibase_any 30000 1001 true 30 (Pl.base30 hr))
  clear hr hf
  go_enter Tryz.func70, Tryz.ntmps70
  go_wp2_with fail
  refine (ileft_30 1001 _).mono ?_
  rintro e w1 ⟨rfl, hb1⟩
  have hc1 := (bcell hb1).1
  go_wp2_with fail
  refine (unhide cb _).mono ?_
  rintro e w2 ⟨rfl, hb2⟩
  go_wp2
  go_ret
  have k1 := below_box hb1
  exact ⟨ret_int (by omega), k1.trans (hb2.mono k1.size)⟩

set_option maxHeartbeats 400000 in
theorem iclk_30b (f : Int) (w : World) (hr : Pl.rok 30000 1001 true = true) (hf : Pl.isf f = true) (hw : ¬ 1800 ≤ f % 17982) :
    Calls Tryz.prog 70 #[.agg #[.int .i64 30000, .int .i64 1001, .bool true], .int .i64 f] w fun e w' => e = .returned (.int .i64 (f + 18 * (f / 17982))) ∧ Below w.heap.size w w' := by
  obtain ⟨f1, f2⟩ := Pl.isf_bd hf
  have cb := hide (base_val 67 ibase_any 30000 1001 true 30 (Pl.base30 hr))
  clear hr hf
  go_enter Tryz.func70, Tryz.ntmps70
  go_wp2_with fail
  refine (ileft_30 1001 _).mono ?_
  rintro e w1 ⟨rfl, hb1⟩
  have hc1 := (bcell hb1).1
  go_wp2_with fail
  refine (unhide cb _).mono ?_
  rintro e w2 ⟨rfl, hb2⟩
  go_wp2
  go_ret
  have k1 := below_box hb1
  exact ⟨ret_int (by omega), k1.trans (hb2.mono k1.size)⟩

set_option maxHeartbeats 400000 in
theorem iclk_60a (f : Int) (w : World) (hr : Pl.rok 60000 1001 true = true) (hf : Pl.isf f = true) (hw : 3600 ≤ f % 35964) :
    Calls Tryz.prog 70 #[.agg #[.int .i64 60000, .int .i64 1001, .bool true], .int .i64 f] w fun e w' => e = .returned (.int .i64 (f + 36 * (f / 35964) + 4 * ((f % 35964 - 3600) / 3596 + 1))) ∧ Below w.heap.size w w' := by
  obtain ⟨f1, f2⟩ := Pl.isf_bd hf
  have cb := hide (base_val 67 ibase_any 60000 1001 true 60 (Pl.base60 hr))
  clear hr hf
  go_enter Tryz.func70, Tryz.ntmps70
  go_wp2_with fail
  refine (ileft_60 1001 _).mono ?_
  rintro e w1 ⟨rfl, hb1⟩
  have hc1 := (bcell hb1).1
  go_wp2_with fail
  refine (unhide cb _).mono ?_
  rintro e w2 ⟨rfl, hb2⟩
  go_wp2
  go_ret
  have k1 := below_box hb1
  exact ⟨ret_int (by omega), k1.trans (hb2.mono k1.size)⟩

set_option maxHeartbeats 400000 in
theorem iclk_60b (f : Int) (w : World) (hr : Pl.rok 60000 1001 true = true) (hf : Pl.isf f = true) (hw : ¬ 3600 ≤ f % 35964) :
    Calls Tryz.prog 70 #[.agg #[.int .i64 60000, .int .i64 1001, .bool true], .int .i64 f] w fun e w' => e = .returned (.int .i64 (f + 36 * (f / 35964))) ∧ Below w.heap.size w w' := by
  obtain ⟨f1, f2⟩ := Pl.isf_bd hf
  have cb := hide (base_val 67 ibase_any 60000 1001 true 60 (Pl.base60 hr))
  clear hr hf
  go_enter Tryz.func70, Tryz.ntmps70
  go_wp2_with fail
  refine (ileft_60 1001 _).mono ?_
  rintro e w1 ⟨rfl, hb1⟩
  have hc1 := (bcell hb1).1
  go_wp2_with fail
  refine (unhide cb _).mono ?_
  rintro e w2 ⟨rfl, hb2⟩
  go_wp2
  go_ret
  have k1 := below_box hb1
  exact ⟨ret_int (by omega), k1.trans (hb2.mono k1.size)⟩

set_option maxHeartbeats 400000 in
theorem iclk_no (n d : Int) (f : Int) (w : World) (hr : Pl.rok n d false = true) (hf : Pl.isf f = true) :
    Calls Tryz.prog 70 #[.agg #[.int .i64 n, .int .i64 d, .bool false], .int .i64 f] w fun e w' => e = .returned (.int .i64 f) ∧ Below w.heap.size w w' := by
  obtain ⟨f1, f2⟩ := Pl.isf_bd hf
  obtain ⟨b1, b2⟩ := Pl.base_bd hr
  have cb := hide (base_val 67 ibase_any n d false _ rfl)
  clear hr hf
  generalize Pl.base n d false = b at *
  go_enter Tryz.func70, Tryz.ntmps70
  go_wp2_with fail
  refine (ileft_no n d _).mono ?_
  rintro e w1 ⟨rfl, hb1⟩
  have hc1 := (bcell hb1).1
  go_wp2_with fail
  refine (unhide cb _).mono ?_
  rintro e w2 ⟨rfl, hb2⟩
  have k1 := below_box hb1
  have k2 := k1.trans (hb2.mono k1.size)
  go_wp2
  all_goals (go_ret; exact ⟨rfl, k2⟩)

theorem iclk_any (n d : Int) (dr : Bool) (f : Int) (w : World) (hr : Pl.rok n d dr = true) (hf : Pl.isf f = true) :
    Calls Tryz.prog 70 #[.agg #[.int .i64 n, .int .i64 d, .bool dr], .int .i64 f] w fun e w' => e = .returned (.int .i64 (Pl.clk n dr f)) ∧ Below w.heap.size w w' := by
  cases dr
  · have e : Pl.clk n false f = f := by simp [Pl.clk]
    rw [e]; exact iclk_no n d f w hr hf
  · obtain ⟨rfl, rfl | rfl⟩ := Pl.rok_drop hr
    · by_cases hw : 1800 ≤ f % 17982
      · have e : Pl.clk 30000 true f = f + 18 * (f / 17982) + 2 * ((f % 17982 - 1800) / 1798 + 1) := by simp [Pl.clk, Pl.cd, hw]
        rw [e]; exact iclk_30a f w hr hf hw
      · have e : Pl.clk 30000 true f = f + 18 * (f / 17982) := by simp [Pl.clk, Pl.cd, hw]
        rw [e]; exact iclk_30b f w hr hf hw
    · by_cases hw : 3600 ≤ f % 35964
      · have e : Pl.clk 60000 true f = f + 36 * (f / 35964) + 4 * ((f % 35964 - 3600) / 3596 + 1) := by simp [Pl.clk, Pl.cd, hw]
        rw [e]; exact iclk_60a f w hr hf hw
      · have e : Pl.clk 60000 true f = f + 36 * (f / 35964) := by simp [Pl.clk, Pl.cd, hw]
        rw [e]; exact iclk_60b f w hr hf hw

end Go.Proofs.YtfhbmfndjbdhcaaGreatDoor
