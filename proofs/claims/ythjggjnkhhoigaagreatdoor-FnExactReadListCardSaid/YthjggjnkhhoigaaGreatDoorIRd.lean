/-
  Contract of the program's TimeRead, for every argument: what it answers, and that nothing that was there is written.
-/
import Derived.Test.YthjggjnkhhoigaaGreatDoorIRead
import Derived.Test.YthjggjnkhhoigaaGreatDoorIAny
namespace Go.Proofs.YthjggjnkhhoigaaGreatDoor
open Go.RowKit Go.Joins
set_option linter.unusedVariables false

theorem RD_no {n d : Int} {dr : Bool} {t : List UInt8} (h : ∀ f, Pl.tt n d dr f = t → t = []) : Pl.RD n d dr t 0 false := .inr ⟨rfl, rfl, h⟩

set_option maxHeartbeats 400000 in
theorem ird_r (n d : Int) (dr : Bool) (s : ByteArray) (w : World) (hr : Pl.rok n d dr = false) :
    Calls Tryz.prog 65 #[.agg #[.int .i64 n, .int .i64 d, .bool dr], .string s] w fun e w' => e = .returned (.tuple #[.int .i64 0, .bool false]) ∧ Below w.heap.size w w' := by
  have cb := hide (base_val 81 ibase_any n d dr 0 (Pl.base_zero hr))
  clear hr
  go_enter Tryz.func65, Tryz.ntmps65
  go_wp2_with fail
  refine (unhide cb _).mono ?_
  rintro e w1 ⟨rfl, hb⟩
  go_wp2
  go_ret2
  exact ⟨rfl, below_box hb⟩

set_option maxHeartbeats 400000 in
theorem ird_l (n d : Int) (dr : Bool) (s : ByteArray) (w : World) (hs : s.size ≤ maxLen) (hr : Pl.rok n d dr = true) (hl : ¬ (s.size : Int) = tbytes (Pl.base n d dr)) :
    Calls Tryz.prog 65 #[.agg #[.int .i64 n, .int .i64 d, .bool dr], .string s] w fun e w' => e = .returned (.tuple #[.int .i64 0, .bool false]) ∧ Below w.heap.size w w' := by
  unfold maxLen at hs
  obtain ⟨b1, b2⟩ := Pl.base_bd hr
  have cb := hide (base_val 81 ibase_any n d dr _ rfl)
  clear hr
  generalize Pl.base n d dr = b at *
  have hz : (b == 0) = false := by simp; omega
  have hl' : ((s.size : Int) != tbytes b) = true := by simpa using hl
  go_enter Tryz.func65, Tryz.ntmps65
  go_wp2_with fail
  refine (unhide cb _).mono ?_
  rintro e w1 ⟨rfl, hb⟩
  go_wp2_with fail
  refine (itb_any b _).mono ?_
  rintro e w2 ⟨rfl, rfl⟩
  go_wp2
  go_ret2
  exact ⟨rfl, below_box hb⟩

set_option maxHeartbeats 800000 in
theorem ird_m (n d : Int) (dr : Bool) (s : ByteArray) (w : World) (hr : Pl.rok n d dr = true) (hl : (s.size : Int) = tbytes (Pl.base n d dr)) :
    Calls Tryz.prog 65 #[.agg #[.int .i64 n, .int .i64 d, .bool dr], .string s] w fun e w' => ∃ x ok, e = .returned (.tuple #[.int .i64 x, .bool ok]) ∧ Pl.RD n d dr s.data.toList x ok ∧ Below w.heap.size w w' := by
  obtain ⟨b1, b2⟩ := Pl.base_bd hr
  have cb := hide (base_val 81 ibase_any n d dr _ rfl)
  have hs12 : s.size ≤ 12 := by unfold tbytes at hl; split at hl <;> omega
  have hs11 : 11 ≤ s.size := by unfold tbytes at hl; split at hl <;> omega
  have cr := hide (fun w => iread_any n d dr s w hr hs12)
  have cf := hide (fun x w h0 h1 => icf_any n d dr x w hr h0 h1)
  have hread : Hid (∀ f, Pl.tt n d dr f = s.data.toList → Pl.rf dr (Pl.base n d dr) s.data.toList (0, 0, 0) = some (Pl.clk n dr f) ∧ Pl.cf n dr (Pl.base n d dr) (Pl.clk n dr f) = f) := hide (fun f hf => Pl.tt_read hf (by
    intro h0
    have h1 : s.data.toList.length = s.size := by simp
    rw [h0] at h1; simp at h1; omega))
  have hne : Hid (s.data.toList ≠ []) := hide (by
    intro h0
    have h1 : s.data.toList.length = s.size := by simp
    rw [h0] at h1; simp at h1; omega)
  clear hr
  generalize Pl.base n d dr = b at *
  have hz : (b == 0) = false := by simp; omega
  have hl' : ((s.size : Int) != tbytes b) = false := by simpa using hl
  clear hl
  go_enter Tryz.func65, Tryz.ntmps65
  go_wp2_with fail
  refine (unhide cb _).mono ?_
  rintro e w1 ⟨rfl, hb⟩
  have hc1 := (bcell hb).1
  have k1 := below_box hb
  have hs1 : w.heap.size < w1.heap.size := by have := hb.size; simp at this; omega
  go_wp2_with fail
  refine (itb_any b _).mono ?_
  rintro e w2 ⟨rfl, rfl⟩
  go_wp2_with fail
  refine (unhide cr _).mono ?_
  cases hR : Pl.rf dr b s.data.toList (0, 0, 0) with
  | none =>
    rintro e w3 ⟨rfl, hb3⟩
    have hfin : Hid (Pl.RD n d dr s.data.toList 0 false) := hide (RD_no (fun f hf => by
      have := (unhide hread f hf).1
      rw [hR] at this; cases this))
    have k3 := k1.trans (hb3.mono k1.size)
    clear hR hread hc1
    go_wp2
    go_ret2
    exact ⟨0, false, rfl, unhide hfin, k3⟩
  | some x =>
    rintro e w3 ⟨⟨rfl, x0, x1⟩, hb3⟩
    have hR' := hide hR
    clear hR
    have hc3 := (bcell hb3).1
    have k3 := k1.trans (hb3.mono k1.size)
    have hs3 : w.heap.size < w3.heap.size := by have := hb3.size; omega
    go_wp2_with fail
    refine (unhide cf x _ x0 x1).mono ?_
    rintro e w4 ⟨rfl, hb4⟩
    have hc4 := (bcell hb4).1
    have k4 := k3.trans (hb4.mono k3.size)
    generalize hF : Pl.cf n dr b x = F
    have hF' := hide hF
    clear hF
    go_wp2_with fail
    refine (itext_any n d dr F _).mono ?_
    rintro e w5 ⟨rfl, hb5⟩
    have k5 := k4.trans (hb5.mono k4.size)
    by_cases heq : Pl.tt n d dr F = s.data.toList
    · have hfin : Hid (Pl.RD n d dr s.data.toList F true) := hide (.inl ⟨rfl, unhide hne, heq⟩)
      have hcmp : ((Pl.tt n d dr F) == s.toList) = true := by rw [ByteArray.toList_eq]; simpa using heq
      clear heq hc1 hc3 hc4
      go_wp2
      go_ret2
      exact ⟨F, true, rfl, unhide hfin, k5⟩
    · have hfin : Hid (Pl.RD n d dr s.data.toList 0 false) := hide (RD_no (fun f hf => by
        obtain ⟨a1, a2⟩ := unhide hread f hf
        rw [unhide hR'] at a1
        have : x = Pl.clk n dr f := Option.some.inj a1
        rw [← this, unhide hF'] at a2
        rw [a2] at heq; exact absurd hf heq))
      have hcmp : ((Pl.tt n d dr F) == s.toList) = false := by rw [ByteArray.toList_eq]; simpa using heq
      clear heq hc1 hc3 hc4
      go_wp2
      go_ret2
      exact ⟨0, false, rfl, unhide hfin, k5⟩

theorem ird_any (n d : Int) (dr : Bool) (s : ByteArray) (w : World) (hs : s.size ≤ maxLen) :
    Calls Tryz.prog 65 #[.agg #[.int .i64 n, .int .i64 d, .bool dr], .string s] w fun e w' => ∃ x ok, e = .returned (.tuple #[.int .i64 x, .bool ok]) ∧ Pl.RD n d dr s.data.toList x ok ∧ Below w.heap.size w w' := by
  cases hr : Pl.rok n d dr
  · refine (ird_r n d dr s w hr).mono fun e w' ⟨h1, h2⟩ => ⟨0, false, h1, RD_no (fun f hf => ?_), h2⟩
    rw [tt_no1 hr] at hf; exact hf.symm
  · by_cases hl : (s.size : Int) = tbytes (Pl.base n d dr)
    · exact ird_m n d dr s w hr hl
    · refine (ird_l n d dr s w hs hr hl).mono fun e w' ⟨h1, h2⟩ => ⟨0, false, h1, RD_no (fun f hf => ?_), h2⟩
      by_cases h0 : s.data.toList = []
      · exact h0
      · have h3 := Pl.tt_length (n := n) (d := d) (dr := dr) (f := f) (by rw [hf]; exact h0)
        rw [hf] at h3
        have h4 : s.data.toList.length = s.size := by simp
        exfalso
        apply hl
        unfold tbytes
        split at h3 <;> split <;> omega

end Go.Proofs.YthjggjnkhhoigaaGreatDoor
