/-
  The text of a time: the contract of the model; the program's number of a title and its parts of a time; nothing that was there is written.
-/
import Derived.Test.YtcpllfjhhlbmiaaDoorIApp
import Derived.Test.YtcpllfjhhlbmiaaDoorSwP
import Derived.Test.YtcpllfjhhlbmiaaDoorShelfB
import Derived.Lib.LaidTab
import Derived.Lib.AppendStr
import Derived.Lib.OthersKept
import Derived.Lib.SmallJoins
import Derived.Shelf.Vars
import Derived.LaidLaws
namespace Go.Proofs.YtcpllfjhhlbmiaaDoor
open Go.RowKit
set_option linter.unusedVariables false
set_option linter.unusedSimpArgs false

theorem join12 (a b c d e f m g h i : UInt8) : (⟨#[a, b]⟩ : ByteArray) ++ ⟨#[58]⟩ ++ ⟨#[c, d]⟩ ++ ⟨#[58]⟩ ++ ⟨#[e, f]⟩ ++ ⟨#[m]⟩ ++ ⟨#[g, h, i]⟩ = ⟨#[a, b, 58, c, d, 58, e, f, m, g, h, i]⟩ := by
  rw [ByteArray.mk_append_mk [a, b] [58], ByteArray.mk_append_mk _ [c, d], ByteArray.mk_append_mk _ [58], ByteArray.mk_append_mk _ [e, f], ByteArray.mk_append_mk _ [m], ByteArray.mk_append_mk _ [g, h, i]]; rfl

theorem ret_bytes {a b : ByteArray} (h : a = b) : Ending.returned (.string a) = .returned (.string b) := by rw [h]
set_option maxRecDepth 100000 in
set_option maxHeartbeats 1600000 in
theorem stime_nat (n : Nat) (w : World) (h1 : n ≤ 359999999) :
    Calls Tryd.prog 27 #[.int .i64 n] w fun e w' => e = .returned (.string ⟨(mt n).toArray⟩) ∧ Below w.heap.size w w' := by
  have hend := hide (show (⟨#[Pl.dg (((n : Int) / 3600000).toNat / 10), Pl.dg ((n : Int) / 3600000).toNat, 58, Pl.dg (((n : Int) / 60000 % 60).toNat / 10), Pl.dg ((n : Int) / 60000 % 60).toNat, 58, Pl.dg (((n : Int) / 1000 % 60).toNat / 10), Pl.dg ((n : Int) / 1000 % 60).toNat, 44, Pl.dg (((n : Int) % 1000).toNat / 100), Pl.dg (((n : Int) % 1000).toNat / 10), Pl.dg ((n : Int) % 1000).toNat]⟩ : ByteArray) = ⟨(mt n).toArray⟩ by
    rw [show ((n : Int) / 3600000).toNat = n / 3600000 by omega, show ((n : Int) / 60000 % 60).toNat = n / 60000 % 60 by omega, show ((n : Int) / 1000 % 60).toNat = n / 1000 % 60 by omega, show ((n : Int) % 1000).toNat = n % 1000 by omega]
    rfl)
  go_enter Tryd.func27, Tryd.ntmps27
  go_wp2_with fail
  refine (swide2 _ _ (by omega) (by omega)).mono ?_
  rintro e w3 ⟨rfl, hb3⟩
  go_wp2_with fail
  refine (swide2 _ _ (by omega) (by omega)).mono ?_
  rintro e w4 ⟨rfl, hb4⟩
  go_wp2_with fail
  refine (swide2 _ _ (by omega) (by omega)).mono ?_
  rintro e w5 ⟨rfl, hb5⟩
  go_wp2_with fail
  refine (swide3 _ _ (by omega) (by omega)).mono ?_
  rintro e w6 ⟨rfl, hb6⟩
  go_wp2
  go_ret
  have k4 := hb3.trans (hb4.mono hb3.size)
  have k5 := k4.trans (hb5.mono k4.size)
  exact ⟨ret_bytes ((join12 _ _ _ _ _ _ _ _ _ _).trans (unhide hend)), k5.trans (hb6.mono k5.size)⟩
theorem stime_any (x : Int) (w : World) (h0 : 0 ≤ x) (h1 : x ≤ 359999999) :
    Calls Tryd.prog 27 #[.int .i64 x] w fun e w' => e = .returned (.string ⟨(mt x.toNat).toArray⟩) ∧ Below w.heap.size w w' := by
  obtain ⟨n, rfl⟩ := Int.eq_ofNat_of_zero_le h0
  exact stime_nat n w (by omega)

/-- the library's table of powers of ten lies as its text lays it -/
abbrev Tab (w : World) : Prop := Lib.TabIs Tryd.prog w "internal/strconv.uint64pow10" .u64 Lib.pow10Tab
theorem tab_g : Tryd.prog.globalNamed "internal/strconv.uint64pow10" = some 1 := by kernel_rfl
theorem Tab.below {w w' : World} (h : Tab w) (hb : Below w.heap.size w w') : Tab w' := Joins.tab_stays tab_g h hb (Nat.le_refl _)
theorem dec_dig : ∀ (f n : Nat), n < f → Lib.decDigits n = Pl.decF f n := by
  intro f
  induction f with
  | zero => intro n h; omega
  | succ f ih =>
    intro n h
    rw [Lib.decDigits, Pl.decF]
    by_cases h1 : n < 10
    · rw [if_pos h1]
      simp [h1, Pl.dg, Nat.mod_eq_of_lt h1]
    · rw [if_neg h1, ← ih (n / 10) (by omega)]
      simp [h1, Pl.dg]
theorem itoa_dec {x : Int} (h : 0 ≤ x) : Lib.itoa x = Pl.dec x.toNat := by
  unfold Lib.itoa Pl.dec
  rw [if_neg (by omega), dec_dig _ _ (Nat.lt_succ_self _)]
theorem grow_below (w : World) (k : Nat) (os : Array Obj) : Below w.heap.size w (Sort.grow (w.drewN k) os) := by
  refine ⟨rfl, rfl, rfl, by simp [Sort.grow], fun k hk => ?_⟩
  simp [Sort.grow, Array.getElem?_append, hk]
set_option maxHeartbeats 800000 in
theorem inum_any (i : Nat) (w : World) (hi : i ≤ 1048576) (ht : Tab w) :
    Calls Tryd.prog 22 #[.int .i64 i] w fun e w' => e = .returned (.string ⟨(Pl.dec (i + 1)).toArray⟩) ∧ Below w.heap.size w w' := by
  have cF := hide (Tryd.strconv_Itoa ((i : Int) + 1) (by omega) (by omega) w ht)
  rw [itoa_dec (by omega), show ((i : Int) + 1).toNat = i + 1 by omega] at cF
  clear ht
  go_enter Tryd.func22, Tryd.ntmps22
  go_wp2_with fail
  refine (unhide cF).mono ?_
  rintro e w1 ⟨rfl, k, os, hw⟩
  have hb : Hid (Below w.heap.size w w1) := hide (by rw [hw]; exact grow_below w k os)
  clear hw cF
  go_wp2
  go_ret
  exact ⟨rfl, unhide hb⟩
set_option maxRecDepth 100000 in
set_option maxHeartbeats 1600000 in
theorem flds_any (w : World) : Calls Tryd.prog 48 #[] w fun e w' => e = .returned (.agg #[.int .i64 3600000, .int .i64 2, .string ⟨#[58]⟩, .int .i64 60000, .int .i64 2, .string ⟨#[58]⟩, .int .i64 1000, .int .i64 2, .string ⟨#[44]⟩, .int .i64 1, .int .i64 3, .string ⟨#[]⟩]) ∧ Below w.heap.size w w' := by
  go_enter Tryd.func48, Tryd.ntmps48
  go_wp2
  exact bodyPost_ret (v := .agg #[.int .i64 3600000, .int .i64 2, .string ⟨#[58]⟩, .int .i64 60000, .int .i64 2, .string ⟨#[58]⟩, .int .i64 1000, .int .i64 2, .string ⟨#[44]⟩, .int .i64 1, .int .i64 3, .string ⟨#[]⟩]) (by simp [results, Tryd.results48, go_sem]) rfl ⟨rfl, (Below.refl _ _).alloc (Nat.le_refl _) _⟩
theorem ixF : (∀ w, (Instr.index 81 (.agg #[.int .i64 3600000, .int .i64 2, .string ⟨#[58]⟩, .int .i64 60000, .int .i64 2, .string ⟨#[58]⟩, .int .i64 1000, .int .i64 2, .string ⟨#[44]⟩, .int .i64 1, .int .i64 3, .string ⟨#[]⟩]) (.int .i64 0)).run Tryd.prog w = .ok (.agg #[.int .i64 3600000, .int .i64 2, .string ⟨#[58]⟩]) w) ∧ (∀ w, (Instr.index 81 (.agg #[.int .i64 3600000, .int .i64 2, .string ⟨#[58]⟩, .int .i64 60000, .int .i64 2, .string ⟨#[58]⟩, .int .i64 1000, .int .i64 2, .string ⟨#[44]⟩, .int .i64 1, .int .i64 3, .string ⟨#[]⟩]) (.int .i64 1)).run Tryd.prog w = .ok (.agg #[.int .i64 60000, .int .i64 2, .string ⟨#[58]⟩]) w) ∧ (∀ w, (Instr.index 81 (.agg #[.int .i64 3600000, .int .i64 2, .string ⟨#[58]⟩, .int .i64 60000, .int .i64 2, .string ⟨#[58]⟩, .int .i64 1000, .int .i64 2, .string ⟨#[44]⟩, .int .i64 1, .int .i64 3, .string ⟨#[]⟩]) (.int .i64 2)).run Tryd.prog w = .ok (.agg #[.int .i64 1000, .int .i64 2, .string ⟨#[44]⟩]) w) ∧ (∀ w, (Instr.index 81 (.agg #[.int .i64 3600000, .int .i64 2, .string ⟨#[58]⟩, .int .i64 60000, .int .i64 2, .string ⟨#[58]⟩, .int .i64 1000, .int .i64 2, .string ⟨#[44]⟩, .int .i64 1, .int .i64 3, .string ⟨#[]⟩]) (.int .i64 3)).run Tryd.prog w = .ok (.agg #[.int .i64 1, .int .i64 3, .string ⟨#[]⟩]) w) :=
  ⟨fun _ => by kernel_rfl, fun _ => by kernel_rfl, fun _ => by kernel_rfl, fun _ => by kernel_rfl⟩

end Go.Proofs.YtcpllfjhhlbmiaaDoor
