/-
  Contracts of the model's texts of numbers and of times, for every argument: what each answers, and that nothing that was there is written.
-/
import Derived.Test.YtfhbmfndjbdhcaaGreatDoorInst
import Derived.Test.YtfhbmfndjbdhcaaGreatDoorLrQ
namespace Go.Proofs.YtfhbmfndjbdhcaaGreatDoor
open Go.RowKit
set_option linter.unusedVariables false
def sLen : Value → Nat
  | .string s => s.size
  | _ => 0
def sEmpty : Value → Nat
  | .string s => 1 - s.size
  | _ => 0
theorem conv1 (x : Nat) (w : World) : (convert 22 9 (.slice (some ⟨w.heap.size, 0, none⟩) 1 1)).run Tryz.prog (w.alloc (.cells #[.int .u8 (48 + (x : Int) % 10)] 5)) = .ok (.string ⟨#[Pl.dg x]⟩) (w.alloc (.cells #[.int .u8 (48 + (x : Int) % 10)] 5)) := by
  refine run_convert_bytes_back (P := Tryz.prog) _ 22 9 5 ⟨w.heap.size, 0, none⟩ 1 [Pl.dg x] Tryz.underlying22 Tryz.underlying5 Tryz.underlying9 (fun j hj => ?_)
  match j, hj with
  | 0, _ => simp [Addr.add, Pl.dg_toNat]
theorem ret_str {a b : List UInt8} (h : a = b) : Ending.returned (.string ⟨a.toArray⟩) = .returned (.string ⟨b.toArray⟩) := by rw [h]
theorem str_cons (c : UInt8) (l : List UInt8) : (⟨#[c]⟩ : ByteArray) ++ ⟨l.toArray⟩ = ⟨(c :: l).toArray⟩ := ByteArray.mk_append_mk [c] l
set_option maxHeartbeats 400000 in
theorem sint_any (n : Nat) (w : World) (hn : n ≤ 9223372036854775807) :
    Calls Tryz.prog 27 #[.int .i64 n] w fun e w' => e = .returned (.string ⟨(Pl.dec n).toArray⟩) ∧ Below w.heap.size w w' := by
  have h0 : ¬ (n : Int) < 0 := by omega
  go_enter Tryz.func27, Tryz.ntmps27
  go_wp2
  go_loopw [0, 3] (fun t s wr => ∃ (x : Nat) (acc : List UInt8), t = .int .i64 x ∧ s = .string ⟨acc.toArray⟩ ∧ x ≤ n ∧ acc.length ≤ 9223372036854775807 - x ∧ ((acc = [] ∧ x = n) ∨ (acc ≠ [] ∧ Hid (Pl.decOn x acc = Pl.dec n))) ∧ Below w.heap.size w wr) (fun t s _ => (intOf t).toNat + sEmpty s)
  case atStart => exact ⟨n, [], rfl, rfl, Nat.le_refl _, by simp, .inl ⟨rfl, rfl⟩, Below.refl _ _⟩
  case round =>
    obtain ⟨x, acc, rfl, rfl, hx, hl, h, hb⟩ := hrel
    have kc := conv1 x
    rcases h with ⟨rfl, rfl⟩ | ⟨hne, hd⟩
    · go_wp2
      go_roundw
      case rel => exact ⟨x / 10, [Pl.dg x], by go_num, rfl, by omega, by simp; omega, .inr ⟨by simp, hide (Pl.decOn_first x)⟩, hb.alloc hb.size _⟩
      case measure => simp [intOf, sEmpty, ByteArray.size]; omega
    · have he : acc.isEmpty = false := by simpa using hne
      by_cases hz : 0 < x
      · go_wp2
        go_roundw
        case rel => exact ⟨x / 10, Pl.dg x :: acc, by go_num, by rw [str_cons], by omega, by simp; omega, .inr ⟨by simp, hide (by rw [Pl.decOn_step acc (by omega)]; exact unhide hd)⟩, hb.alloc hb.size _⟩
        case measure => simp [intOf, sEmpty, ByteArray.size]; omega
      · have hz' : x = 0 := by omega
        have hfin : Hid (acc = Pl.dec n) := hide (by have := unhide hd; rw [hz'] at this; simpa [Pl.decOn] using this)
        subst hz'
        go_wp2
        go_ret
        exact ⟨ret_str (unhide hfin), hb⟩

theorem dec_len {n : Nat} (hn : n ≤ 9223372036854775807) : (Pl.dec n).length ≤ 19 := Pl.dec_length_lt 18 n (by omega)
set_option maxHeartbeats 400000 in
theorem swide_nat (n k : Nat) (w : World) (hn : n ≤ 9223372036854775807) (hk : k ≤ 1000000) :
    Calls Tryz.prog 49 #[.int .i64 n, .int .i64 k] w fun e w' => e = .returned (.string ⟨(Pl.wide k n).toArray⟩) ∧ Below w.heap.size w w' := by
  have hl := dec_len hn
  go_enter Tryz.func49, Tryz.ntmps49
  go_wp2_with fail
  refine (sint_any n w hn).mono ?_
  rintro e w1 ⟨rfl, hb⟩
  go_wp2
  go_loop [5] (fun s => ∃ j : Nat, s = .string ⟨(List.replicate j 48 ++ Pl.dec n).toArray⟩ ∧ j ≤ k - (Pl.dec n).length) (fun s => k - sLen s)
  case atStart => exact ⟨0, rfl, Nat.zero_le _⟩
  case round =>
    obtain ⟨j, rfl, hj⟩ := hrel
    by_cases hlt : j < k - (Pl.dec n).length
    · have ht : ((j : Int) + ((Pl.dec n).length : Int) < (k : Int)) := by omega
      go_wp2
      go_round
      case rel => exact ⟨j + 1, by rw [str_cons]; rfl, by omega⟩
      case measure => rw [str_cons]; simp [sLen, ByteArray.size]; omega
    · have ht : ¬ ((j : Int) + ((Pl.dec n).length : Int) < (k : Int)) := by omega
      have hj' : j = k - (Pl.dec n).length := by omega
      have hfin : Hid (List.replicate j 48 ++ Pl.dec n = Pl.wide k n) := hide (by rw [hj']; rfl)
      clear hj'
      go_wp2
      go_ret
      exact ⟨ret_str (unhide hfin), hb⟩
theorem swide2 (x : Int) (w : World) (h0 : 0 ≤ x) (h1 : x < 100) :
    Calls Tryz.prog 49 #[.int .i64 x, .int .i64 2] w fun e w' => e = .returned (.string ⟨#[Pl.dg (x.toNat / 10), Pl.dg x.toNat]⟩) ∧ Below w.heap.size w w' := by
  obtain ⟨n, rfl⟩ := Int.eq_ofNat_of_zero_le h0
  have h := swide_nat n 2 w (by omega) (by omega)
  rw [Pl.wide_two (by omega)] at h
  exact h
theorem swide3 (x : Int) (w : World) (h0 : 0 ≤ x) (h1 : x < 1000) :
    Calls Tryz.prog 49 #[.int .i64 x, .int .i64 3] w fun e w' => e = .returned (.string ⟨#[Pl.dg (x.toNat / 100), Pl.dg (x.toNat / 10), Pl.dg x.toNat]⟩) ∧ Below w.heap.size w w' := by
  obtain ⟨n, rfl⟩ := Int.eq_ofNat_of_zero_le h0
  have h := swide_nat n 3 w (by omega) (by omega)
  rw [Pl.wide_three (by omega)] at h
  exact h

theorem join11 (a b c d e f m g h : UInt8) : (⟨#[a, b]⟩ : ByteArray) ++ ⟨#[58]⟩ ++ ⟨#[c, d]⟩ ++ ⟨#[58]⟩ ++ ⟨#[e, f]⟩ ++ ⟨#[m]⟩ ++ ⟨#[g, h]⟩ = ⟨#[a, b, 58, c, d, 58, e, f, m, g, h]⟩ := by
  rw [ByteArray.mk_append_mk [a, b] [58], ByteArray.mk_append_mk _ [c, d], ByteArray.mk_append_mk _ [58], ByteArray.mk_append_mk _ [e, f], ByteArray.mk_append_mk _ [m], ByteArray.mk_append_mk _ [g, h]]; rfl
theorem join12 (a b c d e f m g h i : UInt8) : (⟨#[a, b]⟩ : ByteArray) ++ ⟨#[58]⟩ ++ ⟨#[c, d]⟩ ++ ⟨#[58]⟩ ++ ⟨#[e, f]⟩ ++ ⟨#[m]⟩ ++ ⟨#[g, h, i]⟩ = ⟨#[a, b, 58, c, d, 58, e, f, m, g, h, i]⟩ := by
  rw [ByteArray.mk_append_mk [a, b] [58], ByteArray.mk_append_mk _ [c, d], ByteArray.mk_append_mk _ [58], ByteArray.mk_append_mk _ [e, f], ByteArray.mk_append_mk _ [m], ByteArray.mk_append_mk _ [g, h, i]]; rfl

end Go.Proofs.YtfhbmfndjbdhcaaGreatDoor
