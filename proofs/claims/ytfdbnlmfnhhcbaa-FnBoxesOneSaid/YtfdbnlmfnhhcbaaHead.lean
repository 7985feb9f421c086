/-
  Contracts of the small functions of the program's reader of boxes: each answers, or gives up by the fault that is told, and nothing is written.
-/
import Derived.Test.YtfdbnlmfnhhcbaaOwnL
import Derived.Test.YtfdbnlmfnhhcbaaRdP
import Derived.Test.YtfdbnlmfnhhcbaaKind
import Derived.WalkLawsBesides
namespace Go.Proofs.Ytfdbnlmfnhhcbaa
open Go.RowKit
set_option linter.unusedVariables false
set_option linter.unusedSimpArgs false
set_option maxHeartbeats 400000 in
theorem give_any (c p : Int) (w : World) :
    Calls Try.prog 28 #[.int .i64 c, .int .i64 p] w fun e w' => e = .panicked [{ v := .iface 27 (.agg #[.int .i64 c, .int .i64 p]), recovered := false }] ∧ w' = w := by
  go_enter Try.func28, Try.ntmps28
  go_wp2
  exact ⟨rfl, rfl, rfl⟩
theorem row_at {own : Bool} {lo hi : Nat} {w : World} {b o : Nat} {zs : List Int} {j : Nat} {z : Int} (h : Row own lo hi w (some ⟨b, o, none⟩) zs) (hj : zs[j]? = some z) : w.cell? ⟨b, o + j, none⟩ = some (.int .u8 z) ∧ b < hi ∧ lo ≤ b := by
  obtain ⟨b', o', e, h1, h2, hc, _⟩ := h j z hj
  injection e with e
  injection e with e1 e2 _
  subst e1 e2
  exact ⟨hc, h2, h1⟩
set_option maxHeartbeats 400000 in
theorem kindOf_any (b o cap : Nat) (left : List Int) (hi : Nat) (w : World) (hl : 8 ≤ left.length) (hl2 : left.length ≤ 40000) (hlc : left.length ≤ cap) (hc2 : cap ≤ 9223372036854775807) (hr : Row false 0 hi w (some ⟨b, o, none⟩) left) :
    Calls Try.prog 39 #[.slice (some ⟨b, o, none⟩) left.length cap] w fun e w' => e = .returned (.string (kindOf left)) ∧ w' = w := by
  have hlen : ((left.drop 4).take 4).length = 4 := by simp; omega
  have hcv := run_convert_bytes_arg w 22 5 Try.underlying22 Try.underlying5 b (o + 4) 4 (cap - 4) ((left.drop 4).take 4) hlen (fun i hi' => by
    have e : ((left.drop 4).take 4).getD i 0 = left[4 + i]'(by omega) := by
      rw [List.getD_eq_getElem?_getD, List.getElem?_take, if_pos hi', List.getElem?_drop, List.getElem?_eq_getElem (by omega)]; rfl
    rw [e, show o + 4 + i = o + (4 + i) by omega]
    exact (row_at hr (List.getElem?_eq_getElem (by omega))).1) 9 Try.underlying9
  have hr' := hide hr
  clear hr
  go_enter Try.func39, Try.ntmps39
  go_wp2
  go_ret
  exact ⟨rfl, rfl⟩
theorem or_byte (a c : Int) (h0 : 0 ≤ a) (h1 : a < 16777216) (h2 : 0 ≤ c) (h3 : c ≤ 255) : bits .or .i64 (a * 256) c = a * 256 + c := by
  obtain ⟨n, rfl⟩ := Int.eq_ofNat_of_zero_le h0
  obtain ⟨m, rfl⟩ := Int.eq_ofNat_of_zero_le h2
  have h : bits .or .i64 ((n : Int) * 256) m = IntKind.i64.wrap ((BitVec.ofInt 64 ((n : Int) * 256) ||| BitVec.ofInt 64 (m : Int)).toNat : Int) := rfl
  have e1 : BitVec.ofInt 64 ((n : Int) * 256) = BitVec.ofNat 64 (n * 256) := by
    rw [show ((n : Int) * 256) = ((n * 256 : Nat) : Int) by omega]; rfl
  have e2 : BitVec.ofInt 64 (m : Int) = BitVec.ofNat 64 m := rfl
  rw [h, e1, e2, BitVec.toNat_or, BitVec.toNat_ofNat, BitVec.toNat_ofNat, Nat.mod_eq_of_lt (by omega), Nat.mod_eq_of_lt (by omega)]
  have e3 : n * 256 ||| m = n * 256 + m := by
    have := Nat.two_pow_add_eq_or_of_lt (i := 8) (b := m) (by omega) n
    rw [show 2 ^ 8 = 256 by decide, Nat.mul_comm] at this
    exact this.symm
  rw [e3, IntKind.wrap_i64]
  omega
theorem beL_take {left : List Int} {k : Nat} {z : Int} (h : left[k]? = some z) : beL (left.take (k + 1)) = beL (left.take k) * 256 + z := by
  rw [take_snoc h, beL_snoc]
theorem beL_bd3 {left : List Int} {k : Nat} (hk : k ≤ 3) (h : ∀ z ∈ left, 0 ≤ z ∧ z ≤ 255) : 0 ≤ beL (left.take k) ∧ beL (left.take k) < 16777216 := by
  have h1 := beL_bd (left.take k) (fun z hz => h z (List.mem_of_mem_take hz))
  have : (left.take k).length ≤ 3 := by simp; omega
  have h2 : (256 : Int) ^ (left.take k).length ≤ 16777216 := by
    rcases (show (left.take k).length = 0 ∨ (left.take k).length = 1 ∨ (left.take k).length = 2 ∨ (left.take k).length = 3 by omega) with e | e | e | e <;> rw [e] <;> decide
  omega
set_option maxHeartbeats 400000 in
theorem rdsize_any (b o cap : Nat) (left : List Int) (hi : Nat) (w : World) (hl : 8 ≤ left.length) (hl2 : left.length ≤ 40000) (hlc : left.length ≤ cap) (hc2 : cap ≤ 9223372036854775807) (hr : Row false 0 hi w (some ⟨b, o, none⟩) left) :
    Calls Try.prog 38 #[.slice (some ⟨b, o, none⟩) left.length cap] w fun e w' => e = .returned (.int .i64 (siz left)) ∧ w' = w := by
  have hbd := hide hr.bd
  have hr' := hide hr
  clear hr
  go_enter Try.func38, Try.ntmps38
  go_wp2
  go_loop [3, 9] (fun s t => ∃ (k : Nat) (x : Int), k ≤ 4 ∧ t = .int .i64 k ∧ s = .int .i64 x ∧ Hid (x = beL (left.take k))) (fun _ t => 4 - (intOf t).toNat)
  case atStart => exact ⟨0, 0, by omega, rfl, rfl, hide rfl⟩
  case round =>
    obtain ⟨k, x, hk, rfl, rfl, hx⟩ := hrel
    by_cases hlt : k < 4
    · obtain ⟨z, hz⟩ : ∃ z, left[k]? = some z := ⟨left[k]'(by omega), List.getElem?_eq_getElem (by omega)⟩
      have hc := (row_at (unhide hr') hz).1
      have hzb := unhide hbd z (List.mem_of_getElem? hz)
      have hz0 := hzb.1
      have hz1 := hzb.2
      have hxb := beL_bd3 (k := k) (by omega) (unhide hbd)
      have hx0 : 0 ≤ x := by rw [unhide hx]; exact hxb.1
      have hx1 : x < 16777216 := by rw [unhide hx]; exact hxb.2
      have hor := or_byte x z hx0 hx1 hz0 hz1
      have hn : Hid (x * 256 + z = beL (left.take (k + 1))) := hide (by rw [beL_take hz, unhide hx])
      clear hz hzb hxb
      go_wp2
      go_round
      case rel => exact ⟨k + 1, _, by omega, by go_num, rfl, hn⟩
      case measure => simp [intOf]; omega
    · obtain rfl : k = 4 := by omega
      go_wp2
      go_ret
      exact ⟨ret_int (unhide hx), rfl⟩

def gave (c p : Int) : Ending := .panicked [{ v := .iface 27 (.agg #[.int .i64 c, .int .i64 p]), recovered := false }]
def headE (left : List Int) (p : Int) : Ending := if left.length < 8 then gave 2 p else if siz left < 8 ∨ (left.length : Int) < siz left then gave 3 p else .returned (.int .i64 (siz left))
set_option maxHeartbeats 800000 in
theorem head_any (b o cap : Nat) (left : List Int) (p : Int) (hi : Nat) (w : World) (hl2 : left.length ≤ 40000) (hlc : left.length ≤ cap) (hc2 : cap ≤ 9223372036854775807) (hr : Row false 0 hi w (some ⟨b, o, none⟩) left) :
    Calls Try.prog 35 #[.slice (some ⟨b, o, none⟩) left.length cap, .int .i64 p] w fun e w' => e = headE left p ∧ w' = w := by
  have hsb := siz_bd hr.bd
  have hr' := hide hr
  clear hr
  by_cases h8 : left.length < 8
  · have e0 : headE left p = gave 2 p := by unfold headE; rw [if_pos h8]
    rw [e0]
    have h8i : (left.length : Int) < 8 := by omega
    go_enter Try.func35, Try.ntmps35
    go_wp2_with fail
    refine (give_any 2 p _).mono ?_
    rintro e w1 ⟨rfl, rfl⟩
    exact ⟨rfl, rfl, rfl⟩
  · have h8i : ¬ (left.length : Int) < 8 := by omega
    have hl8 : 8 ≤ left.length := by omega
    obtain ⟨hs0, hs1⟩ := hsb
    by_cases hs : siz left < 8 ∨ (left.length : Int) < siz left
    · have e0 : headE left p = gave 3 p := by unfold headE; rw [if_neg h8, if_pos hs]
      rw [e0]
      by_cases hs8 : siz left < 8
      · clear hs
        go_enter Try.func35, Try.ntmps35
        go_wp2_with fail
        refine (rdsize_any b o cap left hi _ hl8 hl2 hlc hc2 (unhide hr')).mono ?_
        rintro e w1 ⟨rfl, rfl⟩
        go_wp2_with fail
        refine (give_any 3 p _).mono ?_
        rintro e w1 ⟨rfl, rfl⟩
        exact ⟨rfl, rfl, rfl⟩
      · have hs8b : decide (siz left < 8) = false := decide_eq_false hs8
        have hs9 : (left.length : Int) < siz left := by omega
        clear hs
        go_enter Try.func35, Try.ntmps35
        go_wp2_with fail
        refine (rdsize_any b o cap left hi _ hl8 hl2 hlc hc2 (unhide hr')).mono ?_
        rintro e w1 ⟨rfl, rfl⟩
        go_wp2_with fail
        refine (give_any 3 p _).mono ?_
        rintro e w1 ⟨rfl, rfl⟩
        exact ⟨rfl, rfl, rfl⟩
    · have e0 : headE left p = .returned (.int .i64 (siz left)) := by unfold headE; rw [if_neg h8, if_neg hs]
      rw [e0]
      have hs8b : decide (siz left < 8) = false := decide_eq_false (by omega)
      have hs9 : ¬ (left.length : Int) < siz left := by omega
      clear hs
      go_enter Try.func35, Try.ntmps35
      go_wp2_with fail
      refine (rdsize_any b o cap left hi _ hl8 hl2 hlc hc2 (unhide hr')).mono ?_
      rintro e w1 ⟨rfl, rfl⟩
      go_wp2
      go_ret
      exact ⟨rfl, rfl⟩

/-- the code that the limits give, or nought -/
def limN (bx : List Int) (dep n dn : Int) : Int :=
  if kindOk (kindOf bx) = false then 4 else if 8 < dep then 5 else if n = 200 then 6 else if holds (kindOf bx) = false ∧ 20000 < dn + bx.length - 8 then 6 else 0
theorem kindOf_size (l : List Int) : (kindOf l).size ≤ 4 := by
  unfold kindOf; rw [strOfNums_size, List.length_take]; omega
def limE (bx : List Int) (dep n dn p : Int) : Ending := if limN bx dep n dn = 0 then .returned (.tuple #[]) else gave (limN bx dep n dn) p
theorem limE_no {bx : List Int} {dep n dn p c : Int} (h : limN bx dep n dn = c) (hc : c ≠ 0) : limE bx dep n dn p = gave c p := by unfold limE; rw [h, if_neg hc]
theorem limE_ok {bx : List Int} {dep n dn p : Int} (h : limN bx dep n dn = 0) : limE bx dep n dn p = .returned (.tuple #[]) := by unfold limE; rw [h, if_pos rfl]
set_option maxHeartbeats 1600000 in
theorem lim_any (R b o cap : Nat) (bx : List Int) (dep p dn : Int) (n : Nat) (a' : Option Addr) (cap' : Nat) (hi : Nat) (w : World) (hl : 8 ≤ bx.length) (hl2 : bx.length ≤ 40000) (hlc : bx.length ≤ cap) (hc2 : cap ≤ 9223372036854775807) (hr : Row false 0 hi w (some ⟨b, o, none⟩) bx)
    (c0 : w.cell? ⟨R, 0, none⟩ = some (.slice a' n cap')) (c1 : w.cell? ⟨R, 1, none⟩ = some (.int .i64 dn)) (hn : n ≤ 200) (hd0 : 0 ≤ dn) (hd1 : dn ≤ 20000) :
    Calls Try.prog 36 #[.pointer (some ⟨R, 0, none⟩), .slice (some ⟨b, o, none⟩) bx.length cap, .int .i64 dep, .int .i64 p] w fun e w' => e = limE bx dep n dn p ∧ w' = w := by
  have hr' := hide hr
  clear hr
  have hks : (kindOf bx).size ≤ maxLen := by have := kindOf_size bx; unfold maxLen; omega
  cases hK : kindOk (kindOf bx)
  · have e0 : limN bx dep n dn = 4 := by unfold limN; rw [if_pos hK]
    rw [limE_no e0 (by decide)]
    clear e0
    go_enter Try.func36, Try.ntmps36
    go_wp2_with fail
    refine (kindOf_any b o cap bx hi _ hl hl2 hlc hc2 (unhide hr')).mono ?_
    rintro e w1 ⟨rfl, rfl⟩
    go_wp2_with fail
    refine (ikind_any (kindOf bx) false _ hks hK).mono ?_
    rintro e w1 ⟨rfl, rfl⟩
    go_wp2_with fail
    refine (give_any 4 p _).mono ?_
    rintro e w1 ⟨rfl, rfl⟩
    exact ⟨rfl, rfl, rfl⟩
  · have hksz : 0 < (kindOf bx).size := by rw [kindOk_size hK]; omega
    by_cases hd : 8 < dep
    · have e0 : limN bx dep n dn = 5 := by unfold limN; rw [if_neg (by simp [hK]), if_pos hd]
      rw [limE_no e0 (by decide)]
      clear e0
      go_enter Try.func36, Try.ntmps36
      go_wp2_with fail
      refine (kindOf_any b o cap bx hi _ hl hl2 hlc hc2 (unhide hr')).mono ?_
      rintro e w1 ⟨rfl, rfl⟩
      go_wp2_with fail
      refine (ikind_any (kindOf bx) true _ hks hK).mono ?_
      rintro e w1 ⟨rfl, rfl⟩
      go_wp2_with fail
      refine (give_any 5 p _).mono ?_
      rintro e w1 ⟨rfl, rfl⟩
      exact ⟨rfl, rfl, rfl⟩
    · by_cases h200 : n = 200
      · have e0 : limN bx dep n dn = 6 := by unfold limN; rw [if_neg (by simp [hK]), if_neg hd, if_pos (by omega)]
        rw [limE_no e0 (by decide)]
        clear e0
        subst h200
        go_enter Try.func36, Try.ntmps36
        go_wp2_with fail
        refine (kindOf_any b o cap bx hi _ hl hl2 hlc hc2 (unhide hr')).mono ?_
        rintro e w1 ⟨rfl, rfl⟩
        go_wp2_with fail
        refine (ikind_any (kindOf bx) true _ hks hK).mono ?_
        rintro e w1 ⟨rfl, rfl⟩
        go_wp2_with fail
        refine (give_any 6 p _).mono ?_
        rintro e w1 ⟨rfl, rfl⟩
        exact ⟨rfl, rfl, rfl⟩
      · have h200b : ((n : Int) == 200) = false := by rw [beq_eq_false_iff_ne]; omega
        cases hH : holds (kindOf bx)
        · by_cases hm : 20000 < dn + bx.length - 8
          · have e0 : limN bx dep n dn = 6 := by unfold limN; rw [if_neg (by simp [hK]), if_neg hd, if_neg (by omega), if_pos ⟨hH, hm⟩]
            rw [limE_no e0 (by decide)]
            clear e0 h200
            go_enter Try.func36, Try.ntmps36
            go_wp2_with fail
            refine (kindOf_any b o cap bx hi _ hl hl2 hlc hc2 (unhide hr')).mono ?_
            rintro e w1 ⟨rfl, rfl⟩
            go_wp2_with fail
            refine (ikind_any (kindOf bx) true _ hks hK).mono ?_
            rintro e w1 ⟨rfl, rfl⟩
            go_wp2_with fail
            refine (cont_any (kindOf bx) false _ hksz hks hH).mono ?_
            rintro e w1 ⟨rfl, rfl⟩
            go_wp2_with fail
            refine (give_any 6 p _).mono ?_
            rintro e w1 ⟨rfl, rfl⟩
            exact ⟨rfl, rfl, rfl⟩
          · have e0 : limN bx dep n dn = 0 := by unfold limN; rw [if_neg (by simp [hK]), if_neg hd, if_neg (by omega), if_neg (fun h => hm h.2)]
            rw [limE_ok e0]
            have hmb : decide (20000 < dn + (bx.length : Int) - 8) = false := decide_eq_false hm
            clear e0 h200 hm
            go_enter Try.func36, Try.ntmps36
            go_wp2_with fail
            refine (kindOf_any b o cap bx hi _ hl hl2 hlc hc2 (unhide hr')).mono ?_
            rintro e w1 ⟨rfl, rfl⟩
            go_wp2_with fail
            refine (ikind_any (kindOf bx) true _ hks hK).mono ?_
            rintro e w1 ⟨rfl, rfl⟩
            go_wp2_with fail
            refine (cont_any (kindOf bx) false _ hksz hks hH).mono ?_
            rintro e w1 ⟨rfl, rfl⟩
            go_wp2
            exact ⟨rfl, .tuple #[], by simp [results, Try.results36, go_sem], rfl, rfl⟩
        · have e0 : limN bx dep n dn = 0 := by unfold limN; rw [if_neg (by simp [hK]), if_neg hd, if_neg (by omega), if_neg (fun h => by rw [hH] at h; cases h.1)]
          rw [limE_ok e0]
          clear e0 h200
          go_enter Try.func36, Try.ntmps36
          go_wp2_with fail
          refine (kindOf_any b o cap bx hi _ hl hl2 hlc hc2 (unhide hr')).mono ?_
          rintro e w1 ⟨rfl, rfl⟩
          go_wp2_with fail
          refine (ikind_any (kindOf bx) true _ hks hK).mono ?_
          rintro e w1 ⟨rfl, rfl⟩
          go_wp2_with fail
          refine (cont_any (kindOf bx) true _ hksz hks hH).mono ?_
          rintro e w1 ⟨rfl, rfl⟩
          go_wp2
          exact ⟨rfl, .tuple #[], by simp [results, Try.results36, go_sem], rfl, rfl⟩
end Go.Proofs.Ytfdbnlmfnhhcbaa
