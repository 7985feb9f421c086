/-
  A time that is read: the contract of the program; nothing that was there is written.
-/
import Derived.Test.YtcpllfjhhlbmiaaDoorRdA
import Derived.Test.YtcpllfjhhlbmiaaDoorDlS
namespace Go.Proofs.YtcpllfjhhlbmiaaDoor
open Go.RowKit
set_option linter.unusedVariables false
set_option linter.unusedSimpArgs false

/-- a time that is read: the number, and whether it is one -/
def mo (x : List UInt8) : Int × Bool := match tm x with | some m => ((m : Int), true) | none => (0, false)
def pv (x : List UInt8) : Nat → Nat
  | 0 => 0
  | 1 => 3600000 * (10 * dgv (x.getD 0 0) + dgv (x.getD 1 0))
  | 2 => 3600000 * (10 * dgv (x.getD 0 0) + dgv (x.getD 1 0)) + 60000 * (10 * dgv (x.getD 3 0) + dgv (x.getD 4 0))
  | 3 => 3600000 * (10 * dgv (x.getD 0 0) + dgv (x.getD 1 0)) + 60000 * (10 * dgv (x.getD 3 0) + dgv (x.getD 4 0)) + 1000 * (10 * dgv (x.getD 6 0) + dgv (x.getD 7 0))
  | _ => vl x
theorem pv_le (x : List UInt8) (k : Nat) : pv x k ≤ 1000000000000 := by
  have h := fun i => dgv_lt (x.getD i 0)
  have h0 := h 0; have h1 := h 1; have h3 := h 3; have h4 := h 4; have h6 := h 6; have h7 := h 7
  match k with
  | 0 => simp [pv]
  | 1 => simp only [pv]; omega
  | 2 => simp only [pv]; omega
  | 3 => simp only [pv]; omega
  | k + 4 => exact vl_le x
theorem getD_drop (x : List UInt8) (a i : Nat) : (x.drop a).getD i 0 = x.getD (a + i) 0 := by
  rw [List.getD_eq_getElem?_getD, List.getD_eq_getElem?_getD, List.getElem?_drop]
theorem dgs2 {l : List UInt8} (h : 2 ≤ l.length) : dgs (l.take 2) = 10 * dgv (l.getD 0 0) + dgv (l.getD 1 0) := by
  match l, h with
  | a :: b :: r, _ => simp [dgs]
theorem dgs3 {l : List UInt8} (h : 3 ≤ l.length) : dgs (l.take 3) = 10 * (10 * dgv (l.getD 0 0) + dgv (l.getD 1 0)) + dgv (l.getD 2 0) := by
  match l, h with
  | a :: b :: c :: r, _ => simp [dgs]
theorem str_ne {a b : ByteArray} (h : ¬ a = b) : (a.toList == b.toList) = false := by
  rw [Lib.toList_data, Lib.toList_data, beq_eq_false_iff_ne]
  intro e
  apply h
  obtain ⟨⟨x⟩⟩ := a
  obtain ⟨⟨y⟩⟩ := b
  simp only at e
  rw [e]
theorem str_eq (a : ByteArray) : (a.toList == a.toList) = true := by simp
theorem ext_list {s : ByteArray} {g k : Nat} (hg : g ≤ k) : (s.extract g k).data.toList = (s.data.toList.take k).drop g := by
  rw [Lib.extract_eq, List.take_drop, show g + (k - g) = k by omega]

set_option maxRecDepth 100000 in
set_option maxHeartbeats 6400000 in
theorem imo_any (s : ByteArray) (x : List UInt8) (m : Int) (ok : Bool) (w : World) (hs : s.size ≤ 1048576) (hx : s.data.toList = x) (hm : mo x = (m, ok)) :
    Calls Tryd.prog 63 #[.string s] w fun e w' => e = .returned (.tuple #[.int .i64 m, .bool ok]) ∧ Below w.heap.size w w' := by
  obtain ⟨i0, i1, i2, i3⟩ := ixF
  have hx' := hide hx
  have hm' := hide hm
  clear hx hm
  go_enter Tryd.func63, Tryd.ntmps63
  go_wp2_with fail
  refine (flds_any _).mono ?_
  rintro e w1 ⟨rfl, k1⟩
  have b1 := hide k1
  clear k1
  go_wp2
  go_loopw [4, 5, 11] (fun p r t wr => ∃ (k : Nat) (S : ByteArray), k ≤ 4 ∧ t = .int .i64 k ∧ p = .int .i64 (pv x k) ∧ r = .string S ∧ Hid (S.data.toList = x.drop (3 * k)) ∧ Hid (3 * k ≤ x.length) ∧ Hid (Below w.heap.size w wr)) (fun _ _ t _ => 4 - (intOf t).toNat)
  case atStart => exact ⟨0, s, by omega, rfl, rfl, rfl, hide (by simpa using unhide hx'), hide (by omega), b1⟩
  case round =>
    clear b1
    obtain ⟨k, S, hk, rfl, rfl, rfl, hSl, hxl, hb⟩ := hrel
    have hs0 := (unhide hb).size
    obtain rfl | rfl | rfl | rfl | rfl : k = 0 ∨ k = 1 ∨ k = 2 ∨ k = 3 ∨ k = 4 := by omega
    · have ix := i0
      clear i0 i1 i2 i3
      have B0 := hide (show Below w.heap.size w (wr.alloc (.cells #[.int .i64 3600000, .int .i64 2, .string ⟨#[58]⟩] 80)) from (unhide hb).alloc hs0 _)
      have W0 := hide (alloc_new wr (.cells #[.int .i64 3600000, .int .i64 2, .string ⟨#[58]⟩] 80))
      by_cases hlt : S.size < 3
      · have g1 : decide ((S.size : Int) < 3) = true := decide_eq_true (by omega)
        have hf := hide (show m = 0 ∧ ok = false by
          have h9 : tm x = none := tm_len (by have h1 := unhide hSl; have h2 := unhide hxl; rw [Lib.size_eq, h1, List.length_drop] at hlt; omega)
          have h8 := unhide hm'
          unfold mo at h8; rw [h9] at h8
          injection h8 with h1 h2
          exact ⟨h1.symm, h2.symm⟩)
        obtain ⟨e1, e2⟩ := unhide hf
        subst e1 e2
        clear hf W0
        go_wp2
        exact bodyPost_ret (v := .tuple #[.int .i64 0, .bool false]) (by simp [results, Tryd.results63, go_sem]) rfl ⟨rfl, unhide B0⟩
      have g1 : decide ((S.size : Int) < 3) = false := decide_eq_false (by omega)
      have hge : 3 ≤ S.size := by omega
      obtain ⟨A, hA⟩ : ∃ A, S.extract 0 2 = A := ⟨_, rfl⟩
      obtain ⟨S2, hS2⟩ : ∃ A, S.extract 3 S.size = A := ⟨_, rfl⟩
      have hAd : A.data.toList = (x.drop (3 * 0)).take 2 := by rw [← hA, ext_list (Nat.zero_le _), unhide hSl]; rfl
      have hS2d := hide (show S2.data.toList = x.drop (3 * 1) by
        rw [← hS2, Lib.extract_to_end, unhide hSl, List.drop_drop])
      have hSz : S.size + 3 * 0 = x.length := by have h1 := congrArg List.length (unhide hSl); rw [← Lib.size_eq, List.length_drop] at h1; have := unhide hxl; omega
      have hxl2 := hide (show 3 * 1 ≤ x.length by omega)
      have hAs : A.size ≤ 3 := by rw [Lib.size_eq, hAd, List.length_take]; omega
      obtain ⟨g, hg⟩ : ∃ g, dgs A.data.toList = g := ⟨_, rfl⟩
      have hgv := hide (show pv x 0 + 3600000 * g = pv x 1 by
        rw [← hg, hAd, dgs2 (by rw [List.length_drop]; omega)]
        simp only [pv, vl, getD_drop, Nat.reduceMul, Nat.reduceAdd, Nat.mul_zero, Nat.zero_add]
        skip)
      have hg3 : g ≤ 1000000 := by
        rw [← hg, hAd, dgs2 (by rw [List.length_drop]; omega)]
        have h := fun i => dgv_lt ((x.drop (3 * 0)).getD i 0)
        have h0 := h 0; have h1 := h 1; have h2 := h 2; omega
      have hpl := pv_le x 0
      generalize pv x 0 = p at *
      have cD := hide (fun w => dgs_any A g w hAs hg)
      have tm1 : IntKind.i64.wrap (3600000 * (g : Int)) = 3600000 * g := by rw [IntKind.wrap_i64]; omega
      have tm2 : IntKind.i64.wrap ((p : Int) + 3600000 * g) = p + 3600000 * g := by rw [IntKind.wrap_i64]; omega
      have tm3 : IntKind.i64.wrap (g : Int) = g := by rw [IntKind.wrap_i64]; omega
      have tm4 : IntKind.i64.wrap ((p : Int) + g) = p + g := by rw [IntKind.wrap_i64]; omega
      have hext : ∀ j, j ≤ 3 → j ≤ S.size := fun j hj => by omega
      clear hg hAd hSz hext
      go_wp2_with fail
      obtain ⟨c0, c1, c2⟩ := blk3 (unhide W0)
      generalize wr.alloc (.cells #[.int .i64 3600000, .int .i64 2, .string ⟨#[58]⟩] 80) = X at *
      generalize wr.heap.size = q at *
      go_quiet (exact Calls.quiet_of_same (unhide cD _))
      go_wp2
      go_roundw
      case rel => exact ⟨1, S2, by omega, rfl, by rw [← unhide hgv]; first | rfl | (push_cast; rfl) | (congr 1; omega), rfl, hS2d, hxl2, hide (below_drewN (unhide B0) _)⟩
      case measure => simp [intOf]
    · have ix := i1
      clear i0 i1 i2 i3
      have B0 := hide (show Below w.heap.size w (wr.alloc (.cells #[.int .i64 60000, .int .i64 2, .string ⟨#[58]⟩] 80)) from (unhide hb).alloc hs0 _)
      have W0 := hide (alloc_new wr (.cells #[.int .i64 60000, .int .i64 2, .string ⟨#[58]⟩] 80))
      by_cases hlt : S.size < 3
      · have g1 : decide ((S.size : Int) < 3) = true := decide_eq_true (by omega)
        have hf := hide (show m = 0 ∧ ok = false by
          have h9 : tm x = none := tm_len (by have h1 := unhide hSl; have h2 := unhide hxl; rw [Lib.size_eq, h1, List.length_drop] at hlt; omega)
          have h8 := unhide hm'
          unfold mo at h8; rw [h9] at h8
          injection h8 with h1 h2
          exact ⟨h1.symm, h2.symm⟩)
        obtain ⟨e1, e2⟩ := unhide hf
        subst e1 e2
        clear hf W0
        go_wp2
        exact bodyPost_ret (v := .tuple #[.int .i64 0, .bool false]) (by simp [results, Tryd.results63, go_sem]) rfl ⟨rfl, unhide B0⟩
      have g1 : decide ((S.size : Int) < 3) = false := decide_eq_false (by omega)
      have hge : 3 ≤ S.size := by omega
      obtain ⟨A, hA⟩ : ∃ A, S.extract 0 2 = A := ⟨_, rfl⟩
      obtain ⟨S2, hS2⟩ : ∃ A, S.extract 3 S.size = A := ⟨_, rfl⟩
      have hAd : A.data.toList = (x.drop (3 * 1)).take 2 := by rw [← hA, ext_list (Nat.zero_le _), unhide hSl]; rfl
      have hS2d := hide (show S2.data.toList = x.drop (3 * 2) by
        rw [← hS2, Lib.extract_to_end, unhide hSl, List.drop_drop])
      have hSz : S.size + 3 * 1 = x.length := by have h1 := congrArg List.length (unhide hSl); rw [← Lib.size_eq, List.length_drop] at h1; have := unhide hxl; omega
      have hxl2 := hide (show 3 * 2 ≤ x.length by omega)
      have hAs : A.size ≤ 3 := by rw [Lib.size_eq, hAd, List.length_take]; omega
      obtain ⟨g, hg⟩ : ∃ g, dgs A.data.toList = g := ⟨_, rfl⟩
      have hgv := hide (show pv x 1 + 60000 * g = pv x 2 by
        rw [← hg, hAd, dgs2 (by rw [List.length_drop]; omega)]
        simp only [pv, vl, getD_drop, Nat.reduceMul, Nat.reduceAdd, Nat.mul_zero, Nat.zero_add]
        skip)
      have hg3 : g ≤ 1000000 := by
        rw [← hg, hAd, dgs2 (by rw [List.length_drop]; omega)]
        have h := fun i => dgv_lt ((x.drop (3 * 1)).getD i 0)
        have h0 := h 0; have h1 := h 1; have h2 := h 2; omega
      have hpl := pv_le x 1
      generalize pv x 1 = p at *
      have cD := hide (fun w => dgs_any A g w hAs hg)
      have tm1 : IntKind.i64.wrap (60000 * (g : Int)) = 60000 * g := by rw [IntKind.wrap_i64]; omega
      have tm2 : IntKind.i64.wrap ((p : Int) + 60000 * g) = p + 60000 * g := by rw [IntKind.wrap_i64]; omega
      have tm3 : IntKind.i64.wrap (g : Int) = g := by rw [IntKind.wrap_i64]; omega
      have tm4 : IntKind.i64.wrap ((p : Int) + g) = p + g := by rw [IntKind.wrap_i64]; omega
      have hext : ∀ j, j ≤ 3 → j ≤ S.size := fun j hj => by omega
      clear hg hAd hSz hext
      go_wp2_with fail
      obtain ⟨c0, c1, c2⟩ := blk3 (unhide W0)
      generalize wr.alloc (.cells #[.int .i64 60000, .int .i64 2, .string ⟨#[58]⟩] 80) = X at *
      generalize wr.heap.size = q at *
      go_quiet (exact Calls.quiet_of_same (unhide cD _))
      go_wp2
      go_roundw
      case rel => exact ⟨2, S2, by omega, rfl, by rw [← unhide hgv]; first | rfl | (push_cast; rfl) | (congr 1; omega), rfl, hS2d, hxl2, hide (below_drewN (unhide B0) _)⟩
      case measure => simp [intOf]
    · have ix := i2
      clear i0 i1 i2 i3
      have B0 := hide (show Below w.heap.size w (wr.alloc (.cells #[.int .i64 1000, .int .i64 2, .string ⟨#[44]⟩] 80)) from (unhide hb).alloc hs0 _)
      have W0 := hide (alloc_new wr (.cells #[.int .i64 1000, .int .i64 2, .string ⟨#[44]⟩] 80))
      by_cases hlt : S.size < 3
      · have g1 : decide ((S.size : Int) < 3) = true := decide_eq_true (by omega)
        have hf := hide (show m = 0 ∧ ok = false by
          have h9 : tm x = none := tm_len (by have h1 := unhide hSl; have h2 := unhide hxl; rw [Lib.size_eq, h1, List.length_drop] at hlt; omega)
          have h8 := unhide hm'
          unfold mo at h8; rw [h9] at h8
          injection h8 with h1 h2
          exact ⟨h1.symm, h2.symm⟩)
        obtain ⟨e1, e2⟩ := unhide hf
        subst e1 e2
        clear hf W0
        go_wp2
        exact bodyPost_ret (v := .tuple #[.int .i64 0, .bool false]) (by simp [results, Tryd.results63, go_sem]) rfl ⟨rfl, unhide B0⟩
      have g1 : decide ((S.size : Int) < 3) = false := decide_eq_false (by omega)
      have hge : 3 ≤ S.size := by omega
      obtain ⟨A, hA⟩ : ∃ A, S.extract 0 2 = A := ⟨_, rfl⟩
      obtain ⟨S2, hS2⟩ : ∃ A, S.extract 3 S.size = A := ⟨_, rfl⟩
      have hAd : A.data.toList = (x.drop (3 * 2)).take 2 := by rw [← hA, ext_list (Nat.zero_le _), unhide hSl]; rfl
      have hS2d := hide (show S2.data.toList = x.drop (3 * 3) by
        rw [← hS2, Lib.extract_to_end, unhide hSl, List.drop_drop])
      have hSz : S.size + 3 * 2 = x.length := by have h1 := congrArg List.length (unhide hSl); rw [← Lib.size_eq, List.length_drop] at h1; have := unhide hxl; omega
      have hxl2 := hide (show 3 * 3 ≤ x.length by omega)
      have hAs : A.size ≤ 3 := by rw [Lib.size_eq, hAd, List.length_take]; omega
      obtain ⟨g, hg⟩ : ∃ g, dgs A.data.toList = g := ⟨_, rfl⟩
      have hgv := hide (show pv x 2 + 1000 * g = pv x 3 by
        rw [← hg, hAd, dgs2 (by rw [List.length_drop]; omega)]
        simp only [pv, vl, getD_drop, Nat.reduceMul, Nat.reduceAdd, Nat.mul_zero, Nat.zero_add]
        skip)
      have hg3 : g ≤ 1000000 := by
        rw [← hg, hAd, dgs2 (by rw [List.length_drop]; omega)]
        have h := fun i => dgv_lt ((x.drop (3 * 2)).getD i 0)
        have h0 := h 0; have h1 := h 1; have h2 := h 2; omega
      have hpl := pv_le x 2
      generalize pv x 2 = p at *
      have cD := hide (fun w => dgs_any A g w hAs hg)
      have tm1 : IntKind.i64.wrap (1000 * (g : Int)) = 1000 * g := by rw [IntKind.wrap_i64]; omega
      have tm2 : IntKind.i64.wrap ((p : Int) + 1000 * g) = p + 1000 * g := by rw [IntKind.wrap_i64]; omega
      have tm3 : IntKind.i64.wrap (g : Int) = g := by rw [IntKind.wrap_i64]; omega
      have tm4 : IntKind.i64.wrap ((p : Int) + g) = p + g := by rw [IntKind.wrap_i64]; omega
      have hext : ∀ j, j ≤ 3 → j ≤ S.size := fun j hj => by omega
      clear hg hAd hSz hext
      go_wp2_with fail
      obtain ⟨c0, c1, c2⟩ := blk3 (unhide W0)
      generalize wr.alloc (.cells #[.int .i64 1000, .int .i64 2, .string ⟨#[44]⟩] 80) = X at *
      generalize wr.heap.size = q at *
      go_quiet (exact Calls.quiet_of_same (unhide cD _))
      go_wp2
      go_roundw
      case rel => exact ⟨3, S2, by omega, rfl, by rw [← unhide hgv]; first | rfl | (push_cast; rfl) | (congr 1; omega), rfl, hS2d, hxl2, hide (below_drewN (unhide B0) _)⟩
      case measure => simp [intOf]
    · have ix := i3
      clear i0 i1 i2 i3
      have B0 := hide (show Below w.heap.size w (wr.alloc (.cells #[.int .i64 1, .int .i64 3, .string ⟨#[]⟩] 80)) from (unhide hb).alloc hs0 _)
      have W0 := hide (alloc_new wr (.cells #[.int .i64 1, .int .i64 3, .string ⟨#[]⟩] 80))
      by_cases hlt : S.size < 3
      · have g1 : decide ((S.size : Int) < 3) = true := decide_eq_true (by omega)
        have hf := hide (show m = 0 ∧ ok = false by
          have h9 : tm x = none := tm_len (by have h1 := unhide hSl; have h2 := unhide hxl; rw [Lib.size_eq, h1, List.length_drop] at hlt; omega)
          have h8 := unhide hm'
          unfold mo at h8; rw [h9] at h8
          injection h8 with h1 h2
          exact ⟨h1.symm, h2.symm⟩)
        obtain ⟨e1, e2⟩ := unhide hf
        subst e1 e2
        clear hf W0
        go_wp2
        exact bodyPost_ret (v := .tuple #[.int .i64 0, .bool false]) (by simp [results, Tryd.results63, go_sem]) rfl ⟨rfl, unhide B0⟩
      have g1 : decide ((S.size : Int) < 3) = false := decide_eq_false (by omega)
      have hge : 3 ≤ S.size := by omega
      obtain ⟨A, hA⟩ : ∃ A, S.extract 0 3 = A := ⟨_, rfl⟩
      obtain ⟨S2, hS2⟩ : ∃ A, S.extract 3 S.size = A := ⟨_, rfl⟩
      have hAd : A.data.toList = (x.drop (3 * 3)).take 3 := by rw [← hA, ext_list (Nat.zero_le _), unhide hSl]; rfl
      have hS2d := hide (show S2.data.toList = x.drop (3 * 4) by
        rw [← hS2, Lib.extract_to_end, unhide hSl, List.drop_drop])
      have hSz : S.size + 3 * 3 = x.length := by have h1 := congrArg List.length (unhide hSl); rw [← Lib.size_eq, List.length_drop] at h1; have := unhide hxl; omega
      have hxl2 := hide (show 3 * 4 ≤ x.length by omega)
      have hAs : A.size ≤ 3 := by rw [Lib.size_eq, hAd, List.length_take]; omega
      obtain ⟨g, hg⟩ : ∃ g, dgs A.data.toList = g := ⟨_, rfl⟩
      have hgv := hide (show pv x 3 + 1 * g = pv x 4 by
        rw [← hg, hAd, dgs3 (by rw [List.length_drop]; omega)]
        simp only [pv, vl, getD_drop, Nat.reduceMul, Nat.reduceAdd, Nat.mul_zero, Nat.zero_add]
        omega)
      have hg3 : g ≤ 1000000 := by
        rw [← hg, hAd, dgs3 (by rw [List.length_drop]; omega)]
        have h := fun i => dgv_lt ((x.drop (3 * 3)).getD i 0)
        have h0 := h 0; have h1 := h 1; have h2 := h 2; omega
      have hpl := pv_le x 3
      generalize pv x 3 = p at *
      have cD := hide (fun w => dgs_any A g w hAs hg)
      have tm1 : IntKind.i64.wrap (1 * (g : Int)) = 1 * g := by rw [IntKind.wrap_i64]; omega
      have tm2 : IntKind.i64.wrap ((p : Int) + 1 * g) = p + 1 * g := by rw [IntKind.wrap_i64]; omega
      have tm3 : IntKind.i64.wrap (g : Int) = g := by rw [IntKind.wrap_i64]; omega
      have tm4 : IntKind.i64.wrap ((p : Int) + g) = p + g := by rw [IntKind.wrap_i64]; omega
      have hext : ∀ j, j ≤ 3 → j ≤ S.size := fun j hj => by omega
      clear hg hAd hSz hext
      go_wp2_with fail
      obtain ⟨c0, c1, c2⟩ := blk3 (unhide W0)
      generalize wr.alloc (.cells #[.int .i64 1, .int .i64 3, .string ⟨#[]⟩] 80) = X at *
      generalize wr.heap.size = q at *
      go_quiet (exact Calls.quiet_of_same (unhide cD _))
      go_wp2
      go_roundw
      case rel => exact ⟨4, S2, by omega, rfl, by rw [← unhide hgv]; congr 1; omega, rfl, hS2d, hxl2, hide (below_drewN (unhide B0) _)⟩
      case measure => simp [intOf]
    · have cT := hide (fun w => imil_any (vl x) w (vl_le x))
      by_cases he : x = mt (vl x)
      · have hf := hide (show m = (vl x : Int) ∧ ok = true by
          have h8 := unhide hm'
          unfold mo tm at h8; rw [if_pos he] at h8
          injection h8 with h1 h2
          exact ⟨h1.symm, h2.symm⟩)
        obtain ⟨e1, e2⟩ := unhide hf
        have hsq : (⟨(mt (vl x)).toArray⟩ : ByteArray) = s := by rw [← he, ← unhide hx']
        rw [hsq] at cT
        subst e1 e2
        clear hf hsq he
        have hpv : (pv x 4 : Int) = (vl x : Int) := rfl
        rw [show pv x 4 = vl x from rfl]
        clear hpv
        go_wp2_with fail
        refine (unhide cT _).mono ?_
        rintro e w5 ⟨rfl, k5⟩
        have B5 := hide (laterB (unhide hb) k5)
        clear k5
        go_wp2
        exact bodyPost_ret (v := .tuple #[.int .i64 (vl x), .bool true]) (by simp [results, Tryd.results63, go_sem]) rfl ⟨rfl, unhide B5⟩
      · have hf := hide (show m = 0 ∧ ok = false by
          have h8 := unhide hm'
          unfold mo tm at h8; rw [if_neg he] at h8
          injection h8 with h1 h2
          exact ⟨h1.symm, h2.symm⟩)
        obtain ⟨e1, e2⟩ := unhide hf
        obtain ⟨Z, hZ⟩ : ∃ Z, (⟨(mt (vl x)).toArray⟩ : ByteArray) = Z := ⟨_, rfl⟩
        have hne : ¬ Z = s := by
          intro e; apply he
          rw [← hZ] at e
          have := congrArg (fun b : ByteArray => b.data.toList) e
          simp only at this
          rw [unhide hx'] at this
          exact this.symm
        rw [hZ] at cT
        subst e1 e2
        clear hf hZ he
        rw [show pv x 4 = vl x from rfl]
        have hne2 : (Z.toList == s.toList) = false := str_ne hne
        clear hne
        go_wp2_with fail
        refine (unhide cT _).mono ?_
        rintro e w5 ⟨rfl, k5⟩
        have B5 := hide (laterB (unhide hb) k5)
        clear k5
        go_wp2
        exact bodyPost_ret (v := .tuple #[.int .i64 0, .bool false]) (by simp [results, Tryd.results63, go_sem]) rfl ⟨rfl, unhide B5⟩

end Go.Proofs.YtcpllfjhhlbmiaaDoor
