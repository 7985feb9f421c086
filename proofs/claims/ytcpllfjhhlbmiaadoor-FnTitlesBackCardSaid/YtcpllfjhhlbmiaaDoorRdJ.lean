/-
  A time that is read: the contract of the model; nothing that was there is written.
-/
import Derived.Test.YtcpllfjhhlbmiaaDoorRdI
import Derived.Test.YtcpllfjhhlbmiaaDoorRdD
import Derived.Lib.OwnKind
import Derived.BigQuiet
namespace Go.Proofs.YtcpllfjhhlbmiaaDoor
open Go.RowKit
set_option linter.unusedVariables false
set_option linter.unusedSimpArgs false

/-- the four numbers of a time, its first k signs taken -/
def pt (x : List UInt8) : Nat → List Int
  | 0 => [0, 0, 0, 0]
  | k + 1 => if k < 9 ∧ k % 3 = 2 then pt x k else (pt x k).set (min (k / 3) 3) ((pt x k).getD (min (k / 3) 3) 0 * 10 + (dgv (x.getD k 0) : Int))
theorem pt_len (x : List UInt8) (k : Nat) : (pt x k).length = 4 := by
  induction k with
  | zero => rfl
  | succ k ih =>
    unfold pt
    split
    · exact ih
    · rw [List.length_set]; exact ih
theorem pt_end (x : List UInt8) : ∃ a b c d : Int, pt x 12 = [a, b, c, d] ∧ ((a * 60 + b) * 60 + c) * 1000 + d = (vl x : Int) ∧ 0 ≤ a ∧ a ≤ 100000 ∧ 0 ≤ b ∧ b ≤ 100000 ∧ 0 ≤ c ∧ c ≤ 100000 ∧ 0 ≤ d ∧ d ≤ 100000 := by
  have h := fun i => dgv_lt (x.getD i 0)
  have h0 := h 0; have h1 := h 1; have h3 := h 3; have h4 := h 4; have h6 := h 6; have h7 := h 7; have h9 := h 9; have h10 := h 10; have h11 := h 11
  refine ⟨(0 * 10 + (dgv (x.getD 0 0) : Int)) * 10 + (dgv (x.getD 1 0) : Int), (0 * 10 + (dgv (x.getD 3 0) : Int)) * 10 + (dgv (x.getD 4 0) : Int), (0 * 10 + (dgv (x.getD 6 0) : Int)) * 10 + (dgv (x.getD 7 0) : Int), ((0 * 10 + (dgv (x.getD 9 0) : Int)) * 10 + (dgv (x.getD 10 0) : Int)) * 10 + (dgv (x.getD 11 0) : Int), rfl, ?_, ?_⟩
  · unfold vl; omega
  · omega
theorem mt_dig {m i : Nat} {c : UInt8} (h : (mt m)[i]? = some c) (hi : ¬(i < 9 ∧ i % 3 = 2)) : 48 ≤ c.toNat ∧ c.toNat ≤ 57 := by
  have hl := (List.getElem?_eq_some_iff.1 h).1
  rw [mt_len] at hl
  have key : ∃ k, c = Pl.dg k := by
    obtain rfl | rfl | rfl | rfl | rfl | rfl | rfl | rfl | rfl | rfl | rfl | rfl : i = 0 ∨ i = 1 ∨ i = 2 ∨ i = 3 ∨ i = 4 ∨ i = 5 ∨ i = 6 ∨ i = 7 ∨ i = 8 ∨ i = 9 ∨ i = 10 ∨ i = 11 := by omega
    all_goals first
      | exact absurd ⟨by decide, by decide⟩ hi
      | (injection (show some _ = some c from h) with h; exact ⟨_, h.symm⟩)
  obtain ⟨k, rfl⟩ := key
  rw [Pl.dg_toNat]; omega
theorem tm_bad {x : List UInt8} {i : Nat} {c : UInt8} (h : x[i]? = some c) (hi : ¬(i < 9 ∧ i % 3 = 2)) (hc : c.toNat < 48 ∨ 57 < c.toNat) : tm x = none := by
  cases ht : tm x with
  | none => rfl
  | some m =>
    have := (tm_some ht).1
    rw [this] at h
    have := mt_dig h hi
    omega
theorem pt_skip {x : List UInt8} {k : Nat} (h : k < 9 ∧ k % 3 = 2) : pt x (k + 1) = pt x k := by rw [pt, if_pos h]
theorem pt_set {x : List UInt8} {k : Nat} {c : UInt8} (h : ¬(k < 9 ∧ k % 3 = 2)) (hc : x[k]? = some c) (h1 : 48 ≤ c.toNat) {p : Int} (hp : (pt x k)[min (k / 3) 3]? = some p) : pt x (k + 1) = (pt x k).set (min (k / 3) 3) (p * 10 + ((c.toNat : Int) - 48)) := by
  have e1 : x.getD k 0 = c := by rw [List.getD_eq_getElem?_getD, hc]; rfl
  have e2 : (pt x k).getD (min (k / 3) 3) 0 = p := by rw [List.getD_eq_getElem?_getD, hp]; rfl
  rw [pt, if_neg h, e1, e2]
  congr 2
  unfold dgv
  have := c.toNat_lt
  omega
/-- bounds of the four -/
def Pb (x : List UInt8) (k : Nat) : Prop := ∀ p ∈ pt x k, 0 ≤ p ∧ p + 1 ≤ 10 ^ k
theorem pb_zero (x : List UInt8) : Pb x 0 := by
  intro p hp
  simp [pt] at hp
  subst hp; decide
theorem pb_skip {x : List UInt8} {k : Nat} (hb : Pb x k) (h : k < 9 ∧ k % 3 = 2) : Pb x (k + 1) := by
  intro p hp
  rw [pt_skip h] at hp
  have := hb p hp
  rw [Int.pow_succ]; omega
theorem pb_set {x : List UInt8} {k : Nat} {v p : Int} {j : Nat} (hb : Pb x k) (he : pt x (k + 1) = (pt x k).set j v) (hp : (pt x k)[j]? = some p) (h0 : 0 ≤ v) (h1 : v ≤ p * 10 + 9) : Pb x (k + 1) := by
  intro q hq
  rw [he] at hq
  rcases List.mem_or_eq_of_mem_set hq with h | h
  · have := hb q h
    rw [Int.pow_succ]; omega
  · have := hb p (List.mem_of_getElem? hp)
    subst h
    rw [Int.pow_succ]; omega
theorem pb_le {x : List UInt8} {k j : Nat} {p : Int} (hb : Pb x k) (hk : k ≤ 12) (hp : (pt x k)[j]? = some p) : 0 ≤ p ∧ p ≤ 1000000000000 := by
  have h := hb p (List.mem_of_getElem? hp)
  have : (10 : Int) ^ k ≤ 10 ^ 12 := by
    have h2 : (10 : Nat) ^ k ≤ 10 ^ 12 := Nat.pow_le_pow_right (by decide) hk
    exact_mod_cast h2
  have e : (10 : Int) ^ 12 = 1000000000000 := by decide
  omega
set_option maxRecDepth 100000 in
set_option maxHeartbeats 6400000 in
theorem sread_any (s : ByteArray) (x : List UInt8) (w : World) (hs : s.size ≤ 1048576) (hx : s.data.toList = x) :
    Calls Tryd.prog 33 #[.string s] w fun e w' => ∃ m, e = .returned (.tuple #[.int .i64 m, .bool (tm x).isSome]) ∧ (∀ k, tm x = some k → m = k) ∧ Below w.heap.size w w' := by
  have hsz : s.size = x.length := by rw [Lib.size_eq, hx]
  by_cases h12 : s.size = 12
  · have g1 : ((s.size : Int) != 12) = false := by rw [h12]; rfl
    have hx' := hide hx
    have hxl := hide (show x.length = 12 by omega)
    have O0 := hide (show (w.alloc (.cells #[.int .i64 0, .int .i64 0, .int .i64 0, .int .i64 0] 2)).ownsRow w.heap.size 2 1 (.slice (some ⟨w.heap.size, 0, none⟩) 4 4) 4 ((pt x 0).map iv) from World.ownsRow_lit (base := w.heap.size) (e := 2) (size := 1) w #[.int .i64 0, .int .i64 0, .int .i64 0, .int .i64 0] 4 (Nat.le_refl _) (by unfold maxLen; omega) rfl)
    have B0 := hide ((Below.refl w.heap.size w).alloc (Nat.le_refl _) (.cells #[.int .i64 0, .int .i64 0, .int .i64 0, .int .i64 0] 2))
    clear hx hsz
    go_enter Tryd.func33, Tryd.ntmps33
    go_wp2
    go_loopw [5, 6] (fun t t6 wr => ∃ (k : Nat), k ≤ 12 ∧ t = .int .i64 k ∧ Hid (Pb x k) ∧ Hid (wr.ownsRow w.heap.size 2 1 (.slice (some ⟨w.heap.size, 0, none⟩) 4 4) 4 ((pt x k).map iv)) ∧ Hid (Below w.heap.size w wr)) (fun t _ _ => 12 - (intOf t).toNat)
    case atStart => exact ⟨0, by omega, rfl, hide (pb_zero x), O0, B0⟩
    case round =>
      clear O0 B0
      obtain ⟨k, hk, rfl, hPb, hO, hB⟩ := hrel
      by_cases hlt : k < 12
      · have hlt2 : decide ((k : Int) < 12) = true := decide_eq_true (by omega)
        by_cases hsk : k < 9 ∧ k % 3 = 2
        · have q1 : decide ((k : Int) < 9) = true := decide_eq_true (by omega)
          have q2 : (((k % 3 : Nat) : Int) == 2) = true := by rw [beq_iff_eq]; omega
          have hPb2 := hide (pb_skip (unhide hPb) hsk)
          have hO2 := hide (show wr.ownsRow w.heap.size 2 1 (.slice (some ⟨w.heap.size, 0, none⟩) 4 4) 4 ((pt x (k + 1)).map iv) by rw [pt_skip hsk]; exact unhide hO)
          clear hsk
          go_wp2
          go_roundw
          case rel => exact ⟨k + 1, by omega, by go_num, hPb2, hO2, hB⟩
          case measure => simp [intOf]; omega
        · obtain ⟨c, hc⟩ : ∃ c, x[k]? = some c := ⟨x[k]'(by have := unhide hxl; omega), List.getElem?_eq_getElem (by have := unhide hxl; omega)⟩
          have hidx := fun w => idx_str (unhide hx') hc w
          have hks : k < s.size := by omega
          have q12 : (decide ((k : Int) < 9) = true ∧ (((k % 3 : Nat) : Int) == 2) = false) ∨ decide ((k : Int) < 9) = false := by
            by_cases h9 : k < 9
            · left; exact ⟨decide_eq_true (by omega), by rw [beq_eq_false_iff_ne]; omega⟩
            · right; exact decide_eq_false (by omega)
          by_cases hd : 48 ≤ c.toNat ∧ c.toNat ≤ 57
          · obtain ⟨d0, d1⟩ := hd
            have q3 : decide (((c.toNat : Nat) : Int) < 48) = false := decide_eq_false (by omega)
            have q4 : decide ((57 : Int) < ((c.toNat : Nat) : Int)) = false := decide_eq_false (by omega)
            obtain ⟨j, hj⟩ : ∃ j, min (k / 3) 3 = j := ⟨_, rfl⟩
            have hj3 : j < 4 := by omega
            have cM := hide (fun w => min_any 3 ((k / 3 : Nat) : Int) (j : Int) w (by split <;> omega))
            obtain ⟨pv', c0, f0, hpv, _⟩ := own_at (i := j) (unhide hO) (by omega)
            obtain ⟨p, hp⟩ : ∃ p, (pt x k)[j]? = some p := ⟨(pt x k)[j]'(by rw [pt_len]; exact hj3), List.getElem?_eq_getElem (by rw [pt_len]; exact hj3)⟩
            rw [List.getElem?_map, hp] at hpv
            injection hpv with hpv
            subst hpv
            have he := pt_set hsk hc d0 (hj ▸ hp)
            rw [hj] at he
            obtain ⟨p0, p1⟩ := pb_le (unhide hPb) hk hp
            have hPb2 := hide (pb_set (unhide hPb) he hp (by omega) (by omega))
            have hO2 := hide (show (wr.setCell ⟨w.heap.size, j, none⟩ (.int .i64 (p * 10 + ((c.toNat : Int) - 48)))).ownsRow w.heap.size 2 1 (.slice (some ⟨w.heap.size, 0, none⟩) 4 4) 4 ((pt x (k + 1)).map iv) by
              rw [he, List.map_set]; exact ((unhide hO).stored j _).1)
            have hB2 := hide ((unhide hB).setCell (p := ⟨w.heap.size, j, none⟩) (Nat.le_refl _) (.int .i64 (p * 10 + ((c.toNat : Int) - 48))))
            have t1 : IntKind.i64.wrap (p * 10) = p * 10 := by rw [IntKind.wrap_i64]; omega
            have t2 : IntKind.u8.wrap ((c.toNat : Int) - 48) = (c.toNat : Int) - 48 := by rw [IntKind.wrap_u8]; omega
            have t3 : IntKind.i64.wrap ((c.toNat : Int) - 48) = (c.toNat : Int) - 48 := by rw [IntKind.wrap_i64]; omega
            have t4 : IntKind.i64.wrap (p * 10 + ((c.toNat : Int) - 48)) = p * 10 + ((c.toNat : Int) - 48) := by rw [IntKind.wrap_i64]; omega
            have t4' : p * 10 + ((c.toNat : Int) - 48) = p * 10 + ((c.toNat : Int) - 48) := rfl
            clear hc hsk hp he hPb hO hj t4'
            rcases q12 with ⟨q1, q2⟩ | q1
            · go_wp2_with fail
              refine (unhide cM _).mono ?_
              rintro e w1 ⟨rfl, rfl⟩
              go_wp2_with fail
              go_region
              have oF := hide (own_heap (Y := (w1.setCell ⟨w.heap.size, j, none⟩ (.int .i64 (p * 10 + ((c.toNat : Int) - 48)))).drew) rfl (unhide hO2))
              have bF := hide (unhide hB2).drew
              clear hO2 hB2
              go_wp2
              go_roundw
              case rel => exact ⟨k + 1, by omega, by go_num, hPb2, oF, bF⟩
              case measure => simp [intOf]; omega
            · go_wp2_with fail
              refine (unhide cM _).mono ?_
              rintro e w1 ⟨rfl, rfl⟩
              go_wp2_with fail
              go_region
              have oF := hide (own_heap (Y := (w1.setCell ⟨w.heap.size, j, none⟩ (.int .i64 (p * 10 + ((c.toNat : Int) - 48)))).drew) rfl (unhide hO2))
              have bF := hide (unhide hB2).drew
              clear hO2 hB2
              go_wp2
              go_roundw
              case rel => exact ⟨k + 1, by omega, by go_num, hPb2, oF, bF⟩
              case measure => simp [intOf]; omega
          · have htm := hide (tm_bad hc hsk (by omega))
            have hfin := hide (show (tm x).isSome = false ∧ ∀ k, tm x = some k → (0 : Int) = k by rw [unhide htm]; exact ⟨rfl, fun k h => by cases h⟩)
            have q34 : decide (((c.toNat : Nat) : Int) < 48) = true ∨ (decide (((c.toNat : Nat) : Int) < 48) = false ∧ decide ((57 : Int) < ((c.toNat : Nat) : Int)) = true) := by
              by_cases h9 : c.toNat < 48
              · left; exact decide_eq_true (by omega)
              · right; exact ⟨decide_eq_false (by omega), decide_eq_true (by omega)⟩
            clear hc hsk hd htm
            rcases q12 with ⟨q1, q2⟩ | q1 <;> rcases q34 with q3 | ⟨q3, q4⟩
            all_goals
              go_wp2
              exact bodyPost_ret (v := .tuple #[.int .i64 0, .bool (tm x).isSome]) (by rw [(unhide hfin).1]; simp [results, Tryd.results33, go_sem]) rfl ⟨0, rfl, (unhide hfin).2, unhide hB⟩
      · have hlt2 : decide ((k : Int) < 12) = false := decide_eq_false (by omega)
        obtain rfl : k = 12 := by omega
        obtain ⟨a, b, c, d, hpe, hval, a0, a1, b0, b1, c0', c1', d0, d1⟩ := pt_end x
        obtain ⟨_, e0, _, h0, _⟩ := own_at (i := 0) (unhide hO) (by omega)
        obtain ⟨_, e1, _, h1, _⟩ := own_at (i := 1) (unhide hO) (by omega)
        obtain ⟨_, e2, _, h2, _⟩ := own_at (i := 2) (unhide hO) (by omega)
        obtain ⟨_, e3, _, h3, _⟩ := own_at (i := 3) (unhide hO) (by omega)
        rw [hpe] at h0 h1 h2 h3
        cases h0; cases h1; cases h2; cases h3
        have t1 : IntKind.i64.wrap (a * 60) = a * 60 := by rw [IntKind.wrap_i64]; omega
        have t2 : IntKind.i64.wrap (a * 60 + b) = a * 60 + b := by rw [IntKind.wrap_i64]; omega
        have t3 : IntKind.i64.wrap ((a * 60 + b) * 60) = (a * 60 + b) * 60 := by rw [IntKind.wrap_i64]; omega
        have t4 : IntKind.i64.wrap ((a * 60 + b) * 60 + c) = (a * 60 + b) * 60 + c := by rw [IntKind.wrap_i64]; omega
        have t5 : IntKind.i64.wrap (((a * 60 + b) * 60 + c) * 1000) = ((a * 60 + b) * 60 + c) * 1000 := by rw [IntKind.wrap_i64]; omega
        have t6 : IntKind.i64.wrap (((a * 60 + b) * 60 + c) * 1000 + d) = (vl x : Int) := by rw [IntKind.wrap_i64]; omega
        clear hpe hO hPb hval a0 a1 b0 b1 c0' c1' d0 d1
        have hx2 := mk_list (unhide hx')
        obtain ⟨n, hn⟩ : ∃ n, vl x = n := ⟨_, rfl⟩
        have htm : tm x = if x = mt n then some n else none := by rw [← hn]; rfl
        rw [hn] at t6
        obtain ⟨sm, hsm⟩ : ∃ z, (⟨(mt n).toArray⟩ : ByteArray) = z := ⟨_, rfl⟩
        by_cases hv : n ≤ 359999999
        · have q1 : decide ((n : Int) ≤ 359999999) = true := decide_eq_true (by omega)
          have cS : Hid (∀ w', Calls Tryd.prog 27 #[.int .i64 (n : Int)] w' fun e w'' => e = .returned (.string sm) ∧ Below w'.heap.size w' w'') := hide (fun w' => by
            have := stime_any (n : Int) w' (by omega) (by omega)
            rw [show ((n : Nat) : Int).toNat = n by omega, hsm] at this; exact this)
          obtain ⟨bb, hbb, hfin⟩ : ∃ b, (sm.toList == s.toList) = b ∧ ((tm x).isSome = b ∧ ∀ k, tm x = some k → ((n : Nat) : Int) = k) := by
            by_cases hxe : x = mt n
            · refine ⟨true, ?_, ?_⟩
              · rw [← hsm, ← hx2, ← hxe]; exact str_eq _
              · rw [htm, if_pos hxe]; exact ⟨rfl, fun k h => by injection h with h; omega⟩
            · refine ⟨false, ne_str hsm hx2 (fun e => hxe e.symm), ?_⟩
              rw [htm, if_neg hxe]; exact ⟨rfl, fun k h => by cases h⟩
          have hfin := hide hfin
          clear htm hv hx2 hn hsm hx'
          go_wp2_with fail
          go_quiet (fail)
          go_wp2_with fail
          refine (unhide cS _).mono ?_
          rintro e w2 ⟨rfl, kb⟩
          have B2 := hide (laterB (w := _) (by first | exact unhide hB | exact (unhide hB).drew | exact below_drewN (unhide hB) _) kb)
          clear kb
          go_wp2
          exact bodyPost_ret (v := .tuple #[.int .i64 n, .bool (tm x).isSome]) (by rw [(unhide hfin).1]; simp [results, Tryd.results33, go_sem]) rfl ⟨_, rfl, (unhide hfin).2, unhide B2⟩
        · have q1 : decide ((n : Int) ≤ 359999999) = false := decide_eq_false (by omega)
          have hfin : (tm x).isSome = false ∧ ∀ k, tm x = some k → ((n : Nat) : Int) = k := by
            have : tm x = none := by
              cases h9 : tm x with
              | none => rfl
              | some m => obtain ⟨_, h2, h3⟩ := tm_some h9; omega
            rw [this]; exact ⟨rfl, fun k h => by cases h⟩
          have hfin := hide hfin
          clear htm hv hx2 hn hsm hx'
          go_wp2_with fail
          go_quiet (fail)
          go_wp2
          exact bodyPost_ret (v := .tuple #[.int .i64 n, .bool (tm x).isSome]) (by rw [(unhide hfin).1]; simp [results, Tryd.results33, go_sem]) rfl ⟨_, rfl, (unhide hfin).2, by first | exact unhide hB | exact (unhide hB).drew | exact below_drewN (unhide hB) _⟩
  · have g1 : ((s.size : Int) != 12) = true := by simp; omega
    have htm := hide (tm_len (x := x) (by omega))
    have hfin := hide (show (tm x).isSome = false ∧ ∀ k, tm x = some k → (0 : Int) = k by rw [unhide htm]; exact ⟨rfl, fun k h => by cases h⟩)
    clear h12
    go_enter Tryd.func33, Tryd.ntmps33
    go_wp2
    exact bodyPost_ret (v := .tuple #[.int .i64 0, .bool (tm x).isSome]) (by rw [(unhide hfin).1]; simp [results, Tryd.results33, go_sem]) rfl ⟨0, rfl, (unhide hfin).2, Below.refl _ _⟩

end Go.Proofs.YtcpllfjhhlbmiaaDoor
