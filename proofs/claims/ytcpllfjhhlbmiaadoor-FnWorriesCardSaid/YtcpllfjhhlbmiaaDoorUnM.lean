/-
  What can't be read of titles: contracts of what a style is, of gaps, of what is wrong with a title; nothing that was there is written.
-/
import Derived.Test.YtcpllfjhhlbmiaaDoorUnL
namespace Go.Proofs.YtcpllfjhhlbmiaaDoor
open Go.RowKit
set_option linter.unusedVariables false
set_option linter.unusedSimpArgs false

set_option maxRecDepth 100000 in
set_option maxHeartbeats 3200000 in
theorem style_any (s : Sy) (v : Bool) (w : World) (hv : syOk s = v) : Calls Tryd.prog 41 #[ag5 s] w fun e w' => e = .returned (.bool v) ∧ Below w.heap.size w w' := by
  obtain ⟨a, b, c, d, f⟩ := s
  unfold syOk at hv
  simp only at hv
  have B0 := hide ((Below.refl w.heap.size w).alloc (Nat.le_refl _) (.cells #[.int .i64 a, .int .i64 b, .int .i64 c, .int .i64 d, .int .i64 f] 36))
  obtain ⟨va, ha⟩ : ∃ va, (decide (1 ≤ a) && decide (a ≤ 359999999)) = va := ⟨_, rfl⟩
  obtain ⟨vb, hb⟩ : ∃ vb, (decide (0 ≤ b) && decide (b ≤ 359999999)) = vb := ⟨_, rfl⟩
  obtain ⟨vc, hc⟩ : ∃ vc, (decide (1 ≤ c) && decide (c ≤ 359999999)) = vc := ⟨_, rfl⟩
  obtain ⟨vd, hd⟩ : ∃ vd, (decide (1 ≤ d) && decide (d ≤ 359999999)) = vd := ⟨_, rfl⟩
  obtain ⟨vf, hf⟩ : ∃ vf, (decide (1 ≤ f) && decide (f ≤ 359999999)) = vf := ⟨_, rfl⟩
  rw [ha, hb, hc, hd, hf] at hv
  have cA := hide (fun w => in_any a 1 359999999 va w ha)
  have cB := hide (fun w => in_any b 0 359999999 vb w hb)
  have cC := hide (fun w => in_any c 1 359999999 vc w hc)
  have cD := hide (fun w => in_any d 1 359999999 vd w hd)
  have cF := hide (fun w => in_any f 1 359999999 vf w hf)
  have hv' := hide hv
  clear ha hb hc hd hf hv
  cases va
  · go_enter Tryd.func41, Tryd.ntmps41
    go_wp2_with fail
    refine (unhide cA _).mono ?_
    rintro e w1 ⟨rfl, rfl⟩
    go_wp2
    go_ret
    exact ⟨ret_bool (by rw [← unhide hv']; simp), unhide B0⟩
  cases vb
  · go_enter Tryd.func41, Tryd.ntmps41
    go_wp2_with fail
    refine (unhide cA _).mono ?_
    rintro e w1 ⟨rfl, rfl⟩
    go_wp2_with fail
    refine (unhide cB _).mono ?_
    rintro e w1 ⟨rfl, rfl⟩
    go_wp2
    go_ret
    exact ⟨ret_bool (by rw [← unhide hv']; simp), unhide B0⟩
  cases vc
  · go_enter Tryd.func41, Tryd.ntmps41
    go_wp2_with fail
    refine (unhide cA _).mono ?_
    rintro e w1 ⟨rfl, rfl⟩
    go_wp2_with fail
    refine (unhide cB _).mono ?_
    rintro e w1 ⟨rfl, rfl⟩
    go_wp2_with fail
    refine (unhide cC _).mono ?_
    rintro e w1 ⟨rfl, rfl⟩
    go_wp2
    go_ret
    exact ⟨ret_bool (by rw [← unhide hv']; simp), unhide B0⟩
  cases vd
  · go_enter Tryd.func41, Tryd.ntmps41
    go_wp2_with fail
    refine (unhide cA _).mono ?_
    rintro e w1 ⟨rfl, rfl⟩
    go_wp2_with fail
    refine (unhide cB _).mono ?_
    rintro e w1 ⟨rfl, rfl⟩
    go_wp2_with fail
    refine (unhide cC _).mono ?_
    rintro e w1 ⟨rfl, rfl⟩
    go_wp2_with fail
    refine (unhide cD _).mono ?_
    rintro e w1 ⟨rfl, rfl⟩
    go_wp2
    go_ret
    exact ⟨ret_bool (by rw [← unhide hv']; simp), unhide B0⟩
  · go_enter Tryd.func41, Tryd.ntmps41
    go_wp2_with fail
    refine (unhide cA _).mono ?_
    rintro e w1 ⟨rfl, rfl⟩
    go_wp2_with fail
    refine (unhide cB _).mono ?_
    rintro e w1 ⟨rfl, rfl⟩
    go_wp2_with fail
    refine (unhide cC _).mono ?_
    rintro e w1 ⟨rfl, rfl⟩
    go_wp2_with fail
    refine (unhide cD _).mono ?_
    rintro e w1 ⟨rfl, rfl⟩
    go_wp2_with fail
    refine (unhide cF _).mono ?_
    rintro e w1 ⟨rfl, rfl⟩
    go_wp2
    go_ret
    exact ⟨ret_bool (by rw [← unhide hv']; simp), unhide B0⟩

theorem ix4a (a b c d : Int) : (∀ w, (Instr.index 97 (.agg #[.int .i64 a, .int .i64 b, .int .i64 c, .int .i64 d]) (.int .i64 0)).run Tryd.prog w = .ok (.int .i64 a) w) ∧ (∀ w, (Instr.index 97 (.agg #[.int .i64 a, .int .i64 b, .int .i64 c, .int .i64 d]) (.int .i64 1)).run Tryd.prog w = .ok (.int .i64 b) w) ∧ (∀ w, (Instr.index 97 (.agg #[.int .i64 a, .int .i64 b, .int .i64 c, .int .i64 d]) (.int .i64 2)).run Tryd.prog w = .ok (.int .i64 c) w) ∧ (∀ w, (Instr.index 97 (.agg #[.int .i64 a, .int .i64 b, .int .i64 c, .int .i64 d]) (.int .i64 3)).run Tryd.prog w = .ok (.int .i64 d) w) :=
  ⟨fun _ => by kernel_rfl, fun _ => by kernel_rfl, fun _ => by kernel_rfl, fun _ => by kernel_rfl⟩
theorem ix4 {a b c d n : Int} {k : Nat} (h : [a, b, c, d][k]? = some n) (w : World) : (Instr.index 97 (.agg #[.int .i64 a, .int .i64 b, .int .i64 c, .int .i64 d]) (.int .i64 (k : Int))).run Tryd.prog w = .ok (.int .i64 n) w := by
  obtain ⟨i0, i1, i2, i3⟩ := ix4a a b c d
  rcases k with _ | _ | _ | _ | k
  · have e : a = n := by simpa using h
    rw [← e]; exact i0 w
  · have e : b = n := by simpa using h
    rw [← e]; exact i1 w
  · have e : c = n := by simpa using h
    rw [← e]; exact i2 w
  · have e : d = n := by simpa using h
    rw [← e]; exact i3 w
  · simp at h
def inR (n : Int) : Bool := decide (1 ≤ n) && decide (n ≤ 359999999)
theorem sy_list (a b c d f : Int) : syOk (a, b, c, d, f) = ([a, c, d, f].all inR && (decide (0 ≤ b) && decide (b ≤ 359999999))) := by
  unfold syOk inR
  simp only [List.all_cons, List.all_nil, Bool.and_true]
  generalize (decide (1 ≤ a) && decide (a ≤ 359999999)) = A
  generalize (decide (0 ≤ b) && decide (b ≤ 359999999)) = B
  generalize (decide (1 ≤ c) && decide (c ≤ 359999999)) = C
  generalize (decide (1 ≤ d) && decide (d ≤ 359999999)) = D
  generalize (decide (1 ≤ f) && decide (f ≤ 359999999)) = F
  cases A <;> cases B <;> cases C <;> cases D <;> cases F <;> rfl

set_option maxRecDepth 100000 in
set_option maxHeartbeats 1600000 in
theorem right_any (s : Sy) (v : Bool) (w : World) (hv : syOk s = v) : Calls Tryd.prog 38 #[ag5 s] w fun e w' => e = .returned (.bool v) ∧ Below w.heap.size w w' := by
  obtain ⟨a, b, c, d, f⟩ := s
  rw [sy_list] at hv
  have hv' := hide hv
  have B0 := hide ((Below.refl w.heap.size w).alloc (Nat.le_refl _) (.cells #[.int .i64 a, .int .i64 b, .int .i64 c, .int .i64 d, .int .i64 f] 36))
  clear hv
  have W0 := alloc_new w (.cells #[.int .i64 a, .int .i64 b, .int .i64 c, .int .i64 d, .int .i64 f] 36)
  go_enter Tryd.func38, Tryd.ntmps38
  go_wp2_with fail
  obtain ⟨c0, c1, c2, c3, c4⟩ := blk5 W0
  generalize hX : w.alloc (.cells #[.int .i64 a, .int .i64 b, .int .i64 c, .int .i64 d, .int .i64 f] 36) = X at *
  clear hX W0
  go_loopw [14] (fun t wr => ∃ k : Nat, k ≤ 4 ∧ t = .int .i64 k ∧ wr = X ∧ Hid (([a, c, d, f].take k).all inR = true)) (fun t _ => 4 - (intOf t).toNat)
  case atStart => exact ⟨0, by omega, rfl, rfl, hide rfl⟩
  case round =>
    obtain ⟨k, hk, rfl, rfl, hok⟩ := hrel
    by_cases hlt : k < 4
    · have hlt2 : decide ((k : Int) < 4) = true := decide_eq_true (by omega)
      obtain ⟨n, hn⟩ : ∃ n, [a, c, d, f][k]? = some n := ⟨[a, c, d, f][k]'(by simpa using hlt), List.getElem?_eq_getElem (by simpa using hlt)⟩
      have hix := ix4 hn
      have hst := hide (show inR n = false → false = v from fun h => by
        rw [← unhide hv', List.all_eq_false.2 ⟨n, List.mem_of_getElem? hn, by rw [h]; decide⟩]; rfl)
      have hnx := hide (show inR n = true → ([a, c, d, f].take (k + 1)).all inR = true from fun h => by
        rw [List.take_add_one, hn, List.all_append, unhide hok]; simpa using h)
      clear hn
      by_cases h1 : n < 1
      · have g1 : decide (n < 1) = true := decide_eq_true h1
        have hb := hide (unhide hst (by unfold inR; rw [decide_eq_false (by omega)]; rfl))
        clear hst hnx
        go_wp2
        go_ret
        exact ⟨ret_bool (unhide hb), unhide B0⟩
      have g1 : decide (n < 1) = false := decide_eq_false h1
      by_cases h2 : 359999999 < n
      · have g2 : decide (359999999 < n) = true := decide_eq_true h2
        have hb := hide (unhide hst (by unfold inR; rw [decide_eq_false (p := n ≤ 359999999) (by omega)]; simp))
        clear hst hnx
        go_wp2
        go_ret
        exact ⟨ret_bool (unhide hb), unhide B0⟩
      · have g2 : decide (359999999 < n) = false := decide_eq_false h2
        have hb := hide (unhide hnx (by unfold inR; rw [decide_eq_true (p := n ≤ 359999999) (by omega), decide_eq_true (by omega)]; rfl))
        clear hst hnx
        go_wp2
        go_roundw
        case rel => exact ⟨k + 1, by omega, by go_num, by first | rfl | trivial, hb⟩
        case measure => simp [intOf]; omega
    · have hke : k = 4 := by omega
      have hlt2 : decide ((k : Int) < 4) = false := decide_eq_false (by omega)
      have hfin := hide (show (decide (0 ≤ b) && decide (b ≤ 359999999)) = v by
        rw [← unhide hv']
        have := unhide hok
        rw [hke] at this
        rw [show [a, c, d, f].take 4 = [a, c, d, f] from rfl] at this
        rw [this]; rfl)
      clear hke hok
      by_cases h1 : 0 ≤ b
      · have g1 : decide (0 ≤ b) = true := decide_eq_true h1
        by_cases h2 : b ≤ 359999999
        · have g2 : decide (b ≤ 359999999) = true := decide_eq_true h2
          have hb := hide (show true = v by rw [← unhide hfin, g1, g2]; rfl)
          clear hfin
          go_wp2
          go_ret
          exact ⟨ret_bool (unhide hb), unhide B0⟩
        · have g2 : decide (b ≤ 359999999) = false := decide_eq_false h2
          have hb := hide (show false = v by rw [← unhide hfin, g1, g2]; rfl)
          clear hfin
          go_wp2
          go_ret
          exact ⟨ret_bool (unhide hb), unhide B0⟩
      · have g1 : decide (0 ≤ b) = false := decide_eq_false h1
        have hb := hide (show false = v by rw [← unhide hfin, g1]; rfl)
        clear hfin
        go_wp2
        go_ret
        exact ⟨ret_bool (unhide hb), unhide B0⟩

/-- the gap ahead of title k -/
def gapOf (l : List Kl) (k : Nat) (x : Int) : Int := if k = 0 then 359999999 else x - pTo l k
set_option maxHeartbeats 1600000 in
theorem gap_any (a : Option Addr) (cap : Nat) (l : List Kl) (k : Nat) (x : Kl) (g : Int) (w : World) (hl : l.length ≤ 1048576) (hr : Kls w a l) (hx : l[k]? = some x) (hbd : ∀ x ∈ l, 0 ≤ x.1 ∧ x.1 < x.2.1 ∧ x.2.1 ≤ 359999999) (hg : gapOf l k x.1 = g) :
    Calls Tryd.prog 40 #[.slice a l.length cap, .int .i64 k] w fun e w' => e = .returned (.int .i64 g) ∧ Below w.heap.size w w' := by
  have hkl : k < l.length := (List.getElem?_eq_some_iff.1 hx).1
  by_cases hk : k = 0
  · have hg2 : 359999999 = g := by rw [← hg]; unfold gapOf; rw [if_pos hk]
    have gk : ((k : Int) == 0) = true := by rw [hk]; rfl
    subst hk
    clear hg hr hx hbd
    go_enter Tryd.func40, Tryd.ntmps40
    go_wp2
    go_ret
    exact ⟨ret_int hg2, Below.refl _ _⟩
  obtain ⟨p, hp⟩ : ∃ p, l[k - 1]? = some p := ⟨l[k - 1]'(by omega), List.getElem?_eq_getElem (by omega)⟩
  have hg2 : x.1 - p.2.1 = g := by rw [← hg]; unfold gapOf pTo; rw [if_neg hk, hp]
  obtain ⟨b, o, rfl, i1, c0, c1, c2⟩ := hr k x hx
  obtain ⟨b', o', hbo, i2, d0, d1, d2⟩ := hr (k - 1) p hp
  injection hbo with hbo
  injection hbo with hb1 ho1 _
  subst hb1 ho1
  have h1 := hbd x (List.mem_of_getElem? hx)
  have h2 := hbd p (List.mem_of_getElem? hp)
  have gk : ((k : Int) == 0) = false := by rw [beq_eq_false_iff_ne]; omega
  obtain ⟨x, y, s⟩ := x
  obtain ⟨u, z, q⟩ := p
  simp only at *
  have tw : IntKind.i64.wrap (x - z) = x - z := by rw [IntKind.wrap_i64]; omega
  have hk1 : ((k : Int) - 1) = ((k - 1 : Nat) : Int) := by omega
  have hg3 := hide hg2
  clear hx hp hbd hr hg c1 c2 d0 d2 hg2
  go_enter Tryd.func40, Tryd.ntmps40
  go_wp2_with fail
  go_quiet (fail)
  go_wp2
  go_ret
  exact ⟨ret_int (unhide hg3), below_drewN (Below.refl _ _) _⟩

set_option maxRecDepth 100000 in
set_option maxHeartbeats 3200000 in
theorem wrongs_any (s : Sy) (x y g : Int) (t : ByteArray) (k : Nat) (b1 b2 b3 b4 b5 : Bool) (w : World) (ht : t.size ≤ 1048576) (hM : MaxL w) (hs : syOk s = true) (h0 : 0 ≤ x) (h1 : x < y) (h2 : y ≤ 359999999)
    (e1 : decide (y - x < s.1) = b1) (e2 : decide (g < s.2.1) = b2) (e3 : decide (s.2.2.1 * (y - x) < (sms (linesL t.data.toList) : Int) * 1000) = b3) (e4 : decide (s.2.2.2.1 < ((linesL t.data.toList).length : Int)) = b4) (e5 : decide (s.2.2.2.2 < (mxs (linesL t.data.toList) : Int)) = b5) :
    Calls Tryd.prog 39 #[ag5 s, ag3 x y t, .int .i64 g] w fun e w' => e = .returned (.agg #[.bool false, .bool b1, .bool b2, .bool b3, .bool b4, .bool b5]) ∧ Below w.heap.size w w' := by
  obtain ⟨a, b, c, d, f⟩ := s
  simp only at e1 e2 e3 e4 e5
  obtain ⟨r, hr⟩ : ∃ r, (linesL t.data.toList).length = r := ⟨_, rfl⟩
  obtain ⟨m, hm⟩ : ∃ m, sms (linesL t.data.toList) = m := ⟨_, rfl⟩
  obtain ⟨q, hq⟩ : ∃ q, mxs (linesL t.data.toList) = q := ⟨_, rfl⟩
  have hml : m ≤ 1048576 := by rw [← hm]; have := sms_le t.data.toList; rw [← Lib.size_eq] at this; omega
  rw [hm] at e3
  rw [hr] at e4
  rw [hq] at e5
  have cb : 1 ≤ c ∧ c ≤ 359999999 := by
    unfold syOk at hs
    simp only [Bool.and_eq_true, decide_eq_true_eq] at hs
    exact hs.2.2.1
  have hP0 : 0 ≤ c * (y - x) := Int.mul_nonneg (by omega) (by omega)
  have hP1 : c * (y - x) ≤ 359999999 * 359999999 := Int.mul_le_mul (by omega) (by omega) (by omega) (by omega)
  have tD : IntKind.i64.wrap (y - x) = y - x := by rw [IntKind.wrap_i64]; omega
  have tP : IntKind.i64.wrap (c * (y - x)) = c * (y - x) := by rw [IntKind.wrap_i64]; omega
  have tM : IntKind.i64.wrap ((m : Int) * 1000) = m * 1000 := by rw [IntKind.wrap_i64]; omega
  have A1 : Below w.heap.size w (((w.alloc (.cells #[.int .i64 a, .int .i64 b, .int .i64 c, .int .i64 d, .int .i64 f] 36)).alloc (.cells #[.int .i64 x, .int .i64 y, .string t] 32)).alloc (.cells #[.bool false, .bool false, .bool false, .bool false, .bool false, .bool false] 71)) := (((Below.refl _ _).alloc (Nat.le_refl _) _).alloc (by simp) _).alloc (by simp; omega) _
  have W1 : (((w.alloc (.cells #[.int .i64 a, .int .i64 b, .int .i64 c, .int .i64 d, .int .i64 f] 36)).alloc (.cells #[.int .i64 x, .int .i64 y, .string t] 32)).alloc (.cells #[.bool false, .bool false, .bool false, .bool false, .bool false, .bool false] 71)).heap[w.heap.size]? = some (.cells #[.int .i64 a, .int .i64 b, .int .i64 c, .int .i64 d, .int .i64 f] 36 (0, 0)) :=
    blk_below (blk_below (alloc_new w _) ((Below.refl _ _).alloc (Nat.le_refl _) _)) ((Below.refl _ _).alloc (Nat.le_refl _) _)
  have W2 : (((w.alloc (.cells #[.int .i64 a, .int .i64 b, .int .i64 c, .int .i64 d, .int .i64 f] 36)).alloc (.cells #[.int .i64 x, .int .i64 y, .string t] 32)).alloc (.cells #[.bool false, .bool false, .bool false, .bool false, .bool false, .bool false] 71)).heap[w.heap.size + 1]? = some (.cells #[.int .i64 x, .int .i64 y, .string t] 32 (0, 0)) := by
    have := alloc_new (w.alloc (.cells #[.int .i64 a, .int .i64 b, .int .i64 c, .int .i64 d, .int .i64 f] 36)) (.cells #[.int .i64 x, .int .i64 y, .string t] 32)
    rw [sz_alloc] at this
    exact blk_below this ((Below.refl _ _).alloc (Nat.le_refl _) _)
  have W3 : (((w.alloc (.cells #[.int .i64 a, .int .i64 b, .int .i64 c, .int .i64 d, .int .i64 f] 36)).alloc (.cells #[.int .i64 x, .int .i64 y, .string t] 32)).alloc (.cells #[.bool false, .bool false, .bool false, .bool false, .bool false, .bool false] 71)).heap[w.heap.size + 1 + 1]? = some (.cells #[.bool false, .bool false, .bool false, .bool false, .bool false, .bool false] 71 (0, 0)) := by
    have := alloc_new ((w.alloc (.cells #[.int .i64 a, .int .i64 b, .int .i64 c, .int .i64 d, .int .i64 f] 36)).alloc (.cells #[.int .i64 x, .int .i64 y, .string t] 32)) (.cells #[.bool false, .bool false, .bool false, .bool false, .bool false, .bool false] 71)
    rw [sz_alloc, sz_alloc] at this
    exact this
  have cM := hide (fun w' (h : Below w.heap.size w w') => meas_any t r m q w' ht (hM.below h) hr hm hq)
  have hA1 := hide A1
  have hW1 := hide W1
  have hW2 := hide W2
  have hW3 := hide W3
  clear hr hm hq hs hM A1 W1 W2 W3
  go_enter Tryd.func39, Tryd.ntmps39
  go_wp2_with fail
  generalize ((w.alloc (.cells #[.int .i64 a, .int .i64 b, .int .i64 c, .int .i64 d, .int .i64 f] 36)).alloc (.cells #[.int .i64 x, .int .i64 y, .string t] 32)).alloc (.cells #[.bool false, .bool false, .bool false, .bool false, .bool false, .bool false] 71) = X at *
  refine (unhide cM _ (unhide hA1)).mono ?_
  rintro e w1 ⟨rfl, k1⟩
  have hB := hide (laterB (unhide hA1) k1)
  have V1 := blk_below (unhide hW1) k1
  have V3 := blk_below (unhide hW3) k1
  obtain ⟨c0, c1, c2, c3, c4⟩ := blk5 V1
  obtain ⟨d0, d1, d2, d3, d4, d5⟩ := blkc V3
  obtain ⟨f0, f1, f2, f3, f4, f5⟩ := blkf V3
  have P9 := hide (putc (v0 := .bool false) (v1 := .bool b1) (v2 := .bool b2) (v3 := .bool b3) (v4 := .bool b4) (v5 := .bool b5) V3)
  have B9 := hide (setc (v0 := .bool false) (v1 := .bool b1) (v2 := .bool b2) (v3 := .bool b3) (v4 := .bool b4) (v5 := .bool b5) (unhide hB) (show w.heap.size ≤ w.heap.size + 1 + 1 by omega))
  clear k1 hA1 hW1 hW2 hW3 V1 V3 hB cM
  go_wp2_with fail
  generalize (((((w1.setCell ⟨w.heap.size + 1 + 1, 0, none⟩ (.bool false)).setCell ⟨w.heap.size + 1 + 1, 1, none⟩ (.bool b1)).setCell ⟨w.heap.size + 1 + 1, 2, none⟩ (.bool b2)).setCell ⟨w.heap.size + 1 + 1, 3, none⟩ (.bool b3)).setCell ⟨w.heap.size + 1 + 1, 4, none⟩ (.bool b4)).setCell ⟨w.heap.size + 1 + 1, 5, none⟩ (.bool b5) = W9 at *
  clear d0 d1 d2 d3 d4 d5 f0 f1 f2 f3 f4 f5 c0 c1 c2 c3 c4
  obtain ⟨d0, d1, d2, d3, d4, d5⟩ := blkc (unhide P9)
  exact bodyPost_ret (v := .agg #[.bool false, .bool b1, .bool b2, .bool b3, .bool b4, .bool b5]) (by simp [results, Tryd.results39, go_sem, d0, d1, d2, d3, d4, d5]) rfl ⟨rfl, unhide B9⟩

end Go.Proofs.YtcpllfjhhlbmiaaDoor
