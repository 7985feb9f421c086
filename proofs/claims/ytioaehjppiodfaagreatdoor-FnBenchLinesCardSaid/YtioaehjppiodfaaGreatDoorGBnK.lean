/-
  Contracts of the law's own functions: big, pick, digits, lines; and of the model's text of a number.
-/
import Derived.Test.YtioaehjppiodfaaGreatDoorGDec
namespace Go.Proofs.YtioaehjppiodfaaGreatDoor
open Go.RowKit
set_option linter.unusedVariables false
set_option linter.unusedSimpArgs false

theorem dec_dig : ∀ (f n : Nat), n < f → Lib.decDigits n = Pl.decF f n := by
  intro f
  induction f with
  | zero => intro n h; omega
  | succ f ih =>
    intro n h
    rw [Lib.decDigits, Pl.decF]
    by_cases h1 : n < 10
    · rw [if_pos h1]
      simp [h1, Pl.dg, Nat.mod_eq_of_lt h1]
    · rw [if_neg h1, ← ih (n / 10) (by omega)]
      simp [h1, Pl.dg]
theorem itoa_dec {x : Int} (h : 0 ≤ x) : Lib.itoa x = Pl.dec x.toNat := by
  unfold Lib.itoa Pl.dec
  rw [if_neg (by omega), dec_dig _ _ (Nat.lt_succ_self _)]
def sEmpty : Value → Nat
  | .string s => 1 - s.size
  | _ => 0
theorem conv1 (x : Nat) (w : World) : (convert 22 9 (.slice (some ⟨w.heap.size, 0, none⟩) 1 1)).run Tryz.prog (w.alloc (.cells #[.int .u8 (48 + (x : Int) % 10)] 5)) = .ok (.string ⟨#[Pl.dg x]⟩) (w.alloc (.cells #[.int .u8 (48 + (x : Int) % 10)] 5)) := by
  refine run_convert_bytes_back (P := Tryz.prog) _ 22 9 5 ⟨w.heap.size, 0, none⟩ 1 [Pl.dg x] Tryz.underlying22 Tryz.underlying5 Tryz.underlying9 (fun j hj => ?_)
  match j, hj with
  | 0, _ => simp [Addr.add, Pl.dg_toNat]
theorem ret_str {a b : List UInt8} (h : a = b) : Ending.returned (.string ⟨a.toArray⟩) = .returned (.string ⟨b.toArray⟩) := by rw [h]
theorem str_cons (c : UInt8) (l : List UInt8) : (⟨#[c]⟩ : ByteArray) ++ ⟨l.toArray⟩ = ⟨(c :: l).toArray⟩ := ByteArray.mk_append_mk [c] l

set_option maxHeartbeats 400000 in
theorem dig8N_any (n : Nat) (w : World) (hn : n ≤ 9223372036854775807) :
    Calls Tryz.prog 8 #[.int .i64 n] w fun e w' => e = .returned (.string ⟨(Pl.dec n).toArray⟩) ∧ Below w.heap.size w w' := by
  have h0 : ¬ (n : Int) < 0 := by omega
  go_enter Tryz.func8, Tryz.ntmps8
  go_wp2
  go_loopw [0, 3] (fun t s wr => ∃ (x : Nat) (acc : List UInt8), t = .int .i64 x ∧ s = .string ⟨acc.toArray⟩ ∧ x ≤ n ∧ acc.length ≤ 9223372036854775807 - x ∧ ((acc = [] ∧ x = n) ∨ (acc ≠ [] ∧ Hid (Pl.decOn x acc = Pl.dec n))) ∧ Below w.heap.size w wr) (fun t s _ => (intOf t).toNat + sEmpty s)
  case atStart => exact ⟨n, [], rfl, rfl, Nat.le_refl _, by simp, .inl ⟨rfl, rfl⟩, Below.refl _ _⟩
  case round =>
    obtain ⟨x, acc, rfl, rfl, hx, hl, h, hb⟩ := hrel
    have kc := conv1 x
    rcases h with ⟨rfl, rfl⟩ | ⟨hne, hd⟩
    · go_wp2
      go_roundw
      case rel => exact ⟨x / 10, [Pl.dg x], by go_num, rfl, by omega, by simp; omega, .inr ⟨by simp, hide (Pl.decOn_first x)⟩, hb.alloc hb.size _⟩
      case measure => simp [intOf, sEmpty, ByteArray.size]; omega
    · have he : acc.isEmpty = false := by simpa using hne
      by_cases hz : 0 < x
      · go_wp2
        go_roundw
        case rel => exact ⟨x / 10, Pl.dg x :: acc, by go_num, by rw [str_cons], by omega, by simp; omega, .inr ⟨by simp, hide (by rw [Pl.decOn_step acc (by omega)]; exact unhide hd)⟩, hb.alloc hb.size _⟩
        case measure => simp [intOf, sEmpty, ByteArray.size]; omega
      · have hz' : x = 0 := by omega
        have hfin : Hid (acc = Pl.dec n) := hide (by have := unhide hd; rw [hz'] at this; simpa [Pl.decOn] using this)
        subst hz'
        go_wp2
        go_ret
        exact ⟨ret_str (unhide hfin), hb⟩
set_option maxHeartbeats 400000 in
theorem dig8_any (n : Int) (w : World) (h0 : -1000000000 ≤ n) (h1 : n ≤ 1000000000) :
    Calls Tryz.prog 8 #[.int .i64 n] w fun e w' => e = .returned (.string (nt n)) ∧ Below w.heap.size w w' := by
  by_cases hneg : n < 0
  · obtain ⟨m, hm⟩ := Int.eq_ofNat_of_zero_le (show 0 ≤ -n by omega)
    have hC := hide (dig8N_any m w (by omega))
    have hnt : Hid (nt n = ⟨(45 :: Pl.dec m).toArray⟩) := hide (by
      unfold nt Lib.itoa
      rw [if_pos hneg, show n.natAbs = m by omega, dec_dig _ _ (Nat.lt_succ_self _)]
      rfl)
    have g1 : decide (n < 0) = true := by simpa using hneg
    have g2 : IntKind.i64.wrap (-n) = (m : Int) := by rw [IntKind.wrap_i64]; omega
    have hl : (Pl.dec m).length ≤ 19 := Pl.dec_length_lt 18 m (by omega)
    have P1 : ∀ w, (Op.stringOp .add ⟨#[45]⟩ ⟨(Pl.dec m).toArray⟩).run Tryz.prog w = .ok (.string ⟨(45 :: Pl.dec m).toArray⟩) w := fun w => str_add (a := [45]) (b := Pl.dec m) rfl rfl rfl (by simp; omega) rfl w
    generalize Pl.dec m = D at *
    go_enter Tryz.func8, Tryz.ntmps8
    go_wp2_with fail
    refine (unhide hC).mono ?_
    rintro e w1 ⟨rfl, hb⟩
    clear hC hm
    go_wp2
    go_ret
    rw [unhide hnt]
    exact ⟨rfl, hb⟩
  · obtain ⟨m, rfl⟩ := Int.eq_ofNat_of_zero_le (show 0 ≤ n by omega)
    have := dig8N_any m w (by omega)
    rw [show nt (m : Int) = ⟨(Pl.dec m).toArray⟩ by unfold nt; rw [itoa_dec (by omega)]; rfl]
    exact this

set_option maxHeartbeats 400000 in
theorem int23N_any (n : Nat) (w : World) (hn : n ≤ 9223372036854775807) :
    Calls Tryz.prog 23 #[.int .i64 n] w fun e w' => e = .returned (.string ⟨(Pl.dec n).toArray⟩) ∧ Below w.heap.size w w' := by
  have h0 : ¬ (n : Int) < 0 := by omega
  go_enter Tryz.func23, Tryz.ntmps23
  go_wp2
  go_loopw [0, 3] (fun t s wr => ∃ (x : Nat) (acc : List UInt8), t = .int .i64 x ∧ s = .string ⟨acc.toArray⟩ ∧ x ≤ n ∧ acc.length ≤ 9223372036854775807 - x ∧ ((acc = [] ∧ x = n) ∨ (acc ≠ [] ∧ Hid (Pl.decOn x acc = Pl.dec n))) ∧ Below w.heap.size w wr) (fun t s _ => (intOf t).toNat + sEmpty s)
  case atStart => exact ⟨n, [], rfl, rfl, Nat.le_refl _, by simp, .inl ⟨rfl, rfl⟩, Below.refl _ _⟩
  case round =>
    obtain ⟨x, acc, rfl, rfl, hx, hl, h, hb⟩ := hrel
    have kc := conv1 x
    rcases h with ⟨rfl, rfl⟩ | ⟨hne, hd⟩
    · go_wp2
      go_roundw
      case rel => exact ⟨x / 10, [Pl.dg x], by go_num, rfl, by omega, by simp; omega, .inr ⟨by simp, hide (Pl.decOn_first x)⟩, hb.alloc hb.size _⟩
      case measure => simp [intOf, sEmpty, ByteArray.size]; omega
    · have he : acc.isEmpty = false := by simpa using hne
      by_cases hz : 0 < x
      · go_wp2
        go_roundw
        case rel => exact ⟨x / 10, Pl.dg x :: acc, by go_num, by rw [str_cons], by omega, by simp; omega, .inr ⟨by simp, hide (by rw [Pl.decOn_step acc (by omega)]; exact unhide hd)⟩, hb.alloc hb.size _⟩
        case measure => simp [intOf, sEmpty, ByteArray.size]; omega
      · have hz' : x = 0 := by omega
        have hfin : Hid (acc = Pl.dec n) := hide (by have := unhide hd; rw [hz'] at this; simpa [Pl.decOn] using this)
        subst hz'
        go_wp2
        go_ret
        exact ⟨ret_str (unhide hfin), hb⟩
set_option maxHeartbeats 400000 in
theorem int23_any (n : Int) (w : World) (h0 : -1000000000 ≤ n) (h1 : n ≤ 1000000000) :
    Calls Tryz.prog 23 #[.int .i64 n] w fun e w' => e = .returned (.string (nt n)) ∧ Below w.heap.size w w' := by
  by_cases hneg : n < 0
  · obtain ⟨m, hm⟩ := Int.eq_ofNat_of_zero_le (show 0 ≤ -n by omega)
    have hC := hide (int23N_any m w (by omega))
    have hnt : Hid (nt n = ⟨(45 :: Pl.dec m).toArray⟩) := hide (by
      unfold nt Lib.itoa
      rw [if_pos hneg, show n.natAbs = m by omega, dec_dig _ _ (Nat.lt_succ_self _)]
      rfl)
    have g1 : decide (n < 0) = true := by simpa using hneg
    have g2 : IntKind.i64.wrap (-n) = (m : Int) := by rw [IntKind.wrap_i64]; omega
    have hl : (Pl.dec m).length ≤ 19 := Pl.dec_length_lt 18 m (by omega)
    have P1 : ∀ w, (Op.stringOp .add ⟨#[45]⟩ ⟨(Pl.dec m).toArray⟩).run Tryz.prog w = .ok (.string ⟨(45 :: Pl.dec m).toArray⟩) w := fun w => str_add (a := [45]) (b := Pl.dec m) rfl rfl rfl (by simp; omega) rfl w
    generalize Pl.dec m = D at *
    go_enter Tryz.func23, Tryz.ntmps23
    go_wp2_with fail
    refine (unhide hC).mono ?_
    rintro e w1 ⟨rfl, hb⟩
    clear hC hm
    go_wp2
    go_ret
    rw [unhide hnt]
    exact ⟨rfl, hb⟩
  · obtain ⟨m, rfl⟩ := Int.eq_ofNat_of_zero_le (show 0 ≤ n by omega)
    have := int23N_any m w (by omega)
    rw [show nt (m : Int) = ⟨(Pl.dec m).toArray⟩ by unfold nt; rw [itoa_dec (by omega)]; rfl]
    exact this

theorem big_any (a : Option Addr) (n cap : Nat) (w : World) (hn : n ≤ maxLen) : Calls Tryz.prog 6 #[.slice a n cap] w fun e w' => e = .returned (.bool (decide (4096 < n))) ∧ w' = w := by
  by_cases h : 4096 < n
  · have h1 : decide ((4096 : Int) < n) = true := by simp; omega
    have h2 : decide (4096 < n) = true := by simpa using h
    go_enter Tryz.func6, Tryz.ntmps6
    go_wp2
    go_ret
    exact ⟨by rw [h2]; rfl, rfl⟩
  · have h1 : decide ((4096 : Int) < n) = false := by simp; omega
    have h2 : decide (4096 < n) = false := by simpa using h
    go_enter Tryz.func6, Tryz.ntmps6
    go_wp2
    go_ret
    exact ⟨by rw [h2]; rfl, rfl⟩

set_option maxHeartbeats 1600000 in
theorem pick_any (a : Option Addr) (cap : Nat) (l : List Int) (n : Int) (w : World) (hl : l.length ≤ 5000) (h1 : 1 ≤ n) (h2 : n ≤ 1000) (hy : Byt l) (hk : Bys w a l) :
    Calls Tryz.prog 7 #[.slice a l.length cap, .int .i64 n] w fun e w' => ∃ x, e = .returned (.int .i64 x) ∧ 0 ≤ x ∧ x < n ∧ w' = w := by
  have hk' := hide hk
  have hy' := hide hy
  clear hk hy
  have n0 : (n == 0) = false := by rw [beq_eq_false_iff_ne]; omega
  have n1 : decide (n = 0) = false := by simp; omega
  have n2 : decide (n = -1) = false := by simp; omega
  go_enter Tryz.func7, Tryz.ntmps7
  go_wp2
  go_loop [5, 6] (fun v t => ∃ (j : Nat) (x : Int), j ≤ l.length ∧ t = .int .i64 j ∧ v = .int .i64 x ∧ 0 ≤ x ∧ x ≤ 1000003) (fun _ t => l.length - (intOf t).toNat)
  case atStart => exact ⟨0, l.length, by omega, rfl, rfl, by omega, by omega⟩
  case round =>
    obtain ⟨j, x, hj, rfl, rfl, hx0, hx1⟩ := hrel
    by_cases hlt : j < l.length
    · obtain ⟨b, o, y, rfl, hy, i1, c0⟩ := bys_at (unhide hk') (Below.refl _ _) hlt
      have hz := byt_at (unhide hy') hy
      have g1 : decide ((j : Int) < l.length) = true := by simp; omega
      have w1 : IntKind.i64.wrap (x * 43) = x * 43 := by rw [IntKind.wrap_i64]; omega
      have w2 : IntKind.i64.wrap (x * 43 + y) = x * 43 + y := by rw [IntKind.wrap_i64]; omega
      have w3 : IntKind.i64.wrap y = y := by rw [IntKind.wrap_i64]; omega
      have t1 : (x * 43 + y).tmod 1000003 = (x * 43 + y) % 1000003 := Int.tmod_eq_emod_of_nonneg (by omega)
      have t2 : IntKind.i64.wrap ((x * 43 + y).tmod 1000003) = (x * 43 + y) % 1000003 := by rw [t1, IntKind.wrap_i64]; omega
      have hq : 0 ≤ (x * 43 + y) % 1000003 ∧ (x * 43 + y) % 1000003 ≤ 1000003 := by omega
      have hq' := hide hq
      clear hq hy i1
      go_wp2
      go_round
      case rel => exact ⟨j + 1, _, by omega, by go_num, rfl, (unhide hq').1, (unhide hq').2⟩
      case measure => simp [intOf]; omega
    · have g1 : decide ((j : Int) < l.length) = false := by simp; omega
      have t1 : x.tmod n = x % n := Int.tmod_eq_emod_of_nonneg hx0
      have hq := Int.emod_nonneg x (show n ≠ 0 by omega)
      have hq2 := Int.emod_lt_of_pos x (show 0 < n by omega)
      have t2 : IntKind.i64.wrap (x.tmod n) = x % n := by rw [t1, IntKind.wrap_i64]; omega
      have hq' := hide hq
      have hq2' := hide hq2
      clear hq hq2
      go_wp2
      go_ret
      exact ⟨_, rfl, unhide hq', unhide hq2', rfl⟩

/-- the lines of a text that end: what the law splits an answer into -/
def stC (o : List (List UInt8) × List UInt8) (b : UInt8) : List (List UInt8) × List UInt8 := if b = 10 then (o.1 ++ [o.2], []) else (o.1, o.2 ++ [b])
def fdC (t : List UInt8) : List (List UInt8) × List UInt8 := t.foldl stC ([], [])
def linesC (t : List UInt8) : List (List UInt8) := (fdC t).1
theorem fdC_take {t : List UInt8} {k : Nat} {b : UInt8} (h : t[k]? = some b) : fdC (t.take (k + 1)) = stC (fdC (t.take k)) b := by
  rw [List.take_add_one, h]
  simp [fdC]
theorem fdC_cur (t : List UInt8) : ∀ k, k ≤ t.length → (fdC (t.take k)).2.length ≤ k ∧ (t.take k).drop (k - (fdC (t.take k)).2.length) = (fdC (t.take k)).2 ∧ (fdC (t.take k)).1.length ≤ k := by
  intro k
  induction k with
  | zero => intro _; simp [fdC]
  | succ k ih =>
    intro hk
    have hb := List.getElem?_eq_getElem (show k < t.length by omega)
    obtain ⟨h1, h2, h3⟩ := ih (by omega)
    rw [fdC_take hb]
    rw [List.take_add_one, hb]
    unfold stC
    split
    · refine ⟨by simp, ?_, by simp; omega⟩
      simp
    · refine ⟨by simp; omega, ?_, by dsimp only; omega⟩
      dsimp only
      have hl : (t.take k).length = k := by rw [List.length_take]; omega
      rw [List.length_append, show k + 1 - ((fdC (t.take k)).2.length + [t[k]].length) = k - (fdC (t.take k)).2.length by simp, List.drop_append_of_le_length (by omega), h2]
      simp

theorem fold_stC (l : List UInt8) : ∀ o, o.1.length ≤ (l.foldl stC o).1.length := by
  induction l with
  | nil => intro o; exact Nat.le_refl _
  | cons b l ih =>
    intro o
    refine Nat.le_trans ?_ (ih (stC o b))
    unfold stC
    split
    · simp
    · exact Nat.le_refl _
theorem fdC_mono (t : List UInt8) (k : Nat) : (fdC (t.take k)).1.length ≤ (linesC t).length := by
  have h := fold_stC (t.drop k) (fdC (t.take k))
  have e : (t.drop k).foldl stC (fdC (t.take k)) = fdC t := by
    unfold fdC
    rw [← List.foldl_append, List.take_append_drop]
  rw [e] at h
  exact h

set_option maxRecDepth 100000 in
set_option maxHeartbeats 1600000 in
theorem lines9_any (t : ByteArray) (w : World) (hz : t.size ≤ 100000000) (hct : (linesC t.data.toList).length ≤ 1000000) :
    Calls Tryz.prog 9 #[.string t] w fun e w' => ∃ g c, e = .returned (.slice (some ⟨g, 0, none⟩) (linesC t.data.toList).length c) ∧ w.heap.size ≤ g ∧ w'.ownsRow w.heap.size 9 1 (.slice (some ⟨g, 0, none⟩) (linesC t.data.toList).length c) (linesC t.data.toList).length ((linesC t.data.toList).map fun x => Value.string (bsL x)) ∧ Below w.heap.size w w' := by
  obtain ⟨l, hl⟩ : ∃ l, t.data.toList = l := ⟨_, rfl⟩
  have hsz : t.size = l.length := by rw [Lib.size_eq, hl]
  have hl' := hide hl
  rw [hl]
  rw [hl] at hct
  have own0 := hide (World.ownsRow_lit (base := w.heap.size) (e := 9) (size := 1) w #[] 0 (Nat.le_refl _) (by unfold maxLen; omega) rfl)
  have b0 := hide (show Below w.heap.size w (w.alloc (.cells #[] 9)) from (Below.refl _ _).alloc (Nat.le_refl _) _)
  clear hl
  go_enter Tryz.func9, Tryz.ntmps9
  go_wp2
  go_loopw [3, 4, 5] (fun s f i wr => ∃ (k n g c : Nat), k ≤ l.length ∧ i = .int .i64 k ∧ n = (fdC (l.take k)).1.length ∧ f = .int .i64 ((k - (fdC (l.take k)).2.length : Nat) : Int) ∧ s = .slice (some ⟨g, 0, none⟩) n c ∧ w.heap.size ≤ g ∧ Hid (wr.ownsRow w.heap.size 9 1 (.slice (some ⟨g, 0, none⟩) n c) n ((fdC (l.take k)).1.map fun x => Value.string (bsL x))) ∧ Hid (Below w.heap.size w wr)) (fun _ _ i _ => l.length - (intOf i).toNat)
  case atStart => exact ⟨0, 0, w.heap.size, 0, by omega, rfl, rfl, rfl, rfl, Nat.le_refl _, own0, b0⟩
  case round =>
    clear own0 b0
    obtain ⟨k, n, g, c, hk, rfl, hn, rfl, rfl, hg, ho, hw⟩ := hrel
    obtain ⟨q1, q2, _⟩ := fdC_cur l k hk
    have q3 := fdC_mono l k
    rw [← hn] at q3
    have q4 : n ≤ 1000000 := Nat.le_trans q3 hct
    clear q3
    have hn' := hide hn
    clear hn
    by_cases hlt : k < l.length
    · have hb := List.getElem?_eq_getElem hlt
      have hst := fdC_take hb
      have hbt : t[k]! = l[k] := by
        have : l[k] = t.data.toList[k]'(by rw [unhide hl']; exact hlt) := by congr 1; exact (unhide hl').symm
        rw [this]
        have hk2 : k < t.size := by omega
        rw [getElem!_pos t k hk2]
        rfl
      generalize l[k] = x at *
      have g1 : decide ((k : Int) < t.size) = true := by rw [hsz]; simp; omega
      have hk2 : k < t.size := by omega
      have hbt2 : t[k] = x := by rw [← hbt, getElem!_pos t k hk2]
      have hlen : (fdC (l.take (k + 1))).2.length = if x = 10 then 0 else (fdC (l.take k)).2.length + 1 := by rw [hst]; unfold stC; split <;> simp
      have hext : t.extract (k - (fdC (l.take k)).2.length) k = bsL (fdC (l.take k)).2 := by
        rw [Ln.ext_str (unhide hl') (by omega), q2]; rfl
      have hnew : Hid (∀ (g' c' : Nat) (w' : World), w'.ownsRow w.heap.size 9 1 (.slice (some ⟨g', 0, none⟩) (n + 1) c') (n + 1) ((fdC (l.take k)).1.map (fun x => Value.string (bsL x)) ++ [.string (bsL (fdC (l.take k)).2)]) → x = 10 → w'.ownsRow w.heap.size 9 1 (.slice (some ⟨g', 0, none⟩) (n + 1) c') (n + 1) ((fdC (l.take (k + 1))).1.map fun x => Value.string (bsL x)) ∧ n + 1 = (fdC (l.take (k + 1))).1.length) := hide (fun g' c' w' h1 h2 => by
        rw [hst]; unfold stC; rw [if_pos h2]; dsimp only; rw [List.map_append]
        exact ⟨h1, by rw [unhide hn']; simp⟩)
      have hsame : Hid (x ≠ 10 → (fdC (l.take (k + 1))).1 = (fdC (l.take k)).1) := hide (fun h2 => by rw [hst]; unfold stC; rw [if_neg h2])
      have hlen' := hide hlen
      clear hst hb hlen q2
      generalize hP : fdC (l.take k) = P at *
      obtain ⟨PL, cur⟩ := P
      dsimp only at *
      clear hP
      obtain ⟨F, hF⟩ : ∃ F, k - cur.length = F := ⟨_, rfl⟩
      rw [hF] at hext ⊢
      have hFk : F ≤ k := by omega
      have hF' := hide hF
      clear hF
      have hsz2 := (unhide hw).size
      by_cases h10 : x = 10
      · have hcmp : (t[k].toNat : Int) = 10 := by rw [hbt2, h10]; rfl
        go_wp2_with (at_builtin; refine wpList_one Tryz.underlying26 infoS rfl (by decide) _ rfl _ _ rfl w.heap.size n (.slice (some ⟨g, 0, none⟩) n c) (PL.map fun x => Value.string (bsL x)) (.string (bsL cur)) rfl rfl (unhide ho) rfl (by omega) hsz2 ?_)
        intro g' cap' w3 own3 gr3 hg3 hg3' hb3
        obtain ⟨o3, n3⟩ := unhide hnew g' cap' w3 own3 h10
        have o3' := hide o3
        have n3' := hide n3
        have hw3 := hide ((unhide hw).trans hb3)
        clear own3 gr3 hg3 hb3 o3 n3 ho hw hnew
        go_wp2
        go_roundw
        case rel => exact ⟨k + 1, n + 1, g', cap', by omega, by go_num, unhide n3', by rw [unhide hlen', if_pos h10]; go_num, rfl, hg3', o3', hw3⟩
        case measure => simp [intOf]; omega
      · have hcmp : ¬ (t[k].toNat : Int) = 10 := by
          rw [hbt2]
          intro h9
          apply h10
          apply UInt8.toNat.inj
          have : x.toNat = 10 := by omega
          rw [this]; rfl
        have hx10 : ¬ (x.toNat : Int) = 10 := by rw [← hbt2]; exact hcmp
        have hc1 : ((x.toNat : Int) == 10) = false := by rw [beq_eq_false_iff_ne]; exact hx10
        have hc2 : ((t[k].toNat : Int) == 10) = false := by rw [beq_eq_false_iff_ne]; exact hcmp
        have hs2 := unhide hsame h10
        clear hcmp hx10
        have ho2 := hide (show wr.ownsRow w.heap.size 9 1 (.slice (some ⟨g, 0, none⟩) n c) n ((fdC (l.take (k + 1))).1.map fun x => Value.string (bsL x)) from by rw [hs2]; exact unhide ho)
        have hs3 := hide hs2
        clear ho hs2 hnew
        go_wp2
        go_roundw
        case rel => exact ⟨k + 1, n, g, c, by omega, by go_num, by rw [unhide hs3]; exact unhide hn', by rw [unhide hlen', if_neg h10, ← unhide hF']; congr 2; omega, rfl, hg, ho2, hw⟩
        case measure => simp [intOf]; omega
    · have g1 : decide ((k : Int) < t.size) = false := by rw [hsz]; simp; omega
      obtain rfl : k = l.length := by omega
      have ho2 : Hid (wr.ownsRow w.heap.size 9 1 (.slice (some ⟨g, 0, none⟩) (linesC l).length c) (linesC l).length ((linesC l).map fun x => Value.string (bsL x))) := by
        have := unhide ho
        have h3 := unhide hn'
        rw [List.take_length] at this h3
        unfold linesC
        rw [h3] at this
        exact hide this
      have hn2 : n = (linesC l).length := by have := unhide hn'; rw [List.take_length] at this; exact this
      subst hn2
      clear ho hn' q1 q2 q4
      go_wp2
      go_ret
      exact ⟨g, c, rfl, hg, unhide ho2, unhide hw⟩
end Go.Proofs.YtioaehjppiodfaaGreatDoor
