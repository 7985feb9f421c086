/-
  The model's number in a word, and the number of a line: their contracts.
-/
import Derived.Test.YtfhbmfndjbdhcaaGreatDoorSWd
import Derived.Test.YtfhbmfndjbdhcaaGreatDoorLrQ
import Derived.Test.YtfhbmfndjbdhcaaGreatDoorSText
namespace Go.Proofs.YtfhbmfndjbdhcaaGreatDoor
open Go.RowKit
set_option linter.unusedVariables false
set_option linter.unusedSimpArgs false

set_option maxHeartbeats 400000 in
theorem sdig_any (i : Nat) (w : World) (hi : i < 999) :
    Calls Tryz.prog 29 #[.int .i64 ((i : Int) + 1)] w fun e w' => e = .returned (.string ⟨(numW i).toArray⟩) ∧ Below w.heap.size w w' := by
  have h1 : decide ((i : Int) + 1 < 1000) = true := by simp; omega
  have c3 := hide (fun w => swide3 ((i : Int) + 1) w (by omega) (by omega))
  have e1 : ((i : Int) + 1).toNat = i + 1 := by omega
  rw [e1] at c3
  go_enter Tryz.func29, Tryz.ntmps29
  go_wp2_with fail
  refine (unhide c3 _).mono ?_
  rintro e w1 ⟨rfl, hb⟩
  go_wp2
  go_ret
  exact ⟨rfl, hb⟩

/-- the value of digits -/
def dvl (l : List UInt8) : Int := l.foldl (fun a b => a * 10 + ((b.toNat : Int) - 48)) 0
def isD (b : UInt8) : Prop := 48 ≤ b.toNat ∧ b.toNat ≤ 57
theorem dvl_snoc (l : List UInt8) (b : UInt8) : dvl (l ++ [b]) = dvl l * 10 + ((b.toNat : Int) - 48) := by unfold dvl; rw [List.foldl_append]; rfl
theorem dvl_bd : ∀ (k : Nat) (l : List UInt8), l.length = k → (∀ b ∈ l, isD b) → 0 ≤ dvl l ∧ dvl l < 10 ^ k := by
  intro k
  induction k with
  | zero => intro l hl _; obtain rfl := List.eq_nil_of_length_eq_zero hl; simp [dvl]
  | succ k ih =>
    intro l hl hd
    rcases List.eq_nil_or_concat l with rfl | ⟨q, b, rfl⟩
    · simp at hl
    · rw [List.concat_eq_append] at hl hd ⊢
      obtain ⟨h1, h2⟩ := ih q (by simpa using hl) (fun x hx => hd x (by simp [hx]))
      have h3 := hd b (by simp)
      unfold isD at h3
      rw [dvl_snoc, Int.pow_succ]
      omega
theorem dvl_pos : ∀ (k : Nat) (l : List UInt8), l.length = k → l ≠ [] → (∀ b ∈ l, isD b) → l.head? ≠ some 48 → 1 ≤ dvl l := by
  intro k
  induction k with
  | zero => intro l hl h; exact absurd (List.eq_nil_of_length_eq_zero hl) h
  | succ k ih =>
    intro l hl _ hd hh
    rcases List.eq_nil_or_concat l with rfl | ⟨q, b, rfl⟩
    · simp at hl
    · rw [List.concat_eq_append] at hl hd hh ⊢
      have h3 := hd b (by simp)
      unfold isD at h3
      rw [dvl_snoc]
      by_cases hq : q = []
      · subst hq
        have : b.toNat ≠ 48 := by
          intro e
          apply hh
          simp
          exact UInt8.toNat_inj.1 (by rw [e]; rfl)
        simp [dvl]
        omega
      · have := ih q (by simpa using hl) hq (fun x hx => hd x (by simp [hx])) (by
          obtain ⟨x, y, rfl⟩ := List.exists_cons_of_ne_nil hq
          simpa using hh)
        omega
theorem dg_isD {b : UInt8} (h : isD b) {n : Nat} (hn : n % 10 = b.toNat - 48) : Pl.dg n = b := by
  unfold isD at h
  apply UInt8.toNat_inj.1
  rw [Pl.dg_toNat]
  omega
theorem dec_dvl : ∀ (k : Nat) (l : List UInt8), l.length = k → l ≠ [] → (∀ b ∈ l, isD b) → (l.head? = some 48 → l.length = 1) → Pl.dec (dvl l).toNat = l := by
  intro k
  induction k with
  | zero => intro l hl h; exact absurd (List.eq_nil_of_length_eq_zero hl) h
  | succ k ih =>
    intro l hl _ hd hh
    rcases List.eq_nil_or_concat l with rfl | ⟨q, b, rfl⟩
    · simp at hl
    · rw [List.concat_eq_append] at hl hd hh ⊢
      have h3 := hd b (by simp)
      have h3' := h3
      unfold isD at h3'
      rw [dvl_snoc]
      by_cases hq : q = []
      · subst hq
        have e : (dvl [] * 10 + ((b.toNat : Int) - 48)).toNat = b.toNat - 48 := by simp [dvl]; omega
        rw [e, Pl.dec_small (by omega), dg_isD h3 (by omega)]
        rfl
      · have hq2 : q.head? ≠ some 48 := by
          intro e
          have : (q ++ [b]).head? = some 48 := by
            obtain ⟨x, y, rfl⟩ := List.exists_cons_of_ne_nil hq
            simpa using e
          have := hh this
          simp at this
          exact hq this
        have hdq : ∀ x ∈ q, isD x := fun x hx => hd x (by simp [hx])
        have hp := dvl_pos _ q rfl hq hdq hq2
        have h4 := ih q (by simpa using hl) hq hdq (fun h => absurd h hq2)
        rw [Pl.dec_step (by omega)]
        have e1 : (dvl q * 10 + ((b.toNat : Int) - 48)).toNat / 10 = (dvl q).toNat := by omega
        rw [e1, h4, dg_isD h3 (by omega)]
def okD (y : Nat) : Bool := (Pl.dec y).all (fun b => decide (48 ≤ b.toNat) && decide (b.toNat ≤ 57)) && ((Pl.dec y).head? != some 48) && ((Pl.dec y).head? != some 45) && decide (1 ≤ (Pl.dec y).length) && decide ((Pl.dec y).length ≤ 3) && decide (dvl (Pl.dec y) = y)
theorem okD_all : ∀ y : Nat, y < 500 → okD (y + 1) = true := by decide +kernel
structure DecF (l : List UInt8) (y : Nat) : Prop where
  dig : ∀ b ∈ l, isD b
  n48 : l.head? ≠ some 48
  n45 : l.head? ≠ some 45
  le1 : 1 ≤ l.length
  le3 : l.length ≤ 3
  val : dvl l = y
theorem dec_facts {y : Nat} (h1 : 1 ≤ y) (h5 : y ≤ 500) : DecF (Pl.dec y) y := by
  have h := okD_all (y - 1) (by omega)
  rw [show y - 1 + 1 = y by omega] at h
  unfold okD at h
  simp only [Bool.and_eq_true, decide_eq_true_eq, bne_iff_ne, List.all_eq_true] at h
  obtain ⟨⟨⟨⟨⟨a, b⟩, c⟩, d⟩, e⟩, f⟩ := h
  exact ⟨a, b, c, d, e, f⟩
/-- what a number in a word is told as -/
def NmR (l : List UInt8) (x : Int) (ok : Bool) : Prop := (ok = true → 1 ≤ x → l = Pl.dec x.toNat) ∧ (∀ y : Nat, 1 ≤ y → y ≤ 500 → l = Pl.dec y → ok = true ∧ x = y)
theorem NmR.no {l : List UInt8} (h : ∀ y, DecF l y → False) : NmR l 0 false := ⟨fun h => absurd h (by decide), fun y h1 h5 e => absurd (by rw [e]; exact dec_facts h1 h5) (h y)⟩

theorem NmR.yes {l : List UInt8} (hl : l ≠ []) (hd : ∀ b ∈ l, isD b) (hh : l.head? = some 48 → l.length = 1) : NmR l (dvl l) true :=
  ⟨fun _ _ => (dec_dvl _ l rfl hl hd hh).symm, fun y h1 h5 e => ⟨rfl, by rw [e]; exact (dec_facts h1 h5).val⟩⟩
theorem NmR.neg {l : List UInt8} {x : Int} {ok : Bool} (h : l.head? = some 45) (hx : x ≤ 0) : NmR l x ok := ⟨fun _ h1 => absurd h1 (by omega), fun y h1 h5 e => absurd (by rw [← e]; exact h) (dec_facts h1 h5).n45⟩
/-- the digits from i to k are digits, and their value -/
def DgK (l : List UInt8) (i k : Nat) (x : Int) : Prop := (∀ b ∈ (l.take k).drop i, isD b) ∧ x = dvl ((l.take k).drop i)
theorem DgK.zero (l : List UInt8) (i : Nat) : DgK l i i 0 := by
  have : (l.take i).drop i = [] := by rw [List.drop_eq_nil_iff]; simp; omega
  unfold DgK; rw [this]; simp [dvl]
theorem DgK.step {l : List UInt8} {i k : Nat} {x : Int} {b : UInt8} (h : DgK l i k x) (hb : l[k]? = some b) (hd : isD b) (hik : i ≤ k) : DgK l i (k + 1) (x * 10 + ((b.toNat : Int) - 48)) := by
  obtain ⟨h1, h2⟩ := h
  unfold DgK
  rw [drop_snoc hb hik, dvl_snoc, ← h2]
  refine ⟨fun c hc => ?_, rfl⟩
  rcases List.mem_append.1 hc with hc | hc
  · exact h1 c hc
  · simp at hc; rw [hc]; exact hd
theorem DgK.bd {l : List UInt8} {i k : Nat} {x : Int} (h : DgK l i k x) (hk : k ≤ i + 9) : 0 ≤ x ∧ x < 1000000000 := by
  obtain ⟨h1, h2⟩ := h
  obtain ⟨a, b⟩ := dvl_bd _ _ rfl h1
  rw [h2]
  refine ⟨a, Int.lt_of_lt_of_le b ?_⟩
  have h9 : ((l.take k).drop i).length ≤ 9 := by simp; omega
  have h10 : (10 : Nat) ^ ((l.take k).drop i).length ≤ 10 ^ 9 := Nat.pow_le_pow_right (by omega) h9
  have : ((10 : Nat) ^ ((l.take k).drop i).length : Int) ≤ ((10 ^ 9 : Nat) : Int) := by exact_mod_cast h10
  simpa using this
/-- the number in a word, in memory -/
def NmP (l : List UInt8) (w : World) (e : Ending) (w' : World) : Prop := ∃ x ok, e = .returned (.tuple #[.int .i64 x, .bool ok]) ∧ NmR l x ok ∧ w' = w

set_option maxRecDepth 100000 in
set_option maxHeartbeats 1000000 in
theorem snum_any (s : ByteArray) (w : World) (hs : s.size ≤ 20000) : Calls Tryz.prog 60 #[.string s] w (NmP s.data.toList w) := by
  obtain ⟨l, hl⟩ : ∃ l, s.data.toList = l := ⟨_, rfl⟩
  have hsz : s.size = l.length := by rw [Lib.size_eq, hl]
  have hl' := hide hl
  have htl : s.toList = l := by rw [Lib.toList_data, hl]
  rw [hl]
  clear hl
  rcases hll : l with _ | ⟨b0, r⟩
  · subst hll
    have hfin := hide (show NmR [] 0 false from NmR.no (fun y hy => by have := hy.le1; simp at this))
    have hem : s.toList.isEmpty = true := by rw [htl]; rfl
    have hz : s.size = 0 := by simpa using hsz
    clear hsz htl hl'
    go_enter Tryz.func60, Tryz.ntmps60
    go_wp2
    go_ret2
    exact ⟨0, false, rfl, unhide hfin, rfl⟩
  · have hc0 : l[0]? = some b0 := by rw [hll]; rfl
    have hh0 := hide (show l.head? = some b0 by rw [hll]; rfl)
    have hem : s.toList.isEmpty = false := by rw [htl, hll]; rfl
    have hne : l ≠ [] := by rw [hll]; simp
    have hn1 : 1 ≤ l.length := by rw [hll]; simp
    have hix0 : ∀ w, (Instr.index 9 (.string s) (.int .i64 0)).run Tryz.prog w = .ok (.int .u8 b0.toNat) w := fun w => idx_str (k := 0) (unhide hl') hc0 w
    rw [← hll]
    clear hll htl
    by_cases h45 : b0 = 45
    · have hh : l.head? = some 45 := by rw [← h45]; exact unhide hh0
      have he : (((b0.toNat : Nat) : Int) == 45) = true := by rw [h45]; rfl
      have hsub : IntKind.i64.wrap ((l.length : Int) - 1) = (l.length : Int) - 1 := by rw [IntKind.wrap_i64]; omega
      by_cases hl1 : l.length < 2
      · have hfin := hide (show NmR l 0 false from NmR.neg hh (by omega))
        have g1 : decide ((l.length : Int) - 1 < 1) = true := by simp; omega
        clear hl1
        go_enter Tryz.func60, Tryz.ntmps60
        go_wp2
        go_ret2
        exact ⟨0, false, rfl, unhide hfin, rfl⟩
      · by_cases hl9 : 10 < l.length
        · have hfin := hide (show NmR l 0 false from NmR.neg hh (by omega))
          have g1 : decide ((l.length : Int) - 1 < 1) = false := by simp; omega
          have g2 : decide (9 < (l.length : Int) - 1) = true := by simp; omega
          have g2p : decide ((l.length : Int) - 1 > 9) = true := by simp; omega
          clear hl1 hl9
          go_enter Tryz.func60, Tryz.ntmps60
          go_wp2
          go_ret2
          exact ⟨0, false, rfl, unhide hfin, rfl⟩
        · have g1 : decide ((l.length : Int) - 1 < 1) = false := by simp; omega
          have g2 : decide (9 < (l.length : Int) - 1) = false := by simp; omega
          have g2p : decide ((l.length : Int) - 1 > 9) = false := by simp; omega
          go_enter Tryz.func60, Tryz.ntmps60
          go_wp2_with fail
          go_loopw [6, 7] (fun a t wr => ∃ (k : Nat) (x : Int), 1 ≤ k ∧ k ≤ l.length ∧ t = .int .i64 k ∧ a = .int .i64 x ∧ Hid (DgK l 1 k x) ∧ wr = w) (fun _ t _ => l.length - (intOf t).toNat)
          case atStart => exact ⟨1, 0, by omega, by omega, rfl, rfl, hide (DgK.zero l 1), rfl⟩
          case round =>
            obtain ⟨k, x, hk0, hk1, rfl, rfl, hD, rfl⟩ := hrel
            obtain ⟨d0, d1⟩ := (unhide hD).bd (by omega)
            by_cases hlt : k < l.length
            · have q1 : decide ((k : Int) < (l.length : Int)) = true := by simp; omega
              obtain ⟨c, hc⟩ : ∃ c, l[k]? = some c := ⟨l[k], List.getElem?_eq_getElem hlt⟩
              have hidx := fun w => idx_str (unhide hl') hc w
              by_cases h48 : c.toNat < 48
              · have hfin := hide (show NmR l 0 false from NmR.neg hh (by omega))
                have q2 : decide (((c.toNat : Nat) : Int) < 48) = true := by simp; omega
                clear hc hD
                go_wp2
                go_ret2
                exact ⟨0, false, rfl, unhide hfin, rfl⟩
              · have q2 : decide (((c.toNat : Nat) : Int) < 48) = false := by simp; omega
                by_cases h57 : 57 < c.toNat
                · have hfin := hide (show NmR l 0 false from NmR.neg hh (by omega))
                  have q3 : decide (57 < ((c.toNat : Nat) : Int)) = true := by simp; omega
                  clear hc hD
                  go_wp2
                  go_ret2
                  exact ⟨0, false, rfl, unhide hfin, rfl⟩
                · have q3 : decide (57 < ((c.toNat : Nat) : Int)) = false := by simp; omega
                  have hD' := hide ((unhide hD).step hc ⟨by omega, by omega⟩ hk0)
                  have p1 : IntKind.u8.wrap (((c.toNat : Nat) : Int) - 48) = ((c.toNat : Nat) : Int) - 48 := by rw [IntKind.wrap_u8]; omega
                  have p2 : IntKind.i64.wrap (x * 10) = x * 10 := by rw [IntKind.wrap_i64]; omega
                  have p3 : IntKind.i64.wrap (((c.toNat : Nat) : Int) - 48) = ((c.toNat : Nat) : Int) - 48 := by rw [IntKind.wrap_i64]; omega
                  have p4 : IntKind.i64.wrap (x * 10 + (((c.toNat : Nat) : Int) - 48)) = x * 10 + (((c.toNat : Nat) : Int) - 48) := by rw [IntKind.wrap_i64]; omega
                  clear hc hD
                  go_wp2
                  go_roundw
                  case rel => exact ⟨k + 1, x * 10 + (((c.toNat : Nat) : Int) - 48), by omega, by omega, by go_num, by first | rfl | trivial, hD', by first | rfl | trivial⟩
                  case measure => simp [intOf]; omega
            · have hkl : k = l.length := by omega
              subst hkl
              have q1 : decide ((l.length : Int) < (l.length : Int)) = false := by simp
              obtain ⟨c1, hc1⟩ : ∃ c, l[1]? = some c := ⟨l[1], List.getElem?_eq_getElem (by omega)⟩
              have hix1 : ∀ w, (Instr.index 9 (.string s) (.int .i64 1)).run Tryz.prog w = .ok (.int .u8 c1.toNat) w := fun w => idx_str (k := 1) (unhide hl') hc1 w
              by_cases hz : c1 = 48
              · have hfin := hide (show NmR l 0 false from NmR.neg hh (by omega))
                have q5 : (((c1.toNat : Nat) : Int) == 48) = true := by rw [hz]; rfl
                clear hD
                go_wp2
                go_ret2
                exact ⟨0, false, rfl, unhide hfin, rfl⟩
              · have q5 : (((c1.toNat : Nat) : Int) == 48) = false := by
                  rw [beq_eq_false_iff_ne]
                  intro e
                  apply hz
                  exact UInt8.toNat_inj.1 (by have h : c1.toNat = 48 := by omega
                                              rw [h]; rfl)
                have hfin := hide (show NmR l (-x) true from NmR.neg hh (by omega))
                have p5 : IntKind.i64.wrap (-x) = -x := by rw [IntKind.wrap_i64]; omega
                clear hD
                go_wp2
                go_ret2
                exact ⟨-x, true, rfl, unhide hfin, rfl⟩
    · have he : (((b0.toNat : Nat) : Int) == 45) = false := by
        rw [beq_eq_false_iff_ne]
        intro e
        apply h45
        exact UInt8.toNat_inj.1 (by have h : b0.toNat = 45 := by omega
                                    rw [h]; rfl)
      have hsub : IntKind.i64.wrap ((l.length : Int) - 0) = (l.length : Int) := by rw [IntKind.wrap_i64]; omega
      by_cases hl1 : l.length < 1
      · exact absurd hl1 (by omega)
      · by_cases hl9 : 9 < l.length
        · have hfin := hide (show NmR l 0 false from NmR.no (fun y hy => by have := hy.le1; have := hy.le3; omega))
          have g1 : decide ((l.length : Int) < 1) = false := by simp; omega
          have g2 : decide (9 < (l.length : Int)) = true := by simp; omega
          have g2p : decide ((l.length : Int) > 9) = true := by simp; omega
          clear hl1 hl9
          go_enter Tryz.func60, Tryz.ntmps60
          go_wp2
          go_ret2
          exact ⟨0, false, rfl, unhide hfin, rfl⟩
        · have g1 : decide ((l.length : Int) < 1) = false := by simp; omega
          have g2 : decide (9 < (l.length : Int)) = false := by simp; omega
          have g2p : decide ((l.length : Int) > 9) = false := by simp; omega
          go_enter Tryz.func60, Tryz.ntmps60
          go_wp2_with fail
          go_loopw [6, 7] (fun a t wr => ∃ (k : Nat) (x : Int), 0 ≤ k ∧ k ≤ l.length ∧ t = .int .i64 k ∧ a = .int .i64 x ∧ Hid (DgK l 0 k x) ∧ wr = w) (fun _ t _ => l.length - (intOf t).toNat)
          case atStart => exact ⟨0, 0, by omega, by omega, rfl, rfl, hide (DgK.zero l 0), rfl⟩
          case round =>
            obtain ⟨k, x, hk0, hk1, rfl, rfl, hD, rfl⟩ := hrel
            obtain ⟨d0, d1⟩ := (unhide hD).bd (by omega)
            by_cases hlt : k < l.length
            · have q1 : decide ((k : Int) < (l.length : Int)) = true := by simp; omega
              obtain ⟨c, hc⟩ : ∃ c, l[k]? = some c := ⟨l[k], List.getElem?_eq_getElem hlt⟩
              have hidx := fun w => idx_str (unhide hl') hc w
              by_cases h48 : c.toNat < 48
              · have hfin := hide (show NmR l 0 false from NmR.no (fun y hy => by have := hy.dig c (List.mem_of_getElem? hc); unfold isD at this; omega))
                have q2 : decide (((c.toNat : Nat) : Int) < 48) = true := by simp; omega
                clear hc hD
                go_wp2
                go_ret2
                exact ⟨0, false, rfl, unhide hfin, rfl⟩
              · have q2 : decide (((c.toNat : Nat) : Int) < 48) = false := by simp; omega
                by_cases h57 : 57 < c.toNat
                · have hfin := hide (show NmR l 0 false from NmR.no (fun y hy => by have := hy.dig c (List.mem_of_getElem? hc); unfold isD at this; omega))
                  have q3 : decide (57 < ((c.toNat : Nat) : Int)) = true := by simp; omega
                  clear hc hD
                  go_wp2
                  go_ret2
                  exact ⟨0, false, rfl, unhide hfin, rfl⟩
                · have q3 : decide (57 < ((c.toNat : Nat) : Int)) = false := by simp; omega
                  have hD' := hide ((unhide hD).step hc ⟨by omega, by omega⟩ hk0)
                  have p1 : IntKind.u8.wrap (((c.toNat : Nat) : Int) - 48) = ((c.toNat : Nat) : Int) - 48 := by rw [IntKind.wrap_u8]; omega
                  have p2 : IntKind.i64.wrap (x * 10) = x * 10 := by rw [IntKind.wrap_i64]; omega
                  have p3 : IntKind.i64.wrap (((c.toNat : Nat) : Int) - 48) = ((c.toNat : Nat) : Int) - 48 := by rw [IntKind.wrap_i64]; omega
                  have p4 : IntKind.i64.wrap (x * 10 + (((c.toNat : Nat) : Int) - 48)) = x * 10 + (((c.toNat : Nat) : Int) - 48) := by rw [IntKind.wrap_i64]; omega
                  clear hc hD
                  go_wp2
                  go_roundw
                  case rel => exact ⟨k + 1, x * 10 + (((c.toNat : Nat) : Int) - 48), by omega, by omega, by go_num, by first | rfl | trivial, hD', by first | rfl | trivial⟩
                  case measure => simp [intOf]; omega
            · have hkl : k = l.length := by omega
              subst hkl
              have q1 : decide ((l.length : Int) < (l.length : Int)) = false := by simp
              have hDe : (∀ b ∈ l, isD b) ∧ x = dvl l := by
                have h := unhide hD
                unfold DgK at h
                simpa using h
              by_cases hz : b0 = 48
              · have q5 : (((b0.toNat : Nat) : Int) == 48) = true := by rw [hz]; rfl
                by_cases hl2 : 1 < l.length
                · have hfin := hide (show NmR l 0 false from NmR.no (fun y hy => hy.n48 (by rw [unhide hh0, hz])))
                  have q6 : decide (1 < (l.length : Int)) = true := by simp; omega
                  clear hD hDe
                  go_wp2
                  go_ret2
                  exact ⟨0, false, rfl, unhide hfin, rfl⟩
                · have hfin := hide (show NmR l x true from by rw [hDe.2]; exact NmR.yes hne hDe.1 (fun _ => by omega))
                  have q6 : decide (1 < (l.length : Int)) = false := by simp; omega
                  clear hD hDe
                  go_wp2
                  go_ret2
                  exact ⟨x, true, rfl, unhide hfin, rfl⟩
              · have q5 : (((b0.toNat : Nat) : Int) == 48) = false := by
                  rw [beq_eq_false_iff_ne]
                  intro e
                  apply hz
                  exact UInt8.toNat_inj.1 (by have h : b0.toNat = 48 := by omega
                                              rw [h]; rfl)
                have hfin := hide (show NmR l x true from by rw [hDe.2]; exact NmR.yes hne hDe.1 (fun h => by rw [unhide hh0] at h; injection h with h; exact absurd h hz))
                clear hD hDe
                go_wp2
                go_ret2
                exact ⟨x, true, rfl, unhide hfin, rfl⟩

end Go.Proofs.YtfhbmfndjbdhcaaGreatDoor
