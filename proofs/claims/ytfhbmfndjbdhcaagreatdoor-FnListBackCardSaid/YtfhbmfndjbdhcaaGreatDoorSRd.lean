/-
  Contract of the model's TimeRead, for every argument: what it answers, and that nothing that was there is written.
-/
import Derived.Test.YtfhbmfndjbdhcaaGreatDoorSTime
import Derived.Test.YtfhbmfndjbdhcaaGreatDoorLrQ
import Derived.Deep.QuietTactic
import Derived.BigQuiet
namespace Go.Proofs.YtfhbmfndjbdhcaaGreatDoor
open Go.RowKit
set_option linter.unusedVariables false

theorem sRD_no {n d : Int} {dr : Bool} {t : List UInt8} (h : ∀ f, Pl.tt n d dr f = t → t = []) : Pl.RD n d dr t 0 false := .inr ⟨rfl, rfl, h⟩

set_option maxHeartbeats 400000 in
theorem srd_r (n d : Int) (dr : Bool) (s : ByteArray) (w : World) (hr : Pl.rok n d dr = false) :
    Calls Tryz.prog 62 #[.agg #[.int .i64 n, .int .i64 d, .bool dr], .string s] w fun e w' => e = .returned (.tuple #[.int .i64 0, .bool false]) ∧ Below w.heap.size w w' := by
  have cb := hide (base_val 47 sbase_any n d dr 0 (Pl.base_zero hr))
  clear hr
  go_enter Tryz.func62, Tryz.ntmps62
  go_wp2_with fail
  refine (unhide cb _).mono ?_
  rintro e w1 ⟨rfl, hb⟩
  go_wp2
  go_ret2
  exact ⟨rfl, below_box hb⟩

set_option maxHeartbeats 400000 in
theorem srd_l (n d : Int) (dr : Bool) (s : ByteArray) (w : World) (hs : s.size ≤ maxLen) (hr : Pl.rok n d dr = true) (hl : s.size < 11 ∨ 12 < s.size) :
    Calls Tryz.prog 62 #[.agg #[.int .i64 n, .int .i64 d, .bool dr], .string s] w fun e w' => e = .returned (.tuple #[.int .i64 0, .bool false]) ∧ Below w.heap.size w w' := by
  unfold maxLen at hs
  obtain ⟨b1, b2⟩ := Pl.base_bd hr
  have cb := hide (base_val 47 sbase_any n d dr _ rfl)
  clear hr
  generalize Pl.base n d dr = b at *
  have hz : (b == 0) = false := by simp; omega
  rcases hl with hl | hl
  · have hl' : (s.size : Int) < 11 := by omega
    go_enter Tryz.func62, Tryz.ntmps62
    go_wp2_with fail
    refine (unhide cb _).mono ?_
    rintro e w1 ⟨rfl, hb⟩
    go_wp2
    go_ret2
    exact ⟨rfl, below_box hb⟩
  · have hl' : decide ((s.size : Int) < 11) = false := by simp; omega
    have hl2 : (12 : Int) < (s.size : Int) := by omega
    go_enter Tryz.func62, Tryz.ntmps62
    go_wp2_with fail
    refine (unhide cb _).mono ?_
    rintro e w1 ⟨rfl, hb⟩
    go_wp2
    go_ret2
    exact ⟨rfl, below_box hb⟩

theorem getD_byte {s : ByteArray} {k : Nat} (h : k < s.size) : s.data.toList.getD k 0 = s[k]'h := by
  rw [List.getD_eq_getElem?_getD, List.getElem?_eq_getElem (by simpa using h)]; rfl
/-- what the cells of the list hold: the fields ahead of i are read, of field i m digits are -/
def cv (t : List UInt8) (len i m j : Nat) : Int := if j < i then Pl.av t (3 * j) (Pl.nd len j) else if j = i then Pl.av t (3 * i) m else 0
theorem cv_next (t : List UInt8) (len i j : Nat) : cv t len (i + 1) 0 j = cv t len i (Pl.nd len i) j := by
  unfold cv
  by_cases h1 : j < i
  · rw [if_pos h1, if_pos (by omega)]
  · by_cases h2 : j = i
    · subst h2; rw [if_pos (by omega), if_neg (by omega), if_pos rfl]
    · rw [if_neg (by omega), if_neg h1, if_neg h2]
      by_cases h3 : j = i + 1
      · rw [if_pos h3]; rfl
      · rw [if_neg h3]

theorem cells_set {w : World} {g i : Nat} {f f' : Nat → Int} {v : Int} (hi : i < 4) (hc : ∀ j, j < 4 → w.cell? ⟨g, j, none⟩ = some (.int .i64 (f j))) (hv : ∀ j, j < 4 → f' j = if j = i then v else f j) :
    ∀ j, j < 4 → (w.setCell ⟨g, i, none⟩ (.int .i64 v)).drew.cell? ⟨g, j, none⟩ = some (.int .i64 (f' j)) := by
  intro j hj
  show (w.setCell ⟨g, i, none⟩ (.int .i64 v)).cell? ⟨g, j, none⟩ = _
  rw [hv j hj]
  by_cases h : j = i
  · subst h; rw [if_pos rfl]; exact World.cell?_setCell_same _ _ _ (hc j hj)
  · rw [if_neg h, World.cell?_setCell_other _ _ _ _ (by intro h2; apply h; injection h2 with _ h3 _; exact h3.symm)]; exact hc j hj
theorem cv_step (t : List UInt8) (len i m : Nat) (c : UInt8) (X : Int) (hX : X = Pl.av t (3 * i) m) (hc : t.getD (3 * i + m) 0 = c) : ∀ j, j < 4 → cv t len i (m + 1) j = if j = i then X * 10 + ((c.toNat : Int) - 48) else cv t len i m j := by
  intro j _
  unfold cv
  by_cases h : j = i
  · subst h; rw [if_neg (by omega), if_pos rfl, if_pos rfl, Pl.av, hX, hc]
  · rw [if_neg h]
    by_cases h2 : j < i
    · simp [h2]; intro h3; exact absurd h3 h
    · simp [h2, h]

set_option maxHeartbeats 4000000 in
theorem srd_m (n d : Int) (dr : Bool) (s : ByteArray) (w : World) (hr : Pl.rok n d dr = true) (h11 : 11 ≤ s.size) (h12 : s.size ≤ 12) :
    Calls Tryz.prog 62 #[.agg #[.int .i64 n, .int .i64 d, .bool dr], .string s] w fun e w' => ∃ x ok, e = .returned (.tuple #[.int .i64 x, .bool ok]) ∧ Pl.RD n d dr s.data.toList x ok ∧ Below w.heap.size w w' := by
  obtain ⟨b1, b2⟩ := Pl.base_bd hr
  have cb := hide (base_val 47 sbase_any n d dr _ rfl)
  have hlen : s.data.toList.length = s.size := by simp
  have hne : s.data.toList ≠ [] := by
    intro h0; rw [h0] at hlen; simp at hlen; omega
  have hread : Hid (∀ f, Pl.tt n d dr f = s.data.toList → (∀ i, i < 4 → ∀ m, m < Pl.nd s.size i → Pl.dgt s.data.toList (3 * i + m)) ∧ Pl.sF dr (Pl.base n d dr) (Pl.av s.data.toList 0 2) (Pl.av s.data.toList 3 2) (Pl.av s.data.toList 6 2) (Pl.av s.data.toList 9 (s.size - 9)) = f) := hide (fun f hf => by
    have := Pl.tt_sread hf hne
    rw [hlen] at this; exact this)
  have hne' := hide hne
  have hbd : Hid (dr = true → Pl.base n d dr = 30 ∨ Pl.base n d dr = 60) := hide (by
    intro h; subst h
    obtain ⟨rfl, rfl | rfl⟩ := Pl.rok_drop hr
    · exact .inl (Pl.base30 hr)
    · exact .inr (Pl.base60 hr))
  clear hr hlen hne
  generalize Pl.base n d dr = b at *
  have hz : (b == 0) = false := by simp; omega
  have hl1 : decide ((s.size : Int) < 11) = false := by simp; omega
  have hl2 : decide ((12 : Int) < (s.size : Int)) = false := by simp; omega
  go_enter Tryz.func62, Tryz.ntmps62
  go_wp2_with fail
  refine (unhide cb _).mono ?_
  rintro e w1 ⟨rfl, hb⟩
  have hc1 := (bcell hb).1
  have k1 := below_box hb
  have hs1 : w.heap.size < w1.heap.size := by have := hb.size; simp at this; omega
  have hn0 : w1.cell? ⟨w.heap.size, 0, none⟩ = some (.int .i64 n) := by rw [hc1 _ _ (by simp)]; simp
  have hn1 : w1.cell? ⟨w.heap.size, 1, none⟩ = some (.int .i64 d) := by rw [hc1 _ _ (by simp)]; simp
  have hn2 : w1.cell? ⟨w.heap.size, 2, none⟩ = some (.bool dr) := by rw [hc1 _ _ (by simp)]; simp
  clear hc1
  go_wp2_with fail
  go_loopw [8] (fun a wr => ∃ i : Nat, i ≤ 4 ∧ a = .int .i64 i ∧ (∀ j, j < 4 → wr.cell? ⟨w1.heap.size, j, none⟩ = some (.int .i64 (cv s.data.toList s.size i 0 j))) ∧ (∀ j, j < 4 → wr.frozen? ⟨w1.heap.size, j, none⟩ = false) ∧ Below w1.heap.size w1 wr ∧ w1.heap.size < wr.heap.size ∧ (∀ i', i' < i → ∀ m, m < Pl.nd s.size i' → Pl.dgt s.data.toList (3 * i' + m))) (fun a _ => 4 - (intOf a).toNat)
  case atStart =>
    refine ⟨0, by omega, rfl, ?_, ?_, (Below.refl _ _).alloc (Nat.le_refl _) _, by simp, by intro i' h; omega⟩
    · intro j hj
      obtain rfl | rfl | rfl | rfl : j = 0 ∨ j = 1 ∨ j = 2 ∨ j = 3 := by omega
      all_goals simp [cv, Pl.av]
    · intro j hj
      simp
  case round =>
    obtain ⟨i, hi, rfl, hcell, hfz, hnx, hwz, hdone⟩ := hrel
    by_cases hi4 : i < 4
    · have hN3 : Pl.nd s.size i ≤ 3 := by unfold Pl.nd; split <;> omega
      have hN : (i < 3 ∧ Pl.nd s.size i = 2) ∨ (i = 3 ∧ Pl.nd s.size i = s.size - 9) := by unfold Pl.nd; split <;> omega
      generalize hNN : Pl.nd s.size i = N at *
      have hNN' := hide hNN
      have hN' := hide hN
      clear hNN hN
      have hi5 : (i : Int) < 4 := by omega
      have hi5d : decide ((i : Int) < 4) = true := by simp; omega
      go_wp2_with fail
      go_loopw [9] (fun a wr2 => ∃ k : Nat, a = .int .i64 k ∧ 3 * i ≤ k ∧ k ≤ 3 * i + N ∧ (∀ j, j < 4 → wr2.cell? ⟨w1.heap.size, j, none⟩ = some (.int .i64 (cv s.data.toList s.size i (k - 3 * i) j))) ∧ (∀ j, j < 4 → wr2.frozen? ⟨w1.heap.size, j, none⟩ = false) ∧ Below w1.heap.size w1 wr2 ∧ w1.heap.size < wr2.heap.size ∧ (∀ m, m < k - 3 * i → Pl.dgt s.data.toList (3 * i + m))) (fun a _ => 3 * i + N - (intOf a).toNat)
      case atStart => exact ⟨3 * i, by go_num, Nat.le_refl _, by omega, by simpa using hcell, hfz, hnx, hwz, by intro m h; omega⟩
      case round =>
        clear hcell hfz hnx hwz
        rename_i wr0 _ _
        obtain ⟨k, rfl, hk0, hk1, hcell, hfz, hnx, hwz, hdg⟩ := hrel
        by_cases hk : k < 3 * i + N
        · have hks : k < s.size := by have := unhide hN'; omega
          have hX := hcell i hi4
          have hXb := Pl.av_bd s.data.toList (3 * i) (k - 3 * i) (by omega) hdg
          have hXe : cv s.data.toList s.size i (k - 3 * i) i = Pl.av s.data.toList (3 * i) (k - 3 * i) := by simp [cv]
          rw [hXe] at hX
          have hfi := hfz i hi4
          have hbyte := getD_byte hks
          have hk3 : 3 * i + (k - 3 * i) = k := by omega
          have hno : ¬ Pl.dgt s.data.toList k → Hid (Pl.RD n d dr s.data.toList 0 false) := fun hd => hide (sRD_no (fun f hf => absurd (by
            have h1 := (unhide hread f hf).1 i hi4 (k - 3 * i) (by rw [unhide hNN']; omega)
            rw [hk3] at h1; exact h1) hd))
          unfold Pl.dgt at hno
          rw [hbyte] at hno
          obtain ⟨X, hXX⟩ : ∃ X, X = Pl.av s.data.toList (3 * i) (k - 3 * i) := ⟨_, rfl⟩
          rw [← hXX] at hX hXb
          obtain ⟨X0, X1, _⟩ := hXb
          have hXX' := hide hXX
          have hbyte' := hide hbyte
          have hcell' := hide hcell
          have hfz' := hide hfz
          have hdg' := hide hdg
          clear hXX hXe hbyte hcell hfz hdg hn0 hn1 hn2 hdone
          by_cases hk2 : k < 3 * i + 2
          · have hk2' : (k : Int) < 3 * (i : Int) + 2 := by omega
            by_cases h48 : 48 ≤ (s[k]'hks).toNat
            · by_cases h57 : (s[k]'hks).toNat ≤ 57
              · have g1 : ¬ (((s[k]'hks).toNat : Nat) : Int) < 48 := by omega
                have g2 : ¬ (57 : Int) < (((s[k]'hks).toNat : Nat) : Int) := by omega
                have R1 := cells_set (v := X * 10 + (((s[k]'hks).toNat : Int) - 48)) hi4 (unhide hcell') (cv_step s.data.toList s.size i (k - 3 * i) (s[k]'hks) X (unhide hXX') (by rw [hk3]; exact unhide hbyte'))
                have R2 : ∀ m, m < k + 1 - 3 * i → Pl.dgt s.data.toList (3 * i + m) := by
                  intro m hm
                  by_cases h : m < k - 3 * i
                  · exact unhide hdg' m h
                  · have e : 3 * i + m = k := by omega
                    rw [e]; unfold Pl.dgt; rw [unhide hbyte']; exact ⟨h48, h57⟩
                have R3 : Below w1.heap.size w1 (wr.setCell ⟨w1.heap.size, i, none⟩ (.int .i64 (X * 10 + (((s[k]'hks).toNat : Int) - 48)))).drew := (hnx.setCell (Nat.le_refl _) _).drew
                have e4 : k - 3 * i + 1 = k + 1 - 3 * i := by omega
                rw [e4] at R1
                have R1' := hide R1
                have R2' := hide R2
                have R3' := hide R3
                clear hno R1 R2 R3 e4 hk3
                go_wp2_with fail
                go_region
                go_wp2
                go_roundw
                case rel => exact ⟨k + 1, by go_num, by omega, by omega, unhide R1', by intro j hj; simpa using unhide hfz' j hj, unhide R3', by simpa using hwz, unhide R2'⟩
                case measure => simp [intOf]; omega
              · have hfin := hno (by omega)
                clear hno hk3
                have g1 : decide ((((s[k]'hks).toNat : Nat) : Int) < 48) = false := by simp; omega
                have g2 : (57 : Int) < (((s[k]'hks).toNat : Nat) : Int) := by omega
                go_wp2
                go_ret2
                exact ⟨0, false, rfl, unhide hfin, k1.trans (hnx.mono (by omega))⟩
            · have hfin := hno (by omega)
              clear hno hk3
              have g1 : (((s[k]'hks).toNat : Nat) : Int) < 48 := by omega
              go_wp2
              go_ret2
              exact ⟨0, false, rfl, unhide hfin, k1.trans (hnx.mono (by omega))⟩
          · have hk2' : decide ((k : Int) < 3 * (i : Int) + 2) = false := by simp; omega
            have hi3 : ((i : Int) == 3) = true := by have := unhide hN'; simp; omega
            by_cases h48 : 48 ≤ (s[k]'hks).toNat
            · by_cases h57 : (s[k]'hks).toNat ≤ 57
              · have g1 : ¬ (((s[k]'hks).toNat : Nat) : Int) < 48 := by omega
                have g2 : ¬ (57 : Int) < (((s[k]'hks).toNat : Nat) : Int) := by omega
                have R1 := cells_set (v := X * 10 + (((s[k]'hks).toNat : Int) - 48)) hi4 (unhide hcell') (cv_step s.data.toList s.size i (k - 3 * i) (s[k]'hks) X (unhide hXX') (by rw [hk3]; exact unhide hbyte'))
                have R2 : ∀ m, m < k + 1 - 3 * i → Pl.dgt s.data.toList (3 * i + m) := by
                  intro m hm
                  by_cases h : m < k - 3 * i
                  · exact unhide hdg' m h
                  · have e : 3 * i + m = k := by omega
                    rw [e]; unfold Pl.dgt; rw [unhide hbyte']; exact ⟨h48, h57⟩
                have R3 : Below w1.heap.size w1 (wr.setCell ⟨w1.heap.size, i, none⟩ (.int .i64 (X * 10 + (((s[k]'hks).toNat : Int) - 48)))).drew := (hnx.setCell (Nat.le_refl _) _).drew
                have e4 : k - 3 * i + 1 = k + 1 - 3 * i := by omega
                rw [e4] at R1
                have R1' := hide R1
                have R2' := hide R2
                have R3' := hide R3
                clear hno R1 R2 R3 e4 hk3
                go_wp2_with fail
                go_region
                go_wp2
                go_roundw
                case rel => exact ⟨k + 1, by go_num, by omega, by omega, unhide R1', by intro j hj; simpa using unhide hfz' j hj, unhide R3', by simpa using hwz, unhide R2'⟩
                case measure => simp [intOf]; omega
              · have hfin := hno (by omega)
                clear hno hk3
                have g1 : decide ((((s[k]'hks).toNat : Nat) : Int) < 48) = false := by simp; omega
                have g2 : (57 : Int) < (((s[k]'hks).toNat : Nat) : Int) := by omega
                go_wp2
                go_ret2
                exact ⟨0, false, rfl, unhide hfin, k1.trans (hnx.mono (by omega))⟩
            · have hfin := hno (by omega)
              clear hno hk3
              have g1 : (((s[k]'hks).toNat : Nat) : Int) < 48 := by omega
              go_wp2
              go_ret2
              exact ⟨0, false, rfl, unhide hfin, k1.trans (hnx.mono (by omega))⟩
        · have hke : k = 3 * i + N := by omega
          have R1 : ∀ j, j < 4 → wr.cell? ⟨w1.heap.size, j, none⟩ = some (.int .i64 (cv s.data.toList s.size (i + 1) 0 j)) := by
            intro j hj
            rw [hcell j hj, cv_next, unhide hNN', show k - 3 * i = N by omega]
          have R2 : ∀ i', i' < i + 1 → ∀ m, m < Pl.nd s.size i' → Pl.dgt s.data.toList (3 * i' + m) := by
            intro i' hi' m hm
            by_cases h : i' = i
            · subst h; rw [unhide hNN'] at hm; exact hdg m (by omega)
            · exact hdone i' (by omega) m hm
          have R1' := hide R1
          have R2' := hide R2
          have hfz' := hide hfz
          clear R1 R2 hcell hdone hdg hfz
          rcases unhide hN' with ⟨hi3, hN2⟩ | ⟨hi3, hN2⟩
          · have t1 : (k : Int) < (s.size : Int) := by omega
            have t2 : decide ((k : Int) < 3 * (i : Int) + 2) = false := by simp; omega
            have t3 : ((i : Int) == 3) = false := by simp; omega
            clear hN2 hke
            go_wp2
            go_roundw
            case rel => exact ⟨i + 1, by omega, by go_num, unhide R1', unhide hfz', hnx, hwz, unhide R2'⟩
            case measure => simp [intOf]; omega
          · have t1 : decide ((k : Int) < (s.size : Int)) = false := by simp; omega
            have t0 : (s.size : Int) ≤ (k : Int) := by omega
            clear hN2 hke hi3
            go_wp2
            go_roundw
            case rel => exact ⟨i + 1, by omega, by go_num, unhide R1', unhide hfz', hnx, hwz, unhide R2'⟩
            case measure => simp [intOf]; omega
    · have hie : i = 4 := by omega
      subst hie
      have m0 := (hnx.cell (p := ⟨w.heap.size, 0, none⟩) hs1).trans hn0
      have m1 := (hnx.cell (p := ⟨w.heap.size, 1, none⟩) hs1).trans hn1
      have m2 := (hnx.cell (p := ⟨w.heap.size, 2, none⟩) hs1).trans hn2
      have z0 := hcell 0 (by omega)
      have z1 := hcell 1 (by omega)
      have z2 := hcell 2 (by omega)
      have z3 := hcell 3 (by omega)
      have d0 := Pl.av_bd s.data.toList 0 2 (by omega) (fun m hm => by simpa using hdone 0 (by omega) m (by simpa [Pl.nd] using hm))
      have d1 := Pl.av_bd s.data.toList 3 2 (by omega) (fun m hm => by simpa using hdone 1 (by omega) m (by simpa [Pl.nd] using hm))
      have d2 := Pl.av_bd s.data.toList 6 2 (by omega) (fun m hm => by simpa using hdone 2 (by omega) m (by simpa [Pl.nd] using hm))
      have d3 := Pl.av_bd s.data.toList 9 (s.size - 9) (by omega) (fun m hm => by simpa using hdone 3 (by omega) m (by simpa [Pl.nd] using hm))
      simp [cv, Pl.nd] at z0 z1 z2 z3
      clear hcell hfz hdone hn0 hn1 hn2
      generalize e0 : Pl.av s.data.toList 0 2 = l0 at *
      generalize e1 : Pl.av s.data.toList 3 2 = l1 at *
      generalize e2 : Pl.av s.data.toList 6 2 = l2 at *
      generalize e3 : Pl.av s.data.toList 9 (s.size - 9) = l3 at *
      replace e0 := hide e0
      replace e1 := hide e1
      replace e2 := hide e2
      replace e3 := hide e3
      obtain ⟨d00, d01, d02⟩ := d0
      obtain ⟨d10, d11, d12⟩ := d1
      obtain ⟨d20, d21, d22⟩ := d2
      obtain ⟨d30, d31, d32⟩ := d3
      cases dr
      · have mb := Pl.mul_bd (show 0 ≤ (l0 * 60 + l1) * 60 + l2 by omega) (show (l0 * 60 + l1) * 60 + l2 ≤ 4000000 by omega) (show 0 ≤ b by omega) b2
        have hF : Hid (Pl.sF false b l0 l1 l2 l3 = ((l0 * 60 + l1) * 60 + l2) * b + l3) := hide (by simp [Pl.sF])
        have hFn : ¬ ((l0 * 60 + l1) * 60 + l2) * b + l3 < 0 := by omega
        have hFd : decide (((l0 * 60 + l1) * 60 + l2) * b + l3 < 0) = false := by simp; omega
        go_wp2_with fail
        go_quiet (fail)
        go_wp2_with fail
        refine (stext_any n d false (((l0 * 60 + l1) * 60 + l2) * b + l3) _).mono ?_
        rintro e w3 ⟨rfl, hb3⟩
        have k3 : Below w.heap.size w w3 := (below_drewN (k1.trans (hnx.mono (by omega))) _).trans (hb3.mono (by have := hnx.size; show w.heap.size ≤ wr.heap.size; omega))
        by_cases heq : Pl.tt n d false (((l0 * 60 + l1) * 60 + l2) * b + l3) = s.data.toList
        · have hfin : Hid (Pl.RD n d false s.data.toList (((l0 * 60 + l1) * 60 + l2) * b + l3) true) := hide (.inl ⟨rfl, unhide hne', heq⟩)
          have hcmp : (Pl.tt n d false (((l0 * 60 + l1) * 60 + l2) * b + l3) == s.toList) = true := by rw [ByteArray.toList_eq]; simpa using heq
          clear heq
          go_wp2
          go_ret2
          exact ⟨_, true, rfl, unhide hfin, k3⟩
        · have hfin : Hid (Pl.RD n d false s.data.toList 0 false) := hide (sRD_no (fun f hf => by
            have a2 := (unhide hread f hf).2
            rw [unhide hF] at a2
            rw [a2] at heq; exact absurd hf heq))
          have hcmp : (Pl.tt n d false (((l0 * 60 + l1) * 60 + l2) * b + l3) == s.toList) = false := by rw [ByteArray.toList_eq]; simpa using heq
          clear heq
          go_wp2
          go_ret2
          exact ⟨0, false, rfl, unhide hfin, k3⟩
      · obtain rfl | rfl := unhide hbd rfl
        · clear hbd
          have hF : Hid (Pl.sF true 30 l0 l1 l2 l3 = ((l0 * 60 + l1) * 60 + l2) * 30 + l3 - 2 * ((l0 * 60 + l1) - (l0 * 60 + l1) / 10)) := hide (by simp [Pl.sF])
          have hFn : ¬ ((l0 * 60 + l1) * 60 + l2) * 30 + l3 - 2 * ((l0 * 60 + l1) - (l0 * 60 + l1) / 10) < 0 := by omega
          have hFd : decide (((l0 * 60 + l1) * 60 + l2) * 30 + l3 - 2 * ((l0 * 60 + l1) - (l0 * 60 + l1) / 10) < 0) = false := by simp; omega
          go_wp2_with fail
          go_quiet (fail)
          go_wp2_with fail
          go_quiet (fail)
          go_wp2_with fail
          refine (stext_any n d true (((l0 * 60 + l1) * 60 + l2) * 30 + l3 - 2 * ((l0 * 60 + l1) - (l0 * 60 + l1) / 10)) _).mono ?_
          rintro e w3 ⟨rfl, hb3⟩
          have k3 : Below w.heap.size w w3 := (below_drewN (k1.trans (hnx.mono (by omega))) _).trans (hb3.mono (by have := hnx.size; show w.heap.size ≤ wr.heap.size; omega))
          by_cases heq : Pl.tt n d true (((l0 * 60 + l1) * 60 + l2) * 30 + l3 - 2 * ((l0 * 60 + l1) - (l0 * 60 + l1) / 10)) = s.data.toList
          · have hfin : Hid (Pl.RD n d true s.data.toList (((l0 * 60 + l1) * 60 + l2) * 30 + l3 - 2 * ((l0 * 60 + l1) - (l0 * 60 + l1) / 10)) true) := hide (.inl ⟨rfl, unhide hne', heq⟩)
            have hcmp : (Pl.tt n d true (((l0 * 60 + l1) * 60 + l2) * 30 + l3 - 2 * ((l0 * 60 + l1) - (l0 * 60 + l1) / 10)) == s.toList) = true := by rw [ByteArray.toList_eq]; simpa using heq
            clear heq
            go_wp2
            go_ret2
            exact ⟨_, true, rfl, unhide hfin, k3⟩
          · have hfin : Hid (Pl.RD n d true s.data.toList 0 false) := hide (sRD_no (fun f hf => by
              have a2 := (unhide hread f hf).2
              rw [unhide hF] at a2
              rw [a2] at heq; exact absurd hf heq))
            have hcmp : (Pl.tt n d true (((l0 * 60 + l1) * 60 + l2) * 30 + l3 - 2 * ((l0 * 60 + l1) - (l0 * 60 + l1) / 10)) == s.toList) = false := by rw [ByteArray.toList_eq]; simpa using heq
            clear heq
            go_wp2
            go_ret2
            exact ⟨0, false, rfl, unhide hfin, k3⟩
        · clear hbd
          have hF : Hid (Pl.sF true 60 l0 l1 l2 l3 = ((l0 * 60 + l1) * 60 + l2) * 60 + l3 - 4 * ((l0 * 60 + l1) - (l0 * 60 + l1) / 10)) := hide (by simp [Pl.sF])
          have hFn : ¬ ((l0 * 60 + l1) * 60 + l2) * 60 + l3 - 4 * ((l0 * 60 + l1) - (l0 * 60 + l1) / 10) < 0 := by omega
          have hFd : decide (((l0 * 60 + l1) * 60 + l2) * 60 + l3 - 4 * ((l0 * 60 + l1) - (l0 * 60 + l1) / 10) < 0) = false := by simp; omega
          go_wp2_with fail
          go_quiet (fail)
          go_wp2_with fail
          go_quiet (fail)
          go_wp2_with fail
          refine (stext_any n d true (((l0 * 60 + l1) * 60 + l2) * 60 + l3 - 4 * ((l0 * 60 + l1) - (l0 * 60 + l1) / 10)) _).mono ?_
          rintro e w3 ⟨rfl, hb3⟩
          have k3 : Below w.heap.size w w3 := (below_drewN (k1.trans (hnx.mono (by omega))) _).trans (hb3.mono (by have := hnx.size; show w.heap.size ≤ wr.heap.size; omega))
          by_cases heq : Pl.tt n d true (((l0 * 60 + l1) * 60 + l2) * 60 + l3 - 4 * ((l0 * 60 + l1) - (l0 * 60 + l1) / 10)) = s.data.toList
          · have hfin : Hid (Pl.RD n d true s.data.toList (((l0 * 60 + l1) * 60 + l2) * 60 + l3 - 4 * ((l0 * 60 + l1) - (l0 * 60 + l1) / 10)) true) := hide (.inl ⟨rfl, unhide hne', heq⟩)
            have hcmp : (Pl.tt n d true (((l0 * 60 + l1) * 60 + l2) * 60 + l3 - 4 * ((l0 * 60 + l1) - (l0 * 60 + l1) / 10)) == s.toList) = true := by rw [ByteArray.toList_eq]; simpa using heq
            clear heq
            go_wp2
            go_ret2
            exact ⟨_, true, rfl, unhide hfin, k3⟩
          · have hfin : Hid (Pl.RD n d true s.data.toList 0 false) := hide (sRD_no (fun f hf => by
              have a2 := (unhide hread f hf).2
              rw [unhide hF] at a2
              rw [a2] at heq; exact absurd hf heq))
            have hcmp : (Pl.tt n d true (((l0 * 60 + l1) * 60 + l2) * 60 + l3 - 4 * ((l0 * 60 + l1) - (l0 * 60 + l1) / 10)) == s.toList) = false := by rw [ByteArray.toList_eq]; simpa using heq
            clear heq
            go_wp2
            go_ret2
            exact ⟨0, false, rfl, unhide hfin, k3⟩

theorem srd_any (n d : Int) (dr : Bool) (s : ByteArray) (w : World) (hs : s.size ≤ maxLen) :
    Calls Tryz.prog 62 #[.agg #[.int .i64 n, .int .i64 d, .bool dr], .string s] w fun e w' => ∃ x ok, e = .returned (.tuple #[.int .i64 x, .bool ok]) ∧ Pl.RD n d dr s.data.toList x ok ∧ Below w.heap.size w w' := by
  cases hr : Pl.rok n d dr
  · refine (srd_r n d dr s w hr).mono fun e w' ⟨h1, h2⟩ => ⟨0, false, h1, sRD_no (fun f hf => ?_), h2⟩
    rw [tt_no1 hr] at hf; exact hf.symm
  · by_cases hl : s.size < 11 ∨ 12 < s.size
    · refine (srd_l n d dr s w hs hr hl).mono fun e w' ⟨h1, h2⟩ => ⟨0, false, h1, sRD_no (fun f hf => ?_), h2⟩
      by_cases h0 : s.data.toList = []
      · exact h0
      · have h3 := Pl.tt_length (n := n) (d := d) (dr := dr) (f := f) (by rw [hf]; exact h0)
        rw [hf] at h3
        have h4 : s.data.toList.length = s.size := by simp
        exfalso
        split at h3 <;> omega
    · exact srd_m n d dr s w hr (by omega) (by omega)

end Go.Proofs.YtfhbmfndjbdhcaaGreatDoor
