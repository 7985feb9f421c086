/-
  Contracts of the program's reading of a clock's number, and of the frame of one, for right rates and texts of at most 12 bytes: what each answers, and that nothing that was there is written.
-/
import Derived.Test.YthjggjnkhhoigaaGreatDoorIAny
import Derived.Test.YthjggjnkhhoigaaGreatDoorLrQ
import Derived.Lib.OthersKept
namespace Go.Proofs.YthjggjnkhhoigaaGreatDoor
open Go.RowKit Go.Joins
set_option linter.unusedVariables false

set_option maxHeartbeats 400000 in
theorem icf_30 (hr : Pl.rok 30000 1001 true = true) (x : Int) (w : World) (h0 : 0 ≤ x) (h1 : x ≤ 1000000000000000000) :
    Calls Tryz.prog 84 #[.agg #[.int .i64 30000, .int .i64 1001, .bool true], .int .i64 x] w fun e w' => e = .returned (.int .i64 (x - 2 * (x / 1800 - x / 1800 / 10))) ∧ Below w.heap.size w w' := by
  have cb := hide (base_val 81 ibase_any 30000 1001 true 30 (Pl.base30 hr))
  clear hr
  go_enter Tryz.func84, Tryz.ntmps84
  go_wp2_with fail
  refine (unhide cb _).mono ?_
  rintro e w1 ⟨rfl, hb1⟩
  have hc1 := (bcell hb1).1
  go_wp2_with fail
  refine (ileft_30 1001 _).mono ?_
  rintro e w2 ⟨rfl, hb2⟩
  go_wp2
  go_ret
  have k1 := below_box hb1
  exact ⟨ret_int (by omega), k1.trans (hb2.mono k1.size)⟩

set_option maxHeartbeats 400000 in
theorem icf_60 (hr : Pl.rok 60000 1001 true = true) (x : Int) (w : World) (h0 : 0 ≤ x) (h1 : x ≤ 1000000000000000000) :
    Calls Tryz.prog 84 #[.agg #[.int .i64 60000, .int .i64 1001, .bool true], .int .i64 x] w fun e w' => e = .returned (.int .i64 (x - 4 * (x / 3600 - x / 3600 / 10))) ∧ Below w.heap.size w w' := by
  have cb := hide (base_val 81 ibase_any 60000 1001 true 60 (Pl.base60 hr))
  clear hr
  go_enter Tryz.func84, Tryz.ntmps84
  go_wp2_with fail
  refine (unhide cb _).mono ?_
  rintro e w1 ⟨rfl, hb1⟩
  have hc1 := (bcell hb1).1
  go_wp2_with fail
  refine (ileft_60 1001 _).mono ?_
  rintro e w2 ⟨rfl, hb2⟩
  go_wp2
  go_ret
  have k1 := below_box hb1
  exact ⟨ret_int (by omega), k1.trans (hb2.mono k1.size)⟩

set_option maxHeartbeats 400000 in
theorem icf_no (n d : Int) (hr : Pl.rok n d false = true) (x : Int) (w : World) (h0 : 0 ≤ x) (h1 : x ≤ 1000000000000000000) :
    Calls Tryz.prog 84 #[.agg #[.int .i64 n, .int .i64 d, .bool false], .int .i64 x] w fun e w' => e = .returned (.int .i64 (x)) ∧ Below w.heap.size w w' := by
  have cb := hide (base_val 81 ibase_any n d false _ rfl)
  obtain ⟨b1, b2⟩ := Pl.base_bd hr
  clear hr
  generalize Pl.base n d false = b at *
  have m0 : 0 ≤ x / (60 * b) := Int.ediv_nonneg h0 (by omega)
  have m1 : x / (60 * b) ≤ x := Int.ediv_le_self _ h0
  go_enter Tryz.func84, Tryz.ntmps84
  go_wp2_with fail
  refine (unhide cb _).mono ?_
  rintro e w1 ⟨rfl, hb1⟩
  have hc1 := (bcell hb1).1
  go_wp2_with fail
  refine (ileft_no n d _).mono ?_
  rintro e w2 ⟨rfl, hb2⟩
  go_wp2
  go_ret
  have k1 := below_box hb1
  exact ⟨ret_int (by omega), k1.trans (hb2.mono k1.size)⟩

theorem icf_any (n d : Int) (dr : Bool) (x : Int) (w : World) (hr : Pl.rok n d dr = true) (h0 : 0 ≤ x) (h1 : x ≤ 1000000000000000000) :
    Calls Tryz.prog 84 #[.agg #[.int .i64 n, .int .i64 d, .bool dr], .int .i64 x] w fun e w' => e = .returned (.int .i64 (Pl.cf n dr (Pl.base n d dr) x)) ∧ Below w.heap.size w w' := by
  cases dr
  · rw [Pl.cf_no]; exact icf_no n d hr x w h0 h1
  · obtain ⟨rfl, rfl | rfl⟩ := Pl.rok_drop hr
    · rw [Pl.base30 hr]; simpa [Pl.cf, Pl.left] using icf_30 hr x w h0 h1
    · rw [Pl.base60 hr]; simpa [Pl.cf, Pl.left] using icf_60 hr x w h0 h1

def pw (p : Nat) : Int := (10 : Int) ^ p
theorem pw_succ (p : Nat) : pw (p + 1) = 10 * pw p := by unfold pw; rw [Int.pow_succ]; omega
theorem pw_pos (p : Nat) : 1 ≤ pw p := by
  induction p with
  | zero => decide
  | succ p ih => rw [pw_succ]; omega
theorem pw_le (p q : Nat) (h : p ≤ q) : pw p ≤ pw q := by
  induction q with
  | zero => have : p = 0 := by omega
            subst this; omega
  | succ q ih =>
    by_cases e : p = q + 1
    · subst e; omega
    · rw [pw_succ]; have := ih (by omega); have := pw_pos q; omega
theorem rf_cons {dr : Bool} {b : Int} {s : ByteArray} {pos : Nat} (h : pos < s.size) (st : Nat × Int × Int) : Pl.rf dr b (s.data.toList.drop pos) st = match Pl.rs dr b st (s[pos]'h) with | none => none | some st' => Pl.rf dr b (s.data.toList.drop (pos + 1)) st' := by
  have e : s.data.toList.drop pos = (s[pos]'h) :: s.data.toList.drop (pos + 1) := by
    rw [List.drop_eq_getElem_cons (by simpa using h)]; rfl
  rw [e]; rfl
theorem rune_of (s : ByteArray) (pos : Nat) (h : pos < s.size) : ∃ rn wd : Nat, Utf8.decode s pos = (rn, wd) ∧ rn ≤ 2147483647 ∧ 1 ≤ wd ∧ ((s[pos]'h).toNat < 128 → rn = (s[pos]'h).toNat ∧ wd = 1) ∧ (¬ (s[pos]'h).toNat < 128 → 128 ≤ rn) := by
  refine ⟨(Utf8.decode s pos).1, (Utf8.decode s pos).2, rfl, decode_le s pos, ?_, ?_, ?_⟩
  · by_cases ha : (s[pos]'h).toNat < 128
    · rw [decode_ascii s pos h ha]; exact Nat.le_refl _
    · exact (decode_high s pos h (by omega)).2
  · intro ha; rw [decode_ascii s pos h ha]; exact ⟨rfl, rfl⟩
  · intro ha; exact (decode_high s pos h (by omega)).1
theorem u8_eq {c e : UInt8} (h : c.toNat = e.toNat) : c = e := UInt8.toNat_inj.1 h
theorem rs_no {dr : Bool} {b : Int} {st : Nat × Int × Int} {c : UInt8} (h1 : ¬ (48 ≤ c.toNat ∧ c.toNat ≤ 57)) (h2 : ¬ (st.1 < 3 ∧ c = Pl.fmk dr (st.1 + 1))) : Pl.rs dr b st c = none := by
  unfold Pl.rs; rw [if_neg h1, if_neg h2]
theorem dv_bd {b : Int} (h0 : 1 ≤ b) (h1 : b ≤ 120) (f : Nat) : 1 ≤ Pl.dv b f ∧ Pl.dv b f ≤ 432000 := by
  match f with
  | 0 => simp only [Pl.dv]; omega
  | 1 => simp only [Pl.dv]; omega
  | 2 => simp only [Pl.dv]; omega
  | n + 3 => simp only [Pl.dv]; omega

set_option maxHeartbeats 1600000 in
theorem iread_any (n d : Int) (dr : Bool) (s : ByteArray) (w : World) (hr : Pl.rok n d dr = true) (hs : s.size ≤ 12) :
    Calls Tryz.prog 83 #[.agg #[.int .i64 n, .int .i64 d, .bool dr], .string s] w fun e w' =>
      (match Pl.rf dr (Pl.base n d dr) s.data.toList (0, 0, 0) with
        | none => e = .returned (.tuple #[.int .i64 0, .bool false])
        | some x => e = .returned (.tuple #[.int .i64 x, .bool true]) ∧ 0 ≤ x ∧ x ≤ 1000000000000000000) ∧ Below w.heap.size w w' := by
  obtain ⟨b1, b2⟩ := Pl.base_bd hr
  have cb := hide (base_val 81 ibase_any n d dr _ rfl)
  clear hr
  generalize Pl.base n d dr = b at *
  generalize hR : Pl.rf dr b s.data.toList (0, 0, 0) = R
  have hR' := hide hR
  clear hR
  go_enter Tryz.func83, Tryz.ntmps83
  go_wp2_with fail
  refine (unhide cb _).mono ?_
  rintro e w1 ⟨rfl, hb1⟩
  go_wp2_with fail
  refine (idiv_any b _ (by omega) (by omega)).mono ?_
  rintro e w2 ⟨rfl, hb2⟩
  have k1 := below_box hb1
  have k2 := k1.trans (hb2.mono k1.size)
  have hc1 := (bcell hb1).1
  have hc2 := (bcell hb2).1
  have hs1 : w.heap.size < w1.heap.size := by have := hb1.size; simp at this; omega
  have hs2 : w.heap.size < w2.heap.size := by have := hb2.size; omega
  have hn0 : w2.cell? ⟨w.heap.size, 0, none⟩ = some (.int .i64 n) := by rw [hc2 _ _ hs1, hc1 _ _ (by simp)]; simp
  have hn1 : w2.cell? ⟨w.heap.size, 1, none⟩ = some (.int .i64 d) := by rw [hc2 _ _ hs1, hc1 _ _ (by simp)]; simp
  have hn2 : w2.cell? ⟨w.heap.size, 2, none⟩ = some (.bool dr) := by rw [hc2 _ _ hs1, hc1 _ _ (by simp)]; simp
  clear hc1 hc2
  go_wp2_with fail
  have hdv : ∀ j : Nat, j ≤ 3 → (w2.alloc (Obj.cells #[Value.int IntKind.i64 (3600 * b), Value.int IntKind.i64 (60 * b), Value.int IntKind.i64 b, Value.int IntKind.i64 1] 88)).cell? ⟨w2.heap.size, j, none⟩ = some (.int .i64 (Pl.dv b j)) := by
    intro j hj
    obtain rfl | rfl | rfl | rfl : j = 0 ∨ j = 1 ∨ j = 2 ∨ j = 3 := by omega
    all_goals simp [Pl.dv]
  have hn0 := (World.cell?_alloc_past (Obj.cells #[Value.int IntKind.i64 (3600 * b), Value.int IntKind.i64 (60 * b), Value.int IntKind.i64 b, Value.int IntKind.i64 1] 88) _ 0 hs2).trans hn0
  have hn1 := (World.cell?_alloc_past (Obj.cells #[Value.int IntKind.i64 (3600 * b), Value.int IntKind.i64 (60 * b), Value.int IntKind.i64 b, Value.int IntKind.i64 1] 88) _ 1 hs2).trans hn1
  have hn2 := (World.cell?_alloc_past (Obj.cells #[Value.int IntKind.i64 (3600 * b), Value.int IntKind.i64 (60 * b), Value.int IntKind.i64 b, Value.int IntKind.i64 1] 88) _ 2 hs2).trans hn2
  have kW : Below w.heap.size w (w2.alloc (Obj.cells #[Value.int IntKind.i64 (3600 * b), Value.int IntKind.i64 (60 * b), Value.int IntKind.i64 b, Value.int IntKind.i64 1] 88)) := k2.alloc k2.size _
  have hWs : (w2.alloc (Obj.cells #[Value.int IntKind.i64 (3600 * b), Value.int IntKind.i64 (60 * b), Value.int IntKind.i64 b, Value.int IntKind.i64 1] 88)).heap.size = w2.heap.size + 1 := by simp
  have hit0 := World.iter_heap (w2.alloc (Obj.cells #[Value.int IntKind.i64 (3600 * b), Value.int IntKind.i64 (60 * b), Value.int IntKind.i64 b, Value.int IntKind.i64 1] 88)) s 0
  have hbw0 : Below (w2.heap.size + 1) (w2.alloc (Obj.cells #[Value.int IntKind.i64 (3600 * b), Value.int IntKind.i64 (60 * b), Value.int IntKind.i64 b, Value.int IntKind.i64 1] 88)) ((w2.alloc (Obj.cells #[Value.int IntKind.i64 (3600 * b), Value.int IntKind.i64 (60 * b), Value.int IntKind.i64 b, Value.int IntKind.i64 1] 88)).iter s 0) := (Below.refl _ _).alloc (by rw [hWs]; exact Nat.le_refl _) _
  rw [hWs] at hit0
  clear hWs
  generalize (w2.alloc (Obj.cells #[Value.int IntKind.i64 (3600 * b), Value.int IntKind.i64 (60 * b), Value.int IntKind.i64 b, Value.int IntKind.i64 1] 88)) = W at *
  generalize W.iter s 0 = W0 at *
  go_loopw [7, 8, 9] (fun a c p wr => ∃ (pos fld : Nat) (num part : Int), a = .int .i64 fld ∧ c = .int .i64 num ∧ p = .int .i64 part ∧ fld ≤ 3 ∧ 0 ≤ part ∧ part < pw pos ∧ 0 ≤ num ∧ num ≤ 432000 * pw pos ∧ pos ≤ s.size ∧ wr.heap[w2.heap.size + 1]? = some (.stringIter s pos) ∧ Below (w2.heap.size + 1) W wr ∧ Hid (Pl.rf dr b (s.data.toList.drop pos) (fld, num, part) = R)) (fun _ _ _ wr => s.size - wr.iterPos (w2.heap.size + 1))
  case atStart => exact ⟨0, 0, 0, 0, rfl, rfl, rfl, by omega, by omega, by decide, by omega, by decide, by omega, hit0, hbw0, hR'⟩
  case round =>
    clear hit0 hbw0 hR'
    obtain ⟨pos, fld, num, part, rfl, rfl, rfl, hf, hp0, hp1, hq0, hq1, hps, hit, hnx, hrest⟩ := hrel
    have hsz : w2.heap.size + 1 < wr.heap.size := (Array.getElem?_eq_some_iff.1 hit).1
    obtain ⟨v0, v1⟩ := dv_bd b1 b2 fld
    by_cases hp : pos < s.size
    · obtain ⟨rn, wd, hdec, hr1, hr2, hr3, hr4⟩ := rune_of s pos hp
      obtain ⟨wr1, hwr1⟩ : ∃ x, x = wr.iterAt (w2.heap.size + 1) s (pos + wd) := ⟨_, rfl⟩
      have hnxt : ∀ ty, (Instr.next (.pointer (some ⟨w2.heap.size + 1, 0, none⟩)) true ty).run Tryz.prog wr = .ok (.tuple #[.bool true, .int .i64 pos, .int .i32 rn]) wr1 := fun ty => by
        have h := Lib.run_next_any_at (P := Tryz.prog) wr (w2.heap.size + 1) s pos ty hit hp
        rw [hdec] at h; rw [hwr1]; exact h
      have hit1 : wr1.heap[w2.heap.size + 1]? = some (.stringIter s (pos + wd)) := by rw [hwr1]; exact Lib.iterAt_heap wr (w2.heap.size + 1) s pos (pos + wd) hit
      have hnx1 : Below (w2.heap.size + 1) W wr1 := by rw [hwr1]; exact Lib.below_iterAt hnx (Nat.le_refl _) s (pos + wd)
      have hsz1 : w2.heap.size + 1 < wr1.heap.size := (Array.getElem?_eq_some_iff.1 hit1).1
      have hpw : pw pos ≤ 100000000000 := pw_le pos 11 (by omega)
      have hpw0 := pw_pos pos
      have hpws := pw_succ pos
      have hstep := rf_cons (dr := dr) (b := b) hp (fld, num, part)
      rw [unhide hrest] at hstep
      have m0 := (hnx1.cell (p := ⟨w.heap.size, 0, none⟩) (by show w.heap.size < _; omega)).trans hn0
      have m1 := (hnx1.cell (p := ⟨w.heap.size, 1, none⟩) (by show w.heap.size < _; omega)).trans hn1
      have m2 := (hnx1.cell (p := ⟨w.heap.size, 2, none⟩) (by show w.heap.size < _; omega)).trans hn2
      have m3 := (hnx1.cell (p := ⟨w2.heap.size, fld, none⟩) (by show w2.heap.size < _; omega)).trans (hdv fld hf)
      have hbig : ¬ (s[pos]'hp).toNat < 128 → 128 ≤ rn := hr4
      clear hdec hwr1 hrest hn0 hn1 hn2 hdv hnx hsz
      by_cases hdig : 48 ≤ rn ∧ rn ≤ 57
      · obtain ⟨d1, d2⟩ := hdig
        obtain ⟨e1, e2⟩ := hr3 (by omega)
        subst e2
        have hst : Hid (Pl.rf dr b (s.data.toList.drop (pos + 1)) (fld, num, 10 * part + ((rn : Int) - 48)) = R) := hide (by
          rw [hstep]
          have : Pl.rs dr b (fld, num, part) (s[pos]'hp) = some (fld, num, 10 * part + ((rn : Int) - 48)) := by
            unfold Pl.rs; rw [if_pos (by omega), e1]
          rw [this])
        have hpwm : Hid (pw (pos + 1) = 10 * pw pos) := hide hpws
        have g1 : (48 : Int) ≤ (rn : Int) := by omega
        have g2 : (rn : Int) ≤ 57 := by omega
        clear hstep hpws hr3 hr4 hbig e1
        generalize pw pos = P at *
        go_wp2
        go_roundw
        case rel => exact ⟨pos + 1, fld, num, 10 * part + ((rn : Int) - 48), rfl, rfl, rfl, hf, by omega, by rw [unhide hpwm]; omega, hq0, by rw [unhide hpwm]; omega, by omega, hit1, hnx1, hst⟩
        case measure => simp only [World.iterPos, hit1, hit]; omega
      · have hnd : ¬ (48 ≤ (s[pos]'hp).toNat ∧ (s[pos]'hp).toNat ≤ 57) := by
          intro hh
          have := hr3 (by omega)
          omega
        have mb := Pl.mul_bd hp0 (show part ≤ pw pos by omega) (show 0 ≤ Pl.dv b fld by omega) v1
        by_cases hf3 : fld < 3
        · obtain ⟨M, hM, hM0, hM1⟩ : ∃ M : Int, Hid (((Pl.fmk dr (fld + 1)).toNat : Int) = M) ∧ 58 ≤ M ∧ M ≤ 59 := ⟨_, hide rfl, by unfold Pl.fmk; split <;> simp, by unfold Pl.fmk; split <;> simp⟩
          have cm := hide (imark_val n d dr ((fld : Int) + 1) M (by rw [← unhide hM]; unfold fmark Pl.fmk; have : ((fld : Int) + 1 = 3) ↔ (fld + 1 = 3) := by omega
                                                                    simp only [this]))
          by_cases heq : (rn : Int) = M
          · obtain ⟨e1, e2⟩ := hr3 (by by_cases hlt : (s[pos]'hp).toNat < 128; exact hlt; exact absurd (hbig hlt) (by omega))
            subst e2
            have hce : s[pos]'hp = Pl.fmk dr (fld + 1) := u8_eq (by have := unhide hM; omega)
            have hst : Hid (Pl.rf dr b (s.data.toList.drop (pos + 1)) (fld + 1, num + part * Pl.dv b fld, 0) = R) := hide (by
              rw [hstep]
              have : Pl.rs dr b (fld, num, part) (s[pos]'hp) = some (fld + 1, num + part * Pl.dv b fld, 0) := by
                unfold Pl.rs; rw [if_neg hnd, if_pos ⟨hf3, hce⟩]
              rw [this])
            have hpwm : Hid (pw (pos + 1) = 10 * pw pos) := hide hpws
            have hd2 : decide ((rn : Int) ≤ 57) = false := by simp; omega
            have g1 : (48 : Int) ≤ (rn : Int) := by omega
            have heq' : ((rn : Int) == M) = true := by simpa using heq
            have hf3' : (fld : Int) + 1 < 4 := by omega
            clear hstep hpws hr3 hr4 hbig e1 hce hnd hM heq hdig
            generalize pw pos = P at *
            generalize Pl.dv b fld = D at *
            go_wp2_with fail
            refine (unhide cm _).mono ?_
            rintro e wr2 ⟨rfl, hbm⟩
            have hnx2 : Below (w2.heap.size + 1) W wr2 := hnx1.trans (hbm.mono (by omega))
            have hit2 : wr2.heap[w2.heap.size + 1]? = some (.stringIter s (pos + 1)) := (hbm.block _ hsz1).trans hit1
            have m3' : wr2.cell? ⟨w2.heap.size, fld, none⟩ = some (.int .i64 D) := cell_later hbm m3
            go_wp2
            go_roundw
            case rel => exact ⟨pos + 1, fld + 1, num + part * D, 0, by go_num, rfl, rfl, by omega, by omega, by rw [unhide hpwm]; omega, by omega, by rw [unhide hpwm]; omega, by omega, hit2, hnx2, hst⟩
            case measure => simp only [World.iterPos, hit2, hit]; omega
          · have hno : R = none := by
              rw [hstep, rs_no hnd (by
                rintro ⟨_, hc⟩
                simp only at hc
                have h1 : (s[pos]'hp).toNat < 128 := by rw [hc]; unfold Pl.fmk; split <;> simp
                have h2 := hr3 h1
                have h3 := unhide hM
                rw [← hc] at h3
                omega)]
            subst hno
            have heq' : ((rn : Int) == M) = false := by simpa using heq
            have hf3' : (fld : Int) + 1 < 4 := by omega
            clear hstep hpws hr3 hr4 hbig hnd hM
            generalize pw pos = P at *
            by_cases h48 : 48 ≤ rn
            · have g1 : (48 : Int) ≤ (rn : Int) := by omega
              have hd2 : decide ((rn : Int) ≤ 57) = false := by simp; omega
              clear heq hdig
              go_wp2_with fail
              refine (unhide cm _).mono ?_
              rintro e wr2 ⟨rfl, hbm⟩
              have hnx2 : Below (w2.heap.size + 1) W wr2 := hnx1.trans (hbm.mono (by omega))
              go_wp2
              go_ret2
              exact ⟨rfl, kW.trans (hnx2.mono (by omega))⟩
            · have hd1 : decide ((48 : Int) ≤ (rn : Int)) = false := by simp; omega
              clear heq hdig
              go_wp2_with fail
              refine (unhide cm _).mono ?_
              rintro e wr2 ⟨rfl, hbm⟩
              have hnx2 : Below (w2.heap.size + 1) W wr2 := hnx1.trans (hbm.mono (by omega))
              go_wp2
              go_ret2
              exact ⟨rfl, kW.trans (hnx2.mono (by omega))⟩
        · have hno : R = none := by
            rw [hstep, rs_no hnd (by rintro ⟨h, _⟩; exact hf3 h)]
          subst hno
          have hf3' : decide ((fld : Int) + 1 < 4) = false := by simp; omega
          clear hstep hpws hr3 hr4 hbig hnd
          generalize pw pos = P at *
          by_cases h48 : 48 ≤ rn
          · have g1 : (48 : Int) ≤ (rn : Int) := by omega
            have hd2 : decide ((rn : Int) ≤ 57) = false := by simp; omega
            clear hdig
            go_wp2
            go_ret2
            exact ⟨rfl, kW.trans (hnx1.mono (by omega))⟩
          · have hd1 : decide ((48 : Int) ≤ (rn : Int)) = false := by simp; omega
            clear hdig
            go_wp2
            go_ret2
            exact ⟨rfl, kW.trans (hnx1.mono (by omega))⟩
    · have hnxt : ∀ ty, (Instr.next (.pointer (some ⟨w2.heap.size + 1, 0, none⟩)) true ty).run Tryz.prog wr = .ok (.tuple #[.bool false]) wr := fun ty => Lib.run_next_end_at (P := Tryz.prog) wr (w2.heap.size + 1) s pos ty hit hp
      have hpe : pos = s.size := by omega
      have hR2 : R = some (num + part * Pl.dv b fld) := by
        rw [← unhide hrest, List.drop_eq_nil_of_le (by simp; omega)]; rfl
      subst hR2
      have hpw : pw pos ≤ 1000000000000 := pw_le pos 12 (by omega)
      have mb := Pl.mul_bd hp0 (show part ≤ pw pos by omega) (show 0 ≤ Pl.dv b fld by omega) v1
      have m3 := (hnx.cell (p := ⟨w2.heap.size, fld, none⟩) (by show w2.heap.size < _; omega)).trans (hdv fld hf)
      have hf4 : (fld : Int) < 4 := by omega
      clear hrest hpe hn0 hn1 hn2 hdv
      generalize pw pos = P at *
      go_wp2
      go_ret2
      exact ⟨⟨rfl, by omega, by omega⟩, kW.trans (hnx.mono (by omega))⟩

end Go.Proofs.YthjggjnkhhoigaaGreatDoor
