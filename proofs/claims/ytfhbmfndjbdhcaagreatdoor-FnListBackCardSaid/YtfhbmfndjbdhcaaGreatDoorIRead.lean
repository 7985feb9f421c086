/-
  Contracts of the program's reading of a clock's number, and of the frame of one, for right rates and texts of at most 12 bytes: what each answers, and that nothing that was there is written.
  Contract of the program's TimeRead, for every argument: what it answers, and that nothing that was there is written.
  The program's times of a line: their contract.
-/
import Derived.Test.YtfhbmfndjbdhcaaGreatDoorIAny
import Derived.Test.YtfhbmfndjbdhcaaGreatDoorLrQ
import Derived.Lib.OthersKept
import Derived.Laws.Cover3
import Derived.Test.YtfhbmfndjbdhcaaGreatDoorBs
namespace Go.Proofs.YtfhbmfndjbdhcaaGreatDoor
open Go.RowKit Go.Joins
set_option linter.unusedVariables false

set_option maxHeartbeats 400000 in
theorem icf_30 (hr : Pl.rok 30000 1001 true = true) (x : Int) (w : World) (h0 : 0 ≤ x) (h1 : x ≤ 1000000000000000000) :
    Calls Tryz.prog 119 #[.agg #[.int .i64 30000, .int .i64 1001, .bool true], .int .i64 x] w fun e w' => e = .returned (.int .i64 (x - 2 * (x / 1800 - x / 1800 / 10))) ∧ Below w.heap.size w w' := by
  have cb := hide (base_val 67 ibase_any 30000 1001 true 30 (Pl.base30 hr))
  clear hr
  go_enter Tryz.func119, Tryz.ntmps119
  go_wp2_with fail
  refine (unhide cb _).mono ?_
  rintro e w1 ⟨rfl, hb1⟩
  have hc1 := (bcell hb1).1
  go_wp2_with fail
  refine (ileft_30 1001 _).mono ?_
  rintro e w2 ⟨rfl, hb2⟩
  go_wp2
  go_ret
  have k1 := below_box hb1
  exact ⟨ret_int (by omega), k1.trans (hb2.mono k1.size)⟩

set_option maxHeartbeats 400000 in
theorem icf_60 (hr : Pl.rok 60000 1001 true = true) (x : Int) (w : World) (h0 : 0 ≤ x) (h1 : x ≤ 1000000000000000000) :
    Calls Tryz.prog 119 #[.agg #[.int .i64 60000, .int .i64 1001, .bool true], .int .i64 x] w fun e w' => e = .returned (.int .i64 (x - 4 * (x / 3600 - x / 3600 / 10))) ∧ Below w.heap.size w w' := by
  have cb := hide (base_val 67 ibase_any 60000 1001 true 60 (Pl.base60 hr))
  clear hr
  go_enter Tryz.func119, Tryz.ntmps119
  go_wp2_with fail
  refine (unhide cb _).mono ?_
  rintro e w1 ⟨rfl, hb1⟩
  have hc1 := (bcell hb1).1
  go_wp2_with fail
  refine (ileft_60 1001 _).mono ?_
  rintro e w2 ⟨rfl, hb2⟩
  go_wp2
  go_ret
  have k1 := below_box hb1
  exact ⟨ret_int (by omega), k1.trans (hb2.mono k1.size)⟩

set_option maxHeartbeats 400000 in
theorem icf_no (n d : Int) (hr : Pl.rok n d false = true) (x : Int) (w : World) (h0 : 0 ≤ x) (h1 : x ≤ 1000000000000000000) :
    Calls Tryz.prog 119 #[.agg #[.int .i64 n, .int .i64 d, .bool false], .int .i64 x] w fun e w' => e = .returned (.int .i64 (x)) ∧ Below w.heap.size w w' := by
  have cb := hide (base_val 67 ibase_any n d false _ rfl)
  obtain ⟨b1, b2⟩ := Pl.base_bd hr
  clear hr
  generalize Pl.base n d false = b at *
  have m0 : 0 ≤ x / (60 * b) := Int.ediv_nonneg h0 (by omega)
  have m1 : x / (60 * b) ≤ x := Int.ediv_le_self _ h0
  go_enter Tryz.func119, Tryz.ntmps119
  go_wp2_with fail
  refine (unhide cb _).mono ?_
  rintro e w1 ⟨rfl, hb1⟩
  have hc1 := (bcell hb1).1
  go_wp2_with fail
  refine (ileft_no n d _).mono ?_
  rintro e w2 ⟨rfl, hb2⟩
  go_wp2
  go_ret
  have k1 := below_box hb1
  exact ⟨ret_int (by omega), k1.trans (hb2.mono k1.size)⟩

theorem icf_any (n d : Int) (dr : Bool) (x : Int) (w : World) (hr : Pl.rok n d dr = true) (h0 : 0 ≤ x) (h1 : x ≤ 1000000000000000000) :
    Calls Tryz.prog 119 #[.agg #[.int .i64 n, .int .i64 d, .bool dr], .int .i64 x] w fun e w' => e = .returned (.int .i64 (Pl.cf n dr (Pl.base n d dr) x)) ∧ Below w.heap.size w w' := by
  cases dr
  · rw [Pl.cf_no]; exact icf_no n d hr x w h0 h1
  · obtain ⟨rfl, rfl | rfl⟩ := Pl.rok_drop hr
    · rw [Pl.base30 hr]; simpa [Pl.cf, Pl.left] using icf_30 hr x w h0 h1
    · rw [Pl.base60 hr]; simpa [Pl.cf, Pl.left] using icf_60 hr x w h0 h1

def pw (p : Nat) : Int := (10 : Int) ^ p
theorem pw_succ (p : Nat) : pw (p + 1) = 10 * pw p := by unfold pw; rw [Int.pow_succ]; omega
theorem pw_pos (p : Nat) : 1 ≤ pw p := by
  induction p with
  | zero => decide
  | succ p ih => rw [pw_succ]; omega
theorem pw_le (p q : Nat) (h : p ≤ q) : pw p ≤ pw q := by
  induction q with
  | zero => have : p = 0 := by omega
            subst this; omega
  | succ q ih =>
    by_cases e : p = q + 1
    · subst e; omega
    · rw [pw_succ]; have := ih (by omega); have := pw_pos q; omega
theorem rf_cons {dr : Bool} {b : Int} {s : ByteArray} {pos : Nat} (h : pos < s.size) (st : Nat × Int × Int) : Pl.rf dr b (s.data.toList.drop pos) st = match Pl.rs dr b st (s[pos]'h) with | none => none | some st' => Pl.rf dr b (s.data.toList.drop (pos + 1)) st' := by
  have e : s.data.toList.drop pos = (s[pos]'h) :: s.data.toList.drop (pos + 1) := by
    rw [List.drop_eq_getElem_cons (by simpa using h)]; rfl
  rw [e]; rfl
theorem rune_of (s : ByteArray) (pos : Nat) (h : pos < s.size) : ∃ rn wd : Nat, Utf8.decode s pos = (rn, wd) ∧ rn ≤ 2147483647 ∧ 1 ≤ wd ∧ ((s[pos]'h).toNat < 128 → rn = (s[pos]'h).toNat ∧ wd = 1) ∧ (¬ (s[pos]'h).toNat < 128 → 128 ≤ rn) := by
  refine ⟨(Utf8.decode s pos).1, (Utf8.decode s pos).2, rfl, decode_le s pos, ?_, ?_, ?_⟩
  · by_cases ha : (s[pos]'h).toNat < 128
    · rw [decode_ascii s pos h ha]; exact Nat.le_refl _
    · exact (decode_high s pos h (by omega)).2
  · intro ha; rw [decode_ascii s pos h ha]; exact ⟨rfl, rfl⟩
  · intro ha; exact (decode_high s pos h (by omega)).1
theorem u8_eq {c e : UInt8} (h : c.toNat = e.toNat) : c = e := UInt8.toNat_inj.1 h
theorem rs_no {dr : Bool} {b : Int} {st : Nat × Int × Int} {c : UInt8} (h1 : ¬ (48 ≤ c.toNat ∧ c.toNat ≤ 57)) (h2 : ¬ (st.1 < 3 ∧ c = Pl.fmk dr (st.1 + 1))) : Pl.rs dr b st c = none := by
  unfold Pl.rs; rw [if_neg h1, if_neg h2]
theorem dv_bd {b : Int} (h0 : 1 ≤ b) (h1 : b ≤ 120) (f : Nat) : 1 ≤ Pl.dv b f ∧ Pl.dv b f ≤ 432000 := by
  match f with
  | 0 => simp only [Pl.dv]; omega
  | 1 => simp only [Pl.dv]; omega
  | 2 => simp only [Pl.dv]; omega
  | n + 3 => simp only [Pl.dv]; omega

set_option maxHeartbeats 1600000 in
theorem iread_any (n d : Int) (dr : Bool) (s : ByteArray) (w : World) (hr : Pl.rok n d dr = true) (hs : s.size ≤ 12) :
    Calls Tryz.prog 118 #[.agg #[.int .i64 n, .int .i64 d, .bool dr], .string s] w fun e w' =>
      (match Pl.rf dr (Pl.base n d dr) s.data.toList (0, 0, 0) with
        | none => e = .returned (.tuple #[.int .i64 0, .bool false])
        | some x => e = .returned (.tuple #[.int .i64 x, .bool true]) ∧ 0 ≤ x ∧ x ≤ 1000000000000000000) ∧ Below w.heap.size w w' := by
  obtain ⟨b1, b2⟩ := Pl.base_bd hr
  have cb := hide (base_val 67 ibase_any n d dr _ rfl)
  clear hr
  generalize Pl.base n d dr = b at *
  generalize hR : Pl.rf dr b s.data.toList (0, 0, 0) = R
  have hR' := hide hR
  clear hR
  go_enter Tryz.func118, Tryz.ntmps118
  go_wp2_with fail
  refine (unhide cb _).mono ?_
  rintro e w1 ⟨rfl, hb1⟩
  go_wp2_with fail
  refine (idiv_any b _ (by omega) (by omega)).mono ?_
  rintro e w2 ⟨rfl, hb2⟩
  have k1 := below_box hb1
  have k2 := k1.trans (hb2.mono k1.size)
  have hc1 := (bcell hb1).1
  have hc2 := (bcell hb2).1
  have hs1 : w.heap.size < w1.heap.size := by have := hb1.size; simp at this; omega
  have hs2 : w.heap.size < w2.heap.size := by have := hb2.size; omega
  have hn0 : w2.cell? ⟨w.heap.size, 0, none⟩ = some (.int .i64 n) := by rw [hc2 _ _ hs1, hc1 _ _ (by simp)]; simp
  have hn1 : w2.cell? ⟨w.heap.size, 1, none⟩ = some (.int .i64 d) := by rw [hc2 _ _ hs1, hc1 _ _ (by simp)]; simp
  have hn2 : w2.cell? ⟨w.heap.size, 2, none⟩ = some (.bool dr) := by rw [hc2 _ _ hs1, hc1 _ _ (by simp)]; simp
  clear hc1 hc2
  go_wp2_with fail
  have hdv : ∀ j : Nat, j ≤ 3 → (w2.alloc (Obj.cells #[Value.int IntKind.i64 (3600 * b), Value.int IntKind.i64 (60 * b), Value.int IntKind.i64 b, Value.int IntKind.i64 1] 84)).cell? ⟨w2.heap.size, j, none⟩ = some (.int .i64 (Pl.dv b j)) := by
    intro j hj
    obtain rfl | rfl | rfl | rfl : j = 0 ∨ j = 1 ∨ j = 2 ∨ j = 3 := by omega
    all_goals simp [Pl.dv]
  have hn0 := (World.cell?_alloc_past (Obj.cells #[Value.int IntKind.i64 (3600 * b), Value.int IntKind.i64 (60 * b), Value.int IntKind.i64 b, Value.int IntKind.i64 1] 84) _ 0 hs2).trans hn0
  have hn1 := (World.cell?_alloc_past (Obj.cells #[Value.int IntKind.i64 (3600 * b), Value.int IntKind.i64 (60 * b), Value.int IntKind.i64 b, Value.int IntKind.i64 1] 84) _ 1 hs2).trans hn1
  have hn2 := (World.cell?_alloc_past (Obj.cells #[Value.int IntKind.i64 (3600 * b), Value.int IntKind.i64 (60 * b), Value.int IntKind.i64 b, Value.int IntKind.i64 1] 84) _ 2 hs2).trans hn2
  have kW : Below w.heap.size w (w2.alloc (Obj.cells #[Value.int IntKind.i64 (3600 * b), Value.int IntKind.i64 (60 * b), Value.int IntKind.i64 b, Value.int IntKind.i64 1] 84)) := k2.alloc k2.size _
  have hWs : (w2.alloc (Obj.cells #[Value.int IntKind.i64 (3600 * b), Value.int IntKind.i64 (60 * b), Value.int IntKind.i64 b, Value.int IntKind.i64 1] 84)).heap.size = w2.heap.size + 1 := by simp
  have hit0 := World.iter_heap (w2.alloc (Obj.cells #[Value.int IntKind.i64 (3600 * b), Value.int IntKind.i64 (60 * b), Value.int IntKind.i64 b, Value.int IntKind.i64 1] 84)) s 0
  have hbw0 : Below (w2.heap.size + 1) (w2.alloc (Obj.cells #[Value.int IntKind.i64 (3600 * b), Value.int IntKind.i64 (60 * b), Value.int IntKind.i64 b, Value.int IntKind.i64 1] 84)) ((w2.alloc (Obj.cells #[Value.int IntKind.i64 (3600 * b), Value.int IntKind.i64 (60 * b), Value.int IntKind.i64 b, Value.int IntKind.i64 1] 84)).iter s 0) := (Below.refl _ _).alloc (by rw [hWs]; exact Nat.le_refl _) _
  rw [hWs] at hit0
  clear hWs
  generalize (w2.alloc (Obj.cells #[Value.int IntKind.i64 (3600 * b), Value.int IntKind.i64 (60 * b), Value.int IntKind.i64 b, Value.int IntKind.i64 1] 84)) = W at *
  generalize W.iter s 0 = W0 at *
  go_loopw [7, 8, 9] (fun a c p wr => ∃ (pos fld : Nat) (num part : Int), a = .int .i64 fld ∧ c = .int .i64 num ∧ p = .int .i64 part ∧ fld ≤ 3 ∧ 0 ≤ part ∧ part < pw pos ∧ 0 ≤ num ∧ num ≤ 432000 * pw pos ∧ pos ≤ s.size ∧ wr.heap[w2.heap.size + 1]? = some (.stringIter s pos) ∧ Below (w2.heap.size + 1) W wr ∧ Hid (Pl.rf dr b (s.data.toList.drop pos) (fld, num, part) = R)) (fun _ _ _ wr => s.size - wr.iterPos (w2.heap.size + 1))
  case atStart => exact ⟨0, 0, 0, 0, rfl, rfl, rfl, by omega, by omega, by decide, by omega, by decide, by omega, hit0, hbw0, hR'⟩
  case round =>
    clear hit0 hbw0 hR'
    obtain ⟨pos, fld, num, part, rfl, rfl, rfl, hf, hp0, hp1, hq0, hq1, hps, hit, hnx, hrest⟩ := hrel
    have hsz : w2.heap.size + 1 < wr.heap.size := (Array.getElem?_eq_some_iff.1 hit).1
    obtain ⟨v0, v1⟩ := dv_bd b1 b2 fld
    by_cases hp : pos < s.size
    · obtain ⟨rn, wd, hdec, hr1, hr2, hr3, hr4⟩ := rune_of s pos hp
      obtain ⟨wr1, hwr1⟩ : ∃ x, x = wr.iterAt (w2.heap.size + 1) s (pos + wd) := ⟨_, rfl⟩
      have hnxt : ∀ ty, (Instr.next (.pointer (some ⟨w2.heap.size + 1, 0, none⟩)) true ty).run Tryz.prog wr = .ok (.tuple #[.bool true, .int .i64 pos, .int .i32 rn]) wr1 := fun ty => by
        have h := Lib.run_next_any_at (P := Tryz.prog) wr (w2.heap.size + 1) s pos ty hit hp
        rw [hdec] at h; rw [hwr1]; exact h
      have hit1 : wr1.heap[w2.heap.size + 1]? = some (.stringIter s (pos + wd)) := by rw [hwr1]; exact Lib.iterAt_heap wr (w2.heap.size + 1) s pos (pos + wd) hit
      have hnx1 : Below (w2.heap.size + 1) W wr1 := by rw [hwr1]; exact Lib.below_iterAt hnx (Nat.le_refl _) s (pos + wd)
      have hsz1 : w2.heap.size + 1 < wr1.heap.size := (Array.getElem?_eq_some_iff.1 hit1).1
      have hpw : pw pos ≤ 100000000000 := pw_le pos 11 (by omega)
      have hpw0 := pw_pos pos
      have hpws := pw_succ pos
      have hstep := rf_cons (dr := dr) (b := b) hp (fld, num, part)
      rw [unhide hrest] at hstep
      have m0 := (hnx1.cell (p := ⟨w.heap.size, 0, none⟩) (by show w.heap.size < _; omega)).trans hn0
      have m1 := (hnx1.cell (p := ⟨w.heap.size, 1, none⟩) (by show w.heap.size < _; omega)).trans hn1
      have m2 := (hnx1.cell (p := ⟨w.heap.size, 2, none⟩) (by show w.heap.size < _; omega)).trans hn2
      have m3 := (hnx1.cell (p := ⟨w2.heap.size, fld, none⟩) (by show w2.heap.size < _; omega)).trans (hdv fld hf)
      have hbig : ¬ (s[pos]'hp).toNat < 128 → 128 ≤ rn := hr4
      clear hdec hwr1 hrest hn0 hn1 hn2 hdv hnx hsz
      by_cases hdig : 48 ≤ rn ∧ rn ≤ 57
      · obtain ⟨d1, d2⟩ := hdig
        obtain ⟨e1, e2⟩ := hr3 (by omega)
        subst e2
        have hst : Hid (Pl.rf dr b (s.data.toList.drop (pos + 1)) (fld, num, 10 * part + ((rn : Int) - 48)) = R) := hide (by
          rw [hstep]
          have : Pl.rs dr b (fld, num, part) (s[pos]'hp) = some (fld, num, 10 * part + ((rn : Int) - 48)) := by
            unfold Pl.rs; rw [if_pos (by omega), e1]
          rw [this])
        have hpwm : Hid (pw (pos + 1) = 10 * pw pos) := hide hpws
        have g1 : (48 : Int) ≤ (rn : Int) := by omega
        have g2 : (rn : Int) ≤ 57 := by omega
        clear hstep hpws hr3 hr4 hbig e1
        generalize pw pos = P at *
        go_wp2
        go_roundw
        case rel => exact ⟨pos + 1, fld, num, 10 * part + ((rn : Int) - 48), rfl, rfl, rfl, hf, by omega, by rw [unhide hpwm]; omega, hq0, by rw [unhide hpwm]; omega, by omega, hit1, hnx1, hst⟩
        case measure => simp only [World.iterPos, hit1, hit]; omega
      · have hnd : ¬ (48 ≤ (s[pos]'hp).toNat ∧ (s[pos]'hp).toNat ≤ 57) := by
          intro hh
          have := hr3 (by omega)
          omega
        have mb := Pl.mul_bd hp0 (show part ≤ pw pos by omega) (show 0 ≤ Pl.dv b fld by omega) v1
        by_cases hf3 : fld < 3
        · obtain ⟨M, hM, hM0, hM1⟩ : ∃ M : Int, Hid (((Pl.fmk dr (fld + 1)).toNat : Int) = M) ∧ 58 ≤ M ∧ M ≤ 59 := ⟨_, hide rfl, by unfold Pl.fmk; split <;> simp, by unfold Pl.fmk; split <;> simp⟩
          have cm := hide (imark_val n d dr ((fld : Int) + 1) M (by rw [← unhide hM]; unfold fmark Pl.fmk; have : ((fld : Int) + 1 = 3) ↔ (fld + 1 = 3) := by omega
                                                                    simp only [this]))
          by_cases heq : (rn : Int) = M
          · obtain ⟨e1, e2⟩ := hr3 (by by_cases hlt : (s[pos]'hp).toNat < 128; exact hlt; exact absurd (hbig hlt) (by omega))
            subst e2
            have hce : s[pos]'hp = Pl.fmk dr (fld + 1) := u8_eq (by have := unhide hM; omega)
            have hst : Hid (Pl.rf dr b (s.data.toList.drop (pos + 1)) (fld + 1, num + part * Pl.dv b fld, 0) = R) := hide (by
              rw [hstep]
              have : Pl.rs dr b (fld, num, part) (s[pos]'hp) = some (fld + 1, num + part * Pl.dv b fld, 0) := by
                unfold Pl.rs; rw [if_neg hnd, if_pos ⟨hf3, hce⟩]
              rw [this])
            have hpwm : Hid (pw (pos + 1) = 10 * pw pos) := hide hpws
            have hd2 : decide ((rn : Int) ≤ 57) = false := by simp; omega
            have g1 : (48 : Int) ≤ (rn : Int) := by omega
            have heq' : ((rn : Int) == M) = true := by simpa using heq
            have hf3' : (fld : Int) + 1 < 4 := by omega
            clear hstep hpws hr3 hr4 hbig e1 hce hnd hM heq hdig
            generalize pw pos = P at *
            generalize Pl.dv b fld = D at *
            go_wp2_with fail
            refine (unhide cm _).mono ?_
            rintro e wr2 ⟨rfl, hbm⟩
            have hnx2 : Below (w2.heap.size + 1) W wr2 := hnx1.trans (hbm.mono (by omega))
            have hit2 : wr2.heap[w2.heap.size + 1]? = some (.stringIter s (pos + 1)) := (hbm.block _ hsz1).trans hit1
            have m3' : wr2.cell? ⟨w2.heap.size, fld, none⟩ = some (.int .i64 D) := cell_later hbm m3
            go_wp2
            go_roundw
            case rel => exact ⟨pos + 1, fld + 1, num + part * D, 0, by go_num, rfl, rfl, by omega, by omega, by rw [unhide hpwm]; omega, by omega, by rw [unhide hpwm]; omega, by omega, hit2, hnx2, hst⟩
            case measure => simp only [World.iterPos, hit2, hit]; omega
          · have hno : R = none := by
              rw [hstep, rs_no hnd (by
                rintro ⟨_, hc⟩
                simp only at hc
                have h1 : (s[pos]'hp).toNat < 128 := by rw [hc]; unfold Pl.fmk; split <;> simp
                have h2 := hr3 h1
                have h3 := unhide hM
                rw [← hc] at h3
                omega)]
            subst hno
            have heq' : ((rn : Int) == M) = false := by simpa using heq
            have hf3' : (fld : Int) + 1 < 4 := by omega
            clear hstep hpws hr3 hr4 hbig hnd hM
            generalize pw pos = P at *
            by_cases h48 : 48 ≤ rn
            · have g1 : (48 : Int) ≤ (rn : Int) := by omega
              have hd2 : decide ((rn : Int) ≤ 57) = false := by simp; omega
              clear heq hdig
              go_wp2_with fail
              refine (unhide cm _).mono ?_
              rintro e wr2 ⟨rfl, hbm⟩
              have hnx2 : Below (w2.heap.size + 1) W wr2 := hnx1.trans (hbm.mono (by omega))
              go_wp2
              go_ret2
              exact ⟨rfl, kW.trans (hnx2.mono (by omega))⟩
            · have hd1 : decide ((48 : Int) ≤ (rn : Int)) = false := by simp; omega
              clear heq hdig
              go_wp2_with fail
              refine (unhide cm _).mono ?_
              rintro e wr2 ⟨rfl, hbm⟩
              have hnx2 : Below (w2.heap.size + 1) W wr2 := hnx1.trans (hbm.mono (by omega))
              go_wp2
              go_ret2
              exact ⟨rfl, kW.trans (hnx2.mono (by omega))⟩
        · have hno : R = none := by
            rw [hstep, rs_no hnd (by rintro ⟨h, _⟩; exact hf3 h)]
          subst hno
          have hf3' : decide ((fld : Int) + 1 < 4) = false := by simp; omega
          clear hstep hpws hr3 hr4 hbig hnd
          generalize pw pos = P at *
          by_cases h48 : 48 ≤ rn
          · have g1 : (48 : Int) ≤ (rn : Int) := by omega
            have hd2 : decide ((rn : Int) ≤ 57) = false := by simp; omega
            clear hdig
            go_wp2
            go_ret2
            exact ⟨rfl, kW.trans (hnx1.mono (by omega))⟩
          · have hd1 : decide ((48 : Int) ≤ (rn : Int)) = false := by simp; omega
            clear hdig
            go_wp2
            go_ret2
            exact ⟨rfl, kW.trans (hnx1.mono (by omega))⟩
    · have hnxt : ∀ ty, (Instr.next (.pointer (some ⟨w2.heap.size + 1, 0, none⟩)) true ty).run Tryz.prog wr = .ok (.tuple #[.bool false]) wr := fun ty => Lib.run_next_end_at (P := Tryz.prog) wr (w2.heap.size + 1) s pos ty hit hp
      have hpe : pos = s.size := by omega
      have hR2 : R = some (num + part * Pl.dv b fld) := by
        rw [← unhide hrest, List.drop_eq_nil_of_le (by simp; omega)]; rfl
      subst hR2
      have hpw : pw pos ≤ 1000000000000 := pw_le pos 12 (by omega)
      have mb := Pl.mul_bd hp0 (show part ≤ pw pos by omega) (show 0 ≤ Pl.dv b fld by omega) v1
      have m3 := (hnx.cell (p := ⟨w2.heap.size, fld, none⟩) (by show w2.heap.size < _; omega)).trans (hdv fld hf)
      have hf4 : (fld : Int) < 4 := by omega
      clear hrest hpe hn0 hn1 hn2 hdv
      generalize pw pos = P at *
      go_wp2
      go_ret2
      exact ⟨⟨rfl, by omega, by omega⟩, kW.trans (hnx.mono (by omega))⟩

end Go.Proofs.YtfhbmfndjbdhcaaGreatDoor

namespace Go.Proofs.YtfhbmfndjbdhcaaGreatDoor
open Go.RowKit Go.Joins
set_option linter.unusedVariables false

theorem RD_no {n d : Int} {dr : Bool} {t : List UInt8} (h : ∀ f, Pl.tt n d dr f = t → t = []) : Pl.RD n d dr t 0 false := .inr ⟨rfl, rfl, h⟩

set_option maxHeartbeats 400000 in
theorem ird_r (n d : Int) (dr : Bool) (s : ByteArray) (w : World) (hr : Pl.rok n d dr = false) :
    Calls Tryz.prog 101 #[.agg #[.int .i64 n, .int .i64 d, .bool dr], .string s] w fun e w' => e = .returned (.tuple #[.int .i64 0, .bool false]) ∧ Below w.heap.size w w' := by
  have cb := hide (base_val 67 ibase_any n d dr 0 (Pl.base_zero hr))
  clear hr
  go_enter Tryz.func101, Tryz.ntmps101
  go_wp2_with fail
  refine (unhide cb _).mono ?_
  rintro e w1 ⟨rfl, hb⟩
  go_wp2
  go_ret2
  exact ⟨rfl, below_box hb⟩

set_option maxHeartbeats 400000 in
theorem ird_l (n d : Int) (dr : Bool) (s : ByteArray) (w : World) (hs : s.size ≤ maxLen) (hr : Pl.rok n d dr = true) (hl : ¬ (s.size : Int) = tbytes (Pl.base n d dr)) :
    Calls Tryz.prog 101 #[.agg #[.int .i64 n, .int .i64 d, .bool dr], .string s] w fun e w' => e = .returned (.tuple #[.int .i64 0, .bool false]) ∧ Below w.heap.size w w' := by
  unfold maxLen at hs
  obtain ⟨b1, b2⟩ := Pl.base_bd hr
  have cb := hide (base_val 67 ibase_any n d dr _ rfl)
  clear hr
  generalize Pl.base n d dr = b at *
  have hz : (b == 0) = false := by simp; omega
  have hl' : ((s.size : Int) != tbytes b) = true := by simpa using hl
  go_enter Tryz.func101, Tryz.ntmps101
  go_wp2_with fail
  refine (unhide cb _).mono ?_
  rintro e w1 ⟨rfl, hb⟩
  go_wp2_with fail
  refine (itb_any b _).mono ?_
  rintro e w2 ⟨rfl, rfl⟩
  go_wp2
  go_ret2
  exact ⟨rfl, below_box hb⟩

set_option maxHeartbeats 800000 in
theorem ird_m (n d : Int) (dr : Bool) (s : ByteArray) (w : World) (hr : Pl.rok n d dr = true) (hl : (s.size : Int) = tbytes (Pl.base n d dr)) :
    Calls Tryz.prog 101 #[.agg #[.int .i64 n, .int .i64 d, .bool dr], .string s] w fun e w' => ∃ x ok, e = .returned (.tuple #[.int .i64 x, .bool ok]) ∧ Pl.RD n d dr s.data.toList x ok ∧ Below w.heap.size w w' := by
  obtain ⟨b1, b2⟩ := Pl.base_bd hr
  have cb := hide (base_val 67 ibase_any n d dr _ rfl)
  have hs12 : s.size ≤ 12 := by unfold tbytes at hl; split at hl <;> omega
  have hs11 : 11 ≤ s.size := by unfold tbytes at hl; split at hl <;> omega
  have cr := hide (fun w => iread_any n d dr s w hr hs12)
  have cf := hide (fun x w h0 h1 => icf_any n d dr x w hr h0 h1)
  have hread : Hid (∀ f, Pl.tt n d dr f = s.data.toList → Pl.rf dr (Pl.base n d dr) s.data.toList (0, 0, 0) = some (Pl.clk n dr f) ∧ Pl.cf n dr (Pl.base n d dr) (Pl.clk n dr f) = f) := hide (fun f hf => Pl.tt_read hf (by
    intro h0
    have h1 : s.data.toList.length = s.size := by simp
    rw [h0] at h1; simp at h1; omega))
  have hne : Hid (s.data.toList ≠ []) := hide (by
    intro h0
    have h1 : s.data.toList.length = s.size := by simp
    rw [h0] at h1; simp at h1; omega)
  clear hr
  generalize Pl.base n d dr = b at *
  have hz : (b == 0) = false := by simp; omega
  have hl' : ((s.size : Int) != tbytes b) = false := by simpa using hl
  clear hl
  go_enter Tryz.func101, Tryz.ntmps101
  go_wp2_with fail
  refine (unhide cb _).mono ?_
  rintro e w1 ⟨rfl, hb⟩
  have hc1 := (bcell hb).1
  have k1 := below_box hb
  have hs1 : w.heap.size < w1.heap.size := by have := hb.size; simp at this; omega
  go_wp2_with fail
  refine (itb_any b _).mono ?_
  rintro e w2 ⟨rfl, rfl⟩
  go_wp2_with fail
  refine (unhide cr _).mono ?_
  cases hR : Pl.rf dr b s.data.toList (0, 0, 0) with
  | none =>
    rintro e w3 ⟨rfl, hb3⟩
    have hfin : Hid (Pl.RD n d dr s.data.toList 0 false) := hide (RD_no (fun f hf => by
      have := (unhide hread f hf).1
      rw [hR] at this; cases this))
    have k3 := k1.trans (hb3.mono k1.size)
    clear hR hread hc1
    go_wp2
    go_ret2
    exact ⟨0, false, rfl, unhide hfin, k3⟩
  | some x =>
    rintro e w3 ⟨⟨rfl, x0, x1⟩, hb3⟩
    have hR' := hide hR
    clear hR
    have hc3 := (bcell hb3).1
    have k3 := k1.trans (hb3.mono k1.size)
    have hs3 : w.heap.size < w3.heap.size := by have := hb3.size; omega
    go_wp2_with fail
    refine (unhide cf x _ x0 x1).mono ?_
    rintro e w4 ⟨rfl, hb4⟩
    have hc4 := (bcell hb4).1
    have k4 := k3.trans (hb4.mono k3.size)
    generalize hF : Pl.cf n dr b x = F
    have hF' := hide hF
    clear hF
    go_wp2_with fail
    refine (itext_any n d dr F _).mono ?_
    rintro e w5 ⟨rfl, hb5⟩
    have k5 := k4.trans (hb5.mono k4.size)
    by_cases heq : Pl.tt n d dr F = s.data.toList
    · have hfin : Hid (Pl.RD n d dr s.data.toList F true) := hide (.inl ⟨rfl, unhide hne, heq⟩)
      have hcmp : ((Pl.tt n d dr F) == s.toList) = true := by rw [ByteArray.toList_eq]; simpa using heq
      clear heq hc1 hc3 hc4
      go_wp2
      go_ret2
      exact ⟨F, true, rfl, unhide hfin, k5⟩
    · have hfin : Hid (Pl.RD n d dr s.data.toList 0 false) := hide (RD_no (fun f hf => by
        obtain ⟨a1, a2⟩ := unhide hread f hf
        rw [unhide hR'] at a1
        have : x = Pl.clk n dr f := Option.some.inj a1
        rw [← this, unhide hF'] at a2
        rw [a2] at heq; exact absurd hf heq))
      have hcmp : ((Pl.tt n d dr F) == s.toList) = false := by rw [ByteArray.toList_eq]; simpa using heq
      clear heq hc1 hc3 hc4
      go_wp2
      go_ret2
      exact ⟨0, false, rfl, unhide hfin, k5⟩

theorem ird_any (n d : Int) (dr : Bool) (s : ByteArray) (w : World) (hs : s.size ≤ maxLen) :
    Calls Tryz.prog 101 #[.agg #[.int .i64 n, .int .i64 d, .bool dr], .string s] w fun e w' => ∃ x ok, e = .returned (.tuple #[.int .i64 x, .bool ok]) ∧ Pl.RD n d dr s.data.toList x ok ∧ Below w.heap.size w w' := by
  cases hr : Pl.rok n d dr
  · refine (ird_r n d dr s w hr).mono fun e w' ⟨h1, h2⟩ => ⟨0, false, h1, RD_no (fun f hf => ?_), h2⟩
    rw [tt_no1 hr] at hf; exact hf.symm
  · by_cases hl : (s.size : Int) = tbytes (Pl.base n d dr)
    · exact ird_m n d dr s w hr hl
    · refine (ird_l n d dr s w hs hr hl).mono fun e w' ⟨h1, h2⟩ => ⟨0, false, h1, RD_no (fun f hf => ?_), h2⟩
      by_cases h0 : s.data.toList = []
      · exact h0
      · have h3 := Pl.tt_length (n := n) (d := d) (dr := dr) (f := f) (by rw [hf]; exact h0)
        rw [hf] at h3
        have h4 : s.data.toList.length = s.size := by simp
        exfalso
        apply hl
        unfold tbytes
        split at h3 <;> split <;> omega

end Go.Proofs.YtfhbmfndjbdhcaaGreatDoor

namespace Go.Proofs.YtfhbmfndjbdhcaaGreatDoor
open Go.RowKit
set_option linter.unusedVariables false
set_option linter.unusedSimpArgs false

theorem blk4 {X : World} {b : Nat} {t : TypeId} {v0 v1 v2 v3 : Value} (h : X.heap[b]? = some (.cells #[v0, v1, v2, v3] t (0, 0))) :
    X.cell? ⟨b, 0, none⟩ = some v0 ∧ X.cell? ⟨b, 1, none⟩ = some v1 ∧ X.cell? ⟨b, 2, none⟩ = some v2 ∧ X.cell? ⟨b, 3, none⟩ = some v3 := by
  refine ⟨?_, ?_, ?_, ?_⟩ <;> simp [World.cell?, h]
theorem blk4f {X : World} {b : Nat} {t : TypeId} {v0 v1 v2 v3 : Value} (h : X.heap[b]? = some (.cells #[v0, v1, v2, v3] t (0, 0))) :
    X.frozen? ⟨b, 0, none⟩ = false ∧ X.frozen? ⟨b, 1, none⟩ = false ∧ X.frozen? ⟨b, 2, none⟩ = false ∧ X.frozen? ⟨b, 3, none⟩ = false := by
  refine ⟨?_, ?_, ?_, ?_⟩ <;> exact Lib.frozen_of_heap h _
theorem put4 {X : World} {q : Nat} {t : TypeId} {a0 a1 a2 a3 v0 v1 v2 v3 : Value} (h : X.heap[q]? = some (.cells #[a0, a1, a2, a3] t (0, 0))) :
    ((((X.setCell ⟨q, 0, none⟩ v0).setCell ⟨q, 1, none⟩ v1).setCell ⟨q, 2, none⟩ v2).setCell ⟨q, 3, none⟩ v3).heap[q]? = some (.cells #[v0, v1, v2, v3] t (0, 0)) := by
  simp [World.setCell, h, Array.getElem?_modify]
theorem set4_belowB {w X : World} {B q : Nat} {v0 v1 v2 v3 : Value} (hb : Below B w X) (h : B ≤ q) :
    Below B w ((((X.setCell ⟨q, 0, none⟩ v0).setCell ⟨q, 1, none⟩ v1).setCell ⟨q, 2, none⟩ v2).setCell ⟨q, 3, none⟩ v3) :=
  (((hb.setCell (p := ⟨q, 0, none⟩) h _).setCell (p := ⟨q, 1, none⟩) h _).setCell (p := ⟨q, 2, none⟩) h _).setCell (p := ⟨q, 3, none⟩) h _
theorem blk6 {X : World} {b : Nat} {t : TypeId} {v0 v1 v2 v3 v4 v5 : Value} (h : X.heap[b]? = some (.cells #[v0, v1, v2, v3, v4, v5] t (0, 0))) :
    X.cell? ⟨b, 0, none⟩ = some v0 ∧ X.cell? ⟨b, 1, none⟩ = some v1 ∧ X.cell? ⟨b, 2, none⟩ = some v2 ∧ X.cell? ⟨b, 3, none⟩ = some v3 ∧ X.cell? ⟨b, 4, none⟩ = some v4 ∧ X.cell? ⟨b, 5, none⟩ = some v5 := by
  refine ⟨?_, ?_, ?_, ?_, ?_, ?_⟩ <;> simp [World.cell?, h]
theorem set_blk {X : World} {b q o : Nat} {v : Value} {ob : Obj} (h : X.heap[b]? = some ob) (hq : b ≠ q) : (X.setCell ⟨q, o, none⟩ v).heap[b]? = some ob := by rw [Below.heap_setCell _ _ _ _ hq]; exact h

theorem one4_0 {X : World} {q : Nat} {t : TypeId} {a0 a1 a2 a3 v : Value} (h : X.heap[q]? = some (.cells #[a0, a1, a2, a3] t (0, 0))) : (X.setCell ⟨q, 0, none⟩ v).heap[q]? = some (.cells #[v, a1, a2, a3] t (0, 0)) := by
  simp [World.setCell, h, Array.getElem?_modify]

theorem one4_1 {X : World} {q : Nat} {t : TypeId} {a0 a1 a2 a3 v : Value} (h : X.heap[q]? = some (.cells #[a0, a1, a2, a3] t (0, 0))) : (X.setCell ⟨q, 1, none⟩ v).heap[q]? = some (.cells #[a0, v, a2, a3] t (0, 0)) := by
  simp [World.setCell, h, Array.getElem?_modify]

theorem one4_2 {X : World} {q : Nat} {t : TypeId} {a0 a1 a2 a3 v : Value} (h : X.heap[q]? = some (.cells #[a0, a1, a2, a3] t (0, 0))) : (X.setCell ⟨q, 2, none⟩ v).heap[q]? = some (.cells #[a0, a1, v, a3] t (0, 0)) := by
  simp [World.setCell, h, Array.getElem?_modify]

theorem one4_3 {X : World} {q : Nat} {t : TypeId} {a0 a1 a2 a3 v : Value} (h : X.heap[q]? = some (.cells #[a0, a1, a2, a3] t (0, 0))) : (X.setCell ⟨q, 3, none⟩ v).heap[q]? = some (.cells #[a0, a1, a2, v] t (0, 0)) := by
  simp [World.setCell, h, Array.getElem?_modify]

/-- what the times of a line are told as -/
def TmP (n d : Int) (dr : Bool) (X0 X1 X2 X3 : ByteArray) (w : World) (e : Ending) (w' : World) : Prop :=
  (∃ x0 x1 x2 x3, (Pl.RD n d dr X0.data.toList x0 true ∧ Pl.RD n d dr X1.data.toList x1 true ∧ Pl.RD n d dr X2.data.toList x2 true ∧ Pl.RD n d dr X3.data.toList x3 true) ∧ e = .returned (.tuple #[.agg #[.int .i64 x0, .int .i64 x1, .int .i64 x2, .int .i64 x3], .nilIface]) ∧ Below w.heap.size w w') ∨
  (∃ x0 x1 x2 x3, (∃ X : ByteArray, (X = X0 ∨ X = X1 ∨ X = X2 ∨ X = X3) ∧ Pl.RD n d dr X.data.toList 0 false) ∧ e = .returned (.tuple #[.agg #[.int .i64 x0, .int .i64 x1, .int .i64 x2, .int .i64 x3], .iface 92 (.int .i64 7)]) ∧ Below w.heap.size w w')
/-- the first k times are read -/
def RdK (n d : Int) (dr : Bool) (X0 X1 X2 X3 : ByteArray) (k : Nat) (x0 x1 x2 x3 : Int) : Prop :=
  (0 < k → Pl.RD n d dr X0.data.toList x0 true) ∧ (1 < k → Pl.RD n d dr X1.data.toList x1 true) ∧ (2 < k → Pl.RD n d dr X2.data.toList x2 true) ∧ (3 < k → Pl.RD n d dr X3.data.toList x3 true)

set_option maxRecDepth 100000 in
set_option maxHeartbeats 1000000 in
theorem itimes_any (n d : Int) (dr : Bool) (R : Nat) (mp tr en : Value) (X0 X1 X2 X3 : ByteArray) (w : World) (hR : w.heap[R]? = some (.cells #[.int .i64 n, .int .i64 d, .bool dr, mp, tr, en] 98 (0, 0)))
    (h0 : X0.size ≤ 20000) (h1 : X1.size ≤ 20000) (h2 : X2.size ≤ 20000) (h3 : X3.size ≤ 20000) :
    Calls Tryz.prog 86 #[.pointer (some ⟨R, 0, none⟩), .agg #[.string X0, .string X1, .string X2, .string X3]] w (TmP n d dr X0 X1 X2 X3 w) := by
  have hP := hide (fun (e : Ending) (w' : World) (h : TmP n d dr X0 X1 X2 X3 w e w') => h)
  have hmx : (20000 : Nat) ≤ maxLen := by unfold maxLen; omega
  obtain ⟨Wa, hWa⟩ : ∃ X, w.alloc (.cells #[.string X0, .string X1, .string X2, .string X3] 132) = X := ⟨_, rfl⟩
  obtain ⟨Wb, hWb⟩ : ∃ X, Wa.alloc (.cells #[.int .i64 0, .int .i64 0, .int .i64 0, .int .i64 0] 84) = X := ⟨_, rfl⟩
  have kc : Below w.heap.size w (Wb.alloc (.cells #[.int .i64 0, .int .i64 0, .int .i64 0, .int .i64 0] 84)) := by
    rw [← hWb, ← hWa]
    exact (((Below.refl _ w).alloc (Nat.le_refl _) _).alloc (by simp) _).alloc (by simp; omega) _
  have za : Wa.heap.size = w.heap.size + 1 := by rw [← hWa]; simp
  have zb : Wb.heap.size = Wa.heap.size + 1 := by rw [← hWb]; simp
  have P1 : Wb.heap[Wa.heap.size]? = some (.cells #[.int .i64 0, .int .i64 0, .int .i64 0, .int .i64 0] 84 (0, 0)) := by rw [← hWb]; exact alloc_new _ _
  have P2 := alloc_new Wb (.cells #[.int .i64 0, .int .i64 0, .int .i64 0, .int .i64 0] 84)
  have P1' : (Wb.alloc (.cells #[.int .i64 0, .int .i64 0, .int .i64 0, .int .i64 0] 84)).heap[Wa.heap.size]? = some (.cells #[.int .i64 0, .int .i64 0, .int .i64 0, .int .i64 0] 84 (0, 0)) := by rw [Below.heap_alloc _ _ _ (by omega)]; exact P1
  have hWa' := hide hWa
  have hWb' := hide hWb
  obtain ⟨c0, c1, c2, c3, c4, c5⟩ := blk6 hR
  clear hWa hWb
  go_enter Tryz.func86, Tryz.ntmps86
  go_wp2_with fail
  rw [unhide hWa', unhide hWb']
  have g1 := P1'
  have g2 := P2
  rw [za] at g1 zb
  rw [zb] at g2
  have hRs : R < w.heap.size := (Array.getElem?_eq_some_iff.1 hR).1
  clear hWa' hWb' P1 P1' P2 zb za
  generalize Wb.alloc (.cells #[.int .i64 0, .int .i64 0, .int .i64 0, .int .i64 0] 84) = Wc at *
  generalize hQ : w.heap.size = Q at *
  generalize hQ1 : Q + 1 = Q1 at *
  generalize hQ2 : Q1 + 1 = Q2 at *
  have ix0 : ∀ w, (Instr.index 132 (.agg #[.string X0, .string X1, .string X2, .string X3]) (.int .i64 0)).run Tryz.prog w = .ok (.string X0) w := fun _ => by kernel_rfl
  have ix1 : ∀ w, (Instr.index 132 (.agg #[.string X0, .string X1, .string X2, .string X3]) (.int .i64 1)).run Tryz.prog w = .ok (.string X1) w := fun _ => by kernel_rfl
  have ix2 : ∀ w, (Instr.index 132 (.agg #[.string X0, .string X1, .string X2, .string X3]) (.int .i64 2)).run Tryz.prog w = .ok (.string X2) w := fun _ => by kernel_rfl
  have ix3 : ∀ w, (Instr.index 132 (.agg #[.string X0, .string X1, .string X2, .string X3]) (.int .i64 3)).run Tryz.prog w = .ok (.string X3) w := fun _ => by kernel_rfl
  have hr0 := hide hR
  have kc0 := hide kc
  clear hR kc c0 c1 c2 c3 c4 c5
  go_loopw [13] (fun t wr => ∃ (k : Nat) (x0 x1 x2 x3 : Int), k ≤ 4 ∧ t = .int .i64 k ∧ Hid (RdK n d dr X0 X1 X2 X3 k x0 x1 x2 x3) ∧ wr.heap[Q1]? = some (.cells #[.int .i64 0, .int .i64 0, .int .i64 0, .int .i64 0] 84 (0, 0)) ∧ wr.heap[Q2]? = some (.cells #[.int .i64 x0, .int .i64 x1, .int .i64 x2, .int .i64 x3] 84 (0, 0)) ∧ Below Q w wr) (fun t _ => 4 - (intOf t).toNat)
  case atStart => exact ⟨0, 0, 0, 0, 0, by omega, rfl, hide ⟨fun h => by omega, fun h => by omega, fun h => by omega, fun h => by omega⟩, g1, g2, unhide kc0⟩
  case round =>
    obtain ⟨k, x0, x1, x2, x3, hk4, rfl, hrd, G1, G2, kw⟩ := hrel
    have hRw : wr.heap[R]? = some (.cells #[.int .i64 n, .int .i64 d, .bool dr, mp, tr, en] 98 (0, 0)) := by rw [kw.block R hRs]; exact unhide hr0
    obtain ⟨c0, c1, c2, c3, c4, c5⟩ := blk6 hRw
    have hsz : Q2 < wr.heap.size := (Array.getElem?_eq_some_iff.1 G2).1
    obtain rfl | rfl | rfl | rfl | rfl : k = 0 ∨ k = 1 ∨ k = 2 ∨ k = 3 ∨ k = 4 := by omega
    · rw [show ((0 : Nat) : Int) = 0 from rfl]
      go_wp2_with fail
      refine (ird_any n d dr X0 wr (by omega)).mono ?_
      rintro e w2 ⟨x, ok, rfl, hx, k2⟩
      have G1 := blk_below G1 k2
      have G2 := blk_below G2 k2
      have kw : Below Q w w2 := kw.trans (k2.mono (by have := kw.size; omega))
      clear c0 c1 c2 c3 c4 c5 k2 hRw
      obtain ⟨m0, m1, m2, m3⟩ := blk4 G2
      obtain ⟨f0, f1, f2, f3⟩ := blk4f G2
      cases ok
      · obtain ⟨y0, y1, y2, y3⟩ := blk4f G1
        obtain ⟨z0, z1, z2, z3⟩ := blk4 G1
        have hx0 : x = 0 := by
          rcases hx with ⟨h, _⟩ | ⟨_, h, _⟩
          · cases h
          · exact h
        subst hx0
        have hx' := hide hx
        clear hx
        go_wp2
        have P9 := put4 (v0 := .int .i64 x0) (v1 := .int .i64 x1) (v2 := .int .i64 x2) (v3 := .int .i64 x3) G1
        have B9 := set4_belowB (v0 := .int .i64 x0) (v1 := .int .i64 x1) (v2 := .int .i64 x2) (v3 := .int .i64 x3) kw (show Q ≤ Q1 by omega)
        clear m0 m1 m2 m3 f0 f1 f2 f3 y0 y1 y2 y3 z0 z1 z2 z3
        generalize (((w2.setCell ⟨Q1, 0, none⟩ (.int .i64 x0)).setCell ⟨Q1, 1, none⟩ (.int .i64 x1)).setCell ⟨Q1, 2, none⟩ (.int .i64 x2)).setCell ⟨Q1, 3, none⟩ (.int .i64 x3) = W9 at *
        obtain ⟨o0, o1, o2, o3⟩ := blk4 P9
        refine bodyPost_ret (v := .tuple #[.agg #[.int .i64 x0, .int .i64 x1, .int .i64 x2, .int .i64 x3], .iface 92 (.int .i64 7)]) (by simp [results, Tryz.results86, go_sem, o0, o1, o2, o3]) rfl ?_
        exact unhide hP _ _ (.inr ⟨x0, x1, x2, x3, ⟨X0, by simp, unhide hx'⟩, rfl, by rw [hQ]; exact B9⟩)
      · have hx' := hide hx
        clear hx
        go_wp2_with fail
        go_roundw
        case rel =>
          have hx := unhide hx'
          obtain ⟨r0, r1, r2, r3⟩ := unhide hrd
          exact ⟨1, x, x1, x2, x3, by omega, by first | rfl | trivial, hide ⟨fun h => hx, fun h => by omega, fun h => by omega, fun h => by omega⟩, set_blk G1 (by omega), one4_0 G2, kw.setCell (p := ⟨Q2, 0, none⟩) (show Q ≤ Q2 by omega) _⟩
        case measure => simp [intOf]
    · rw [show ((1 : Nat) : Int) = 1 from rfl]
      go_wp2_with fail
      refine (ird_any n d dr X1 wr (by omega)).mono ?_
      rintro e w2 ⟨x, ok, rfl, hx, k2⟩
      have G1 := blk_below G1 k2
      have G2 := blk_below G2 k2
      have kw : Below Q w w2 := kw.trans (k2.mono (by have := kw.size; omega))
      clear c0 c1 c2 c3 c4 c5 k2 hRw
      obtain ⟨m0, m1, m2, m3⟩ := blk4 G2
      obtain ⟨f0, f1, f2, f3⟩ := blk4f G2
      cases ok
      · obtain ⟨y0, y1, y2, y3⟩ := blk4f G1
        obtain ⟨z0, z1, z2, z3⟩ := blk4 G1
        have hx0 : x = 0 := by
          rcases hx with ⟨h, _⟩ | ⟨_, h, _⟩
          · cases h
          · exact h
        subst hx0
        have hx' := hide hx
        clear hx
        go_wp2
        have P9 := put4 (v0 := .int .i64 x0) (v1 := .int .i64 x1) (v2 := .int .i64 x2) (v3 := .int .i64 x3) G1
        have B9 := set4_belowB (v0 := .int .i64 x0) (v1 := .int .i64 x1) (v2 := .int .i64 x2) (v3 := .int .i64 x3) kw (show Q ≤ Q1 by omega)
        clear m0 m1 m2 m3 f0 f1 f2 f3 y0 y1 y2 y3 z0 z1 z2 z3
        generalize (((w2.setCell ⟨Q1, 0, none⟩ (.int .i64 x0)).setCell ⟨Q1, 1, none⟩ (.int .i64 x1)).setCell ⟨Q1, 2, none⟩ (.int .i64 x2)).setCell ⟨Q1, 3, none⟩ (.int .i64 x3) = W9 at *
        obtain ⟨o0, o1, o2, o3⟩ := blk4 P9
        refine bodyPost_ret (v := .tuple #[.agg #[.int .i64 x0, .int .i64 x1, .int .i64 x2, .int .i64 x3], .iface 92 (.int .i64 7)]) (by simp [results, Tryz.results86, go_sem, o0, o1, o2, o3]) rfl ?_
        exact unhide hP _ _ (.inr ⟨x0, x1, x2, x3, ⟨X1, by simp, unhide hx'⟩, rfl, by rw [hQ]; exact B9⟩)
      · have hx' := hide hx
        clear hx
        go_wp2_with fail
        go_roundw
        case rel =>
          have hx := unhide hx'
          obtain ⟨r0, r1, r2, r3⟩ := unhide hrd
          exact ⟨2, x0, x, x2, x3, by omega, by first | rfl | trivial, hide ⟨fun h => r0 (by omega), fun h => hx, fun h => by omega, fun h => by omega⟩, set_blk G1 (by omega), one4_1 G2, kw.setCell (p := ⟨Q2, 1, none⟩) (show Q ≤ Q2 by omega) _⟩
        case measure => simp [intOf]
    · rw [show ((2 : Nat) : Int) = 2 from rfl]
      go_wp2_with fail
      refine (ird_any n d dr X2 wr (by omega)).mono ?_
      rintro e w2 ⟨x, ok, rfl, hx, k2⟩
      have G1 := blk_below G1 k2
      have G2 := blk_below G2 k2
      have kw : Below Q w w2 := kw.trans (k2.mono (by have := kw.size; omega))
      clear c0 c1 c2 c3 c4 c5 k2 hRw
      obtain ⟨m0, m1, m2, m3⟩ := blk4 G2
      obtain ⟨f0, f1, f2, f3⟩ := blk4f G2
      cases ok
      · obtain ⟨y0, y1, y2, y3⟩ := blk4f G1
        obtain ⟨z0, z1, z2, z3⟩ := blk4 G1
        have hx0 : x = 0 := by
          rcases hx with ⟨h, _⟩ | ⟨_, h, _⟩
          · cases h
          · exact h
        subst hx0
        have hx' := hide hx
        clear hx
        go_wp2
        have P9 := put4 (v0 := .int .i64 x0) (v1 := .int .i64 x1) (v2 := .int .i64 x2) (v3 := .int .i64 x3) G1
        have B9 := set4_belowB (v0 := .int .i64 x0) (v1 := .int .i64 x1) (v2 := .int .i64 x2) (v3 := .int .i64 x3) kw (show Q ≤ Q1 by omega)
        clear m0 m1 m2 m3 f0 f1 f2 f3 y0 y1 y2 y3 z0 z1 z2 z3
        generalize (((w2.setCell ⟨Q1, 0, none⟩ (.int .i64 x0)).setCell ⟨Q1, 1, none⟩ (.int .i64 x1)).setCell ⟨Q1, 2, none⟩ (.int .i64 x2)).setCell ⟨Q1, 3, none⟩ (.int .i64 x3) = W9 at *
        obtain ⟨o0, o1, o2, o3⟩ := blk4 P9
        refine bodyPost_ret (v := .tuple #[.agg #[.int .i64 x0, .int .i64 x1, .int .i64 x2, .int .i64 x3], .iface 92 (.int .i64 7)]) (by simp [results, Tryz.results86, go_sem, o0, o1, o2, o3]) rfl ?_
        exact unhide hP _ _ (.inr ⟨x0, x1, x2, x3, ⟨X2, by simp, unhide hx'⟩, rfl, by rw [hQ]; exact B9⟩)
      · have hx' := hide hx
        clear hx
        go_wp2_with fail
        go_roundw
        case rel =>
          have hx := unhide hx'
          obtain ⟨r0, r1, r2, r3⟩ := unhide hrd
          exact ⟨3, x0, x1, x, x3, by omega, by first | rfl | trivial, hide ⟨fun h => r0 (by omega), fun h => r1 (by omega), fun h => hx, fun h => by omega⟩, set_blk G1 (by omega), one4_2 G2, kw.setCell (p := ⟨Q2, 2, none⟩) (show Q ≤ Q2 by omega) _⟩
        case measure => simp [intOf]
    · rw [show ((3 : Nat) : Int) = 3 from rfl]
      go_wp2_with fail
      refine (ird_any n d dr X3 wr (by omega)).mono ?_
      rintro e w2 ⟨x, ok, rfl, hx, k2⟩
      have G1 := blk_below G1 k2
      have G2 := blk_below G2 k2
      have kw : Below Q w w2 := kw.trans (k2.mono (by have := kw.size; omega))
      clear c0 c1 c2 c3 c4 c5 k2 hRw
      obtain ⟨m0, m1, m2, m3⟩ := blk4 G2
      obtain ⟨f0, f1, f2, f3⟩ := blk4f G2
      cases ok
      · obtain ⟨y0, y1, y2, y3⟩ := blk4f G1
        obtain ⟨z0, z1, z2, z3⟩ := blk4 G1
        have hx0 : x = 0 := by
          rcases hx with ⟨h, _⟩ | ⟨_, h, _⟩
          · cases h
          · exact h
        subst hx0
        have hx' := hide hx
        clear hx
        go_wp2
        have P9 := put4 (v0 := .int .i64 x0) (v1 := .int .i64 x1) (v2 := .int .i64 x2) (v3 := .int .i64 x3) G1
        have B9 := set4_belowB (v0 := .int .i64 x0) (v1 := .int .i64 x1) (v2 := .int .i64 x2) (v3 := .int .i64 x3) kw (show Q ≤ Q1 by omega)
        clear m0 m1 m2 m3 f0 f1 f2 f3 y0 y1 y2 y3 z0 z1 z2 z3
        generalize (((w2.setCell ⟨Q1, 0, none⟩ (.int .i64 x0)).setCell ⟨Q1, 1, none⟩ (.int .i64 x1)).setCell ⟨Q1, 2, none⟩ (.int .i64 x2)).setCell ⟨Q1, 3, none⟩ (.int .i64 x3) = W9 at *
        obtain ⟨o0, o1, o2, o3⟩ := blk4 P9
        refine bodyPost_ret (v := .tuple #[.agg #[.int .i64 x0, .int .i64 x1, .int .i64 x2, .int .i64 x3], .iface 92 (.int .i64 7)]) (by simp [results, Tryz.results86, go_sem, o0, o1, o2, o3]) rfl ?_
        exact unhide hP _ _ (.inr ⟨x0, x1, x2, x3, ⟨X3, by simp, unhide hx'⟩, rfl, by rw [hQ]; exact B9⟩)
      · have hx' := hide hx
        clear hx
        go_wp2_with fail
        go_roundw
        case rel =>
          have hx := unhide hx'
          obtain ⟨r0, r1, r2, r3⟩ := unhide hrd
          exact ⟨4, x0, x1, x2, x, by omega, by first | rfl | trivial, hide ⟨fun h => r0 (by omega), fun h => r1 (by omega), fun h => r2 (by omega), fun h => hx⟩, set_blk G1 (by omega), one4_3 G2, kw.setCell (p := ⟨Q2, 3, none⟩) (show Q ≤ Q2 by omega) _⟩
        case measure => simp [intOf]
    · rw [show ((4 : Nat) : Int) = 4 from rfl]
      obtain ⟨m0, m1, m2, m3⟩ := blk4 G2
      obtain ⟨y0, y1, y2, y3⟩ := blk4f G1
      obtain ⟨z0, z1, z2, z3⟩ := blk4 G1
      clear c0 c1 c2 c3 c4 c5
      go_wp2
      have P9 := put4 (v0 := .int .i64 x0) (v1 := .int .i64 x1) (v2 := .int .i64 x2) (v3 := .int .i64 x3) G1
      have B9 := set4_belowB (v0 := .int .i64 x0) (v1 := .int .i64 x1) (v2 := .int .i64 x2) (v3 := .int .i64 x3) kw (show Q ≤ Q1 by omega)
      clear m0 m1 m2 m3 y0 y1 y2 y3 z0 z1 z2 z3
      generalize (((wr.setCell ⟨Q1, 0, none⟩ (.int .i64 x0)).setCell ⟨Q1, 1, none⟩ (.int .i64 x1)).setCell ⟨Q1, 2, none⟩ (.int .i64 x2)).setCell ⟨Q1, 3, none⟩ (.int .i64 x3) = W9 at *
      obtain ⟨o0, o1, o2, o3⟩ := blk4 P9
      refine bodyPost_ret (v := .tuple #[.agg #[.int .i64 x0, .int .i64 x1, .int .i64 x2, .int .i64 x3], .nilIface]) (by simp [results, Tryz.results86, go_sem, o0, o1, o2, o3]) rfl ?_
      obtain ⟨r0, r1, r2, r3⟩ := unhide hrd
      exact unhide hP _ _ (.inl ⟨x0, x1, x2, x3, ⟨r0 (by omega), r1 (by omega), r2 (by omega), r3 (by omega)⟩, rfl, by rw [hQ]; exact B9⟩)
end Go.Proofs.YtfhbmfndjbdhcaaGreatDoor
