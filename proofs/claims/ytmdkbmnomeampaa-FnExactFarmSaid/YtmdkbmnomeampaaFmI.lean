/-
  Contracts of what the program's Farm calls: what has ended, the first task that is ready, the next end; nothing that was there is written.
-/
import Derived.Test.YtmdkbmnomeampaaFmP
import Derived.Test.YtmdkbmnomeampaaJbI
namespace Go.Proofs.Ytmdkbmnomeampaa
open Go.RowKit
set_option linter.unusedVariables false
set_option linter.unusedSimpArgs false

theorem hvE_cons (ends : List Int) (now x : Int) (l : List Int) : hvE ends now (x :: l) = (!(ends.getD x.toNat 0 == 0) && decide (ends.getD x.toNat 0 ≤ now) && hvE ends now l) := by simp [hvE]
set_option maxHeartbeats 1600000 in
theorem ihav_any (a e : Option Addr) (ca ce : Nat) (zs ends : List Int) (now : Int) (w : World) (hl : zs.length ≤ maxLen) (hle : ends.length ≤ maxLen) (hr : Ins w a zs) (he : Ins w e ends) (hx : ∀ x ∈ zs, 0 ≤ x ∧ x < ends.length) :
    Calls Try.prog 64 #[.slice a zs.length ca, .slice e ends.length ce, .int .i64 now] w fun r w' => r = .returned (.bool (hvE ends now zs)) ∧ w' = w := by
  unfold maxLen at hl hle
  have hr' := hide hr
  have he' := hide he
  have hx' := hide hx
  have hf := hide (show hvE ends now zs = hvE ends now (zs.drop 0) by simp)
  clear hr he hx
  go_enter Try.func64, Try.ntmps64
  go_wp2
  go_loop [11] (fun t => ∃ k : Nat, k ≤ zs.length ∧ t = .int .i64 k ∧ Hid (hvE ends now zs = hvE ends now (zs.drop k))) (fun t => zs.length - (intOf t).toNat)
  case atStart => exact ⟨0, by omega, rfl, hf⟩
  case round =>
    obtain ⟨k, hk, rfl, hm⟩ := hrel
    by_cases hlt : k < zs.length
    · obtain ⟨b, o, x, rfl, hz, i1, c0⟩ := ins_at (unhide hr') (Below.refl _ _) hlt
      obtain ⟨x0, x1⟩ := unhide hx' x (List.mem_of_getElem? hz)
      obtain ⟨m, rfl⟩ := Int.eq_ofNat_of_zero_le x0
      have hml : m < ends.length := by omega
      obtain ⟨b2, o2, y, rfl, hy, i2, d0⟩ := ins_at (unhide he') (Below.refl _ _) hml
      have hd := hide (show hvE ends now zs = (!(y == 0) && decide (y ≤ now) && hvE ends now (zs.drop (k + 1))) by
        rw [unhide hm, drop_at hz, hvE_cons]
        have e1 : ends.getD (m : Int).toNat 0 = y := by simp [List.getD_eq_getElem?_getD, hy]
        rw [e1])
      clear hm hz hy i1 i2 x1
      by_cases h1 : y = 0
      · have g1 : (y == 0) = true := by simpa using h1
        have hfin := hide (show hvE ends now zs = false by rw [unhide hd, g1]; rfl)
        clear hd h1
        go_wp2
        go_ret
        exact ⟨ret_bool (unhide hfin).symm, rfl⟩
      · have g1 : (y == 0) = false := by simpa using h1
        by_cases h2 : now < y
        · have g2 : decide (now < y) = true := by simpa using h2
          have hfin := hide (show hvE ends now zs = false by rw [unhide hd, decide_eq_false (p := y ≤ now) (by omega)]; simp)
          clear hd h1
          go_wp2
          go_ret
          exact ⟨ret_bool (unhide hfin).symm, rfl⟩
        · have g2 : decide (now < y) = false := by simpa using h2
          have hfin := hide (show hvE ends now zs = hvE ends now (zs.drop (k + 1)) by rw [unhide hd, g1, decide_eq_true (p := y ≤ now) (by omega)]; rfl)
          clear hd h1
          go_wp2
          go_round
          case rel => exact ⟨k + 1, by omega, by go_num, hfin⟩
          case measure => simp [intOf]; omega
    · have hfin := hide (show hvE ends now zs = true by rw [unhide hm, drop_end hlt]; rfl)
      clear hm
      go_wp2
      go_ret
      exact ⟨ret_bool (unhide hfin).symm, rfl⟩

def frV : Option Nat → Int
  | none => -1
  | some i => i
theorem frF_cons (ends : List Int) (now : Int) (i : Nat) (t : Tv) (l : List Tv) : frF ends now i (t :: l) = if rdy ends now i t = true then some i else frF ends now (i + 1) l := rfl
set_option maxHeartbeats 1600000 in
theorem ifst_any (a e : Option Addr) (ca ce : Nat) (ts : List Tv) (ends : List Int) (now : Int) (w : World) (hJ : jobOk ts = true) (hle : ends.length = ts.length) (hr : Tks w a ts) (he : Ins w e ends) :
    Calls Try.prog 44 #[.slice a ts.length ca, .slice e ts.length ce, .int .i64 now] w fun r w' => r = .returned (.int .i64 (frV (frst ts ends now))) ∧ Below w.heap.size w w' := by
  have hs := job_short hJ
  have hr' := hide hr
  have he' := hide he
  have hJ' := hide hJ
  have hle' := hide hle
  have hf := hide (show frst ts ends now = frF ends now 0 (ts.drop 0) by simp [frst])
  clear hr he hJ hle
  go_enter Try.func44, Try.ntmps44
  go_wp2
  go_loopw [11] (fun t wr => ∃ k : Nat, k ≤ ts.length ∧ t = .int .i64 k ∧ Hid (frst ts ends now = frF ends now k (ts.drop k)) ∧ Hid (Below w.heap.size w wr)) (fun t _ => ts.length - (intOf t).toNat)
  case atStart => exact ⟨0, by omega, rfl, hf, hide (Below.refl _ _)⟩
  case round =>
    obtain ⟨k, hk, rfl, hm, hB⟩ := hrel
    by_cases hlt : k < ts.length
    · obtain ⟨b, o, p, c, t, rfl, hx, i1, c0, c1, c2, c3, hK, hmx⟩ := tks_at (unhide hr') (unhide hB) hlt
      have hkl : k < ends.length := by have := unhide hle'; omega
      obtain ⟨b2, o2, y, rfl, hy, i2, d0⟩ := ins_at (unhide he') (unhide hB) hkl
      have hd := hide (show frst ts ends now = if ((y == 0) && hvE ends now t.2.2.1) = true then some k else frF ends now (k + 1) (ts.drop (k + 1)) by
        rw [unhide hm, drop_at hx, frF_cons]
        have e1 : ends.getD k 0 = y := by simp [List.getD_eq_getElem?_getD, hy]
        simp only [rdy, e1])
      have tk := hide (job_tok (unhide hJ') hx)
      have hK' := hide hK
      have hmx' := hide hmx
      have hE := hide ((unhide hB).alloc (unhide hB).size (.cells #[.int .i64 t.1, .int .i64 t.2.1, .slice p t.2.2.1.length c, .int .i64 t.2.2.2] 33))
      have hbi : b2 < wr.heap.size := Nat.lt_of_lt_of_le i2 (unhide hB).size
      clear hx hm hK hmx hy i2 hkl
      by_cases h1 : y = 0
      · have g1 : (y == 0) = true := by simpa using h1
        obtain ⟨v, hv⟩ : ∃ v, hvE ends now t.2.2.1 = v := ⟨_, rfl⟩
        have hv' := hide hv
        have hd2 := hide (show frst ts ends now = if v = true then some k else frF ends now (k + 1) (ts.drop (k + 1)) by rw [unhide hd, g1, hv]; simp)
        have hal := hide ((Below.refl wr.heap.size wr).alloc (Nat.le_refl _) (.cells #[.int .i64 t.1, .int .i64 t.2.1, .slice p t.2.2.1.length c, .int .i64 t.2.2.2] 33))
        have cI := hide (show Calls Try.prog 64 #[.slice p t.2.2.1.length c, .slice (some ⟨b2, o2, none⟩) ts.length ce, .int .i64 now] (wr.alloc (.cells #[.int .i64 t.1, .int .i64 t.2.1, .slice p t.2.2.1.length c, .int .i64 t.2.2.2] 33)) fun r w' => r = .returned (.bool v) ∧ w' = (wr.alloc (.cells #[.int .i64 t.1, .int .i64 t.2.1, .slice p t.2.2.1.length c, .int .i64 t.2.2.2] 33)) by
          have h5 := ihav_any p (some ⟨b2, o2, none⟩) c ce t.2.2.1 ends now (wr.alloc (.cells #[.int .i64 t.1, .int .i64 t.2.1, .slice p t.2.2.1.length c, .int .i64 t.2.2.2] 33)) (unhide hmx') (by have := unhide hle'; unfold maxLen; omega) ((unhide hK').below (unhide hal)) (((unhide he').below (unhide hB)).below (unhide hal)) (fun x hx => by have h6 := (unhide tk).need x hx; have := unhide hle'; exact ⟨h6.1, by omega⟩)
          rw [unhide hv', unhide hle'] at h5
          exact h5)
        clear hd hv h1
        go_wp2_with fail
        refine (unhide cI).mono ?_
        rintro e w1 ⟨rfl, rfl⟩
        cases v with
        | true =>
          have hfin := hide (show frV (frst ts ends now) = (k : Int) by rw [unhide hd2]; rfl)
          clear hd2
          go_wp2
          go_ret
          exact ⟨ret_int (unhide hfin).symm, unhide hE⟩
        | false =>
          have hfin := hide (show frst ts ends now = frF ends now (k + 1) (ts.drop (k + 1)) by rw [unhide hd2]; rfl)
          clear hd2
          go_wp2
          go_roundw
          case rel => exact ⟨k + 1, by omega, by go_num, hfin, hE⟩
          case measure => simp [intOf]; omega
      · have g1 : (y == 0) = false := by simpa using h1
        have hfin := hide (show frst ts ends now = frF ends now (k + 1) (ts.drop (k + 1)) by rw [unhide hd, g1]; rfl)
        clear hd h1
        go_wp2
        go_roundw
        case rel => exact ⟨k + 1, by omega, by go_num, hfin, hE⟩
        case measure => simp [intOf]; omega
    · have hfin := hide (show frV (frst ts ends now) = -1 by rw [unhide hm, drop_end hlt]; rfl)
      clear hm
      go_wp2
      go_ret
      exact ⟨ret_int (unhide hfin).symm, unhide hB⟩

set_option maxHeartbeats 1600000 in
theorem inxt_any (a : Option Addr) (ca : Nat) (free : List Int) (now : Int) (w : World) (hl : free.length ≤ maxLen) (hr : Ins w a free) :
    Calls Try.prog 45 #[.slice a free.length ca, .int .i64 now] w fun r w' => r = .returned (.int .i64 (nxI now free)) ∧ w' = w := by
  unfold maxLen at hl
  have hr' := hide hr
  clear hr
  go_enter Try.func45, Try.ntmps45
  go_wp2
  go_loop [5, 11] (fun s t => ∃ (k : Nat) (q : Int), k ≤ free.length ∧ t = .int .i64 k ∧ s = .int .i64 q ∧ Hid (q = lG now (isI now) now (free.take k))) (fun _ t => free.length - (intOf t).toNat)
  case atStart => exact ⟨0, now, by omega, rfl, rfl, hide rfl⟩
  case round =>
    obtain ⟨k, q, hk, rfl, rfl, hq⟩ := hrel
    by_cases hlt : k < free.length
    · obtain ⟨b, o, x, rfl, hz, i1, c0⟩ := ins_at (unhide hr') (Below.refl _ _) hlt
      have hs := hide (show lG now (isI now) now (free.take (k + 1)) = if now < x ∧ (q = now ∨ x < q) then x else q by rw [lG_take hz, ← unhide hq]; simp [isI])
      clear hz hq i1
      by_cases h1 : now < x
      · have g1 : decide (now < x) = true := by simpa using h1
        by_cases h2 : q = now
        · have g2 : (q == now) = true := by simpa using h2
          have hfin := hide (show x = lG now (isI now) now (free.take (k + 1)) by rw [unhide hs, if_pos ⟨h1, .inl h2⟩])
          clear hs h2
          go_wp2
          go_round
          case rel => exact ⟨k + 1, x, by omega, by go_num, rfl, hfin⟩
          case measure => simp [intOf]; omega
        · have g2 : (q == now) = false := by simpa using h2
          by_cases h3 : x < q
          · have g3 : decide (x < q) = true := by simpa using h3
            have hfin := hide (show x = lG now (isI now) now (free.take (k + 1)) by rw [unhide hs, if_pos ⟨h1, .inr h3⟩])
            clear hs h2
            go_wp2
            go_round
            case rel => exact ⟨k + 1, x, by omega, by go_num, rfl, hfin⟩
            case measure => simp [intOf]; omega
          · have g3 : decide (x < q) = false := by simpa using h3
            have hfin := hide (show q = lG now (isI now) now (free.take (k + 1)) by rw [unhide hs, if_neg (fun h => by rcases h.2 with h | h; exact h2 h; exact h3 h)])
            clear hs h2
            go_wp2
            go_round
            case rel => exact ⟨k + 1, q, by omega, by go_num, rfl, hfin⟩
            case measure => simp [intOf]; omega
      · have g1 : decide (now < x) = false := by simpa using h1
        have hfin := hide (show q = lG now (isI now) now (free.take (k + 1)) by rw [unhide hs, if_neg (fun h => h1 h.1)])
        clear hs
        go_wp2
        go_round
        case rel => exact ⟨k + 1, q, by omega, by go_num, rfl, hfin⟩
        case measure => simp [intOf]; omega
    · have hke : k = free.length := by omega
      have hfin := hide (show q = nxI now free by rw [unhide hq, hke, List.take_length]; rfl)
      clear hq hke
      go_wp2
      go_ret
      exact ⟨ret_int (unhide hfin), rfl⟩

end Go.Proofs.Ytmdkbmnomeampaa
