/-
  Contracts of what the program's Farm calls: what has ended, the first task that is ready, the next end; nothing that was there is written.
  The contract of the program's Farm: it answers who works when, in new memory; nothing that was there is written.
-/
import Derived.Test.YtpmmimcafkillaaZFmM
import Derived.Test.YtpmmimcafkillaaZYo
import Derived.Deep.CutRange
import Derived.Deep.CutBlock
namespace Go.Proofs.Ytpmmimcafkillaa
open Go.RowKit
set_option linter.unusedVariables false
set_option linter.unusedSimpArgs false

theorem hvE_cons (ends : List Int) (now x : Int) (l : List Int) : hvE ends now (x :: l) = (!(ends.getD x.toNat 0 == 0) && decide (ends.getD x.toNat 0 ≤ now) && hvE ends now l) := by simp [hvE]
set_option maxHeartbeats 1600000 in
theorem ihav_any (a e : Option Addr) (ca ce : Nat) (zs ends : List Int) (now : Int) (w : World) (hl : zs.length ≤ maxLen) (hle : ends.length ≤ maxLen) (hr : Ins w a zs) (he : Ins w e ends) (hx : ∀ x ∈ zs, 0 ≤ x ∧ x < ends.length) :
    Calls Try.prog 56 #[.slice a zs.length ca, .slice e ends.length ce, .int .i64 now] w fun r w' => r = .returned (.bool (hvE ends now zs)) ∧ w' = w := by
  unfold maxLen at hl hle
  have hr' := hide hr
  have he' := hide he
  have hx' := hide hx
  have hf := hide (show hvE ends now zs = hvE ends now (zs.drop 0) by simp)
  clear hr he hx
  go_enter Try.func56, Try.ntmps56
  go_wp2
  go_loop [11] (fun t => ∃ k : Nat, k ≤ zs.length ∧ t = .int .i64 k ∧ Hid (hvE ends now zs = hvE ends now (zs.drop k))) (fun t => zs.length - (intOf t).toNat)
  case atStart => exact ⟨0, by omega, rfl, hf⟩
  case round =>
    obtain ⟨k, hk, rfl, hm⟩ := hrel
    by_cases hlt : k < zs.length
    · obtain ⟨b, o, x, rfl, hz, i1, c0⟩ := ins_at (unhide hr') (Below.refl _ _) hlt
      obtain ⟨x0, x1⟩ := unhide hx' x (List.mem_of_getElem? hz)
      obtain ⟨m, rfl⟩ := Int.eq_ofNat_of_zero_le x0
      have hml : m < ends.length := by omega
      obtain ⟨b2, o2, y, rfl, hy, i2, d0⟩ := ins_at (unhide he') (Below.refl _ _) hml
      have hd := hide (show hvE ends now zs = (!(y == 0) && decide (y ≤ now) && hvE ends now (zs.drop (k + 1))) by
        rw [unhide hm, drop_at hz, hvE_cons]
        have e1 : ends.getD (m : Int).toNat 0 = y := by simp [List.getD_eq_getElem?_getD, hy]
        rw [e1])
      clear hm hz hy i1 i2 x1
      by_cases h1 : y = 0
      · have g1 : (y == 0) = true := by simpa using h1
        have hfin := hide (show hvE ends now zs = false by rw [unhide hd, g1]; rfl)
        clear hd h1
        go_wp2
        go_ret
        exact ⟨ret_bool (unhide hfin).symm, rfl⟩
      · have g1 : (y == 0) = false := by simpa using h1
        by_cases h2 : now < y
        · have g2 : decide (now < y) = true := by simpa using h2
          have hfin := hide (show hvE ends now zs = false by rw [unhide hd, decide_eq_false (p := y ≤ now) (by omega)]; simp)
          clear hd h1
          go_wp2
          go_ret
          exact ⟨ret_bool (unhide hfin).symm, rfl⟩
        · have g2 : decide (now < y) = false := by simpa using h2
          have hfin := hide (show hvE ends now zs = hvE ends now (zs.drop (k + 1)) by rw [unhide hd, g1, decide_eq_true (p := y ≤ now) (by omega)]; rfl)
          clear hd h1
          go_wp2
          go_round
          case rel => exact ⟨k + 1, by omega, by go_num, hfin⟩
          case measure => simp [intOf]; omega
    · have hfin := hide (show hvE ends now zs = true by rw [unhide hm, drop_end hlt]; rfl)
      clear hm
      go_wp2
      go_ret
      exact ⟨ret_bool (unhide hfin).symm, rfl⟩

def frV : Option Nat → Int
  | none => -1
  | some i => i
theorem frF_cons (ends : List Int) (now : Int) (i : Nat) (t : Tv) (l : List Tv) : frF ends now i (t :: l) = if rdy ends now i t = true then some i else frF ends now (i + 1) l := rfl
set_option maxHeartbeats 1600000 in
theorem ifst_any (a e : Option Addr) (ca ce : Nat) (ts : List Tv) (ends : List Int) (now : Int) (w : World) (hJ : jobOk ts = true) (hle : ends.length = ts.length) (hr : Tks w a ts) (he : Ins w e ends) :
    Calls Try.prog 38 #[.slice a ts.length ca, .slice e ts.length ce, .int .i64 now] w fun r w' => r = .returned (.int .i64 (frV (frst ts ends now))) ∧ Below w.heap.size w w' := by
  have hs := job_short hJ
  have hr' := hide hr
  have he' := hide he
  have hJ' := hide hJ
  have hle' := hide hle
  have hf := hide (show frst ts ends now = frF ends now 0 (ts.drop 0) by simp [frst])
  clear hr he hJ hle
  go_enter Try.func38, Try.ntmps38
  go_wp2
  go_loopw [11] (fun t wr => ∃ k : Nat, k ≤ ts.length ∧ t = .int .i64 k ∧ Hid (frst ts ends now = frF ends now k (ts.drop k)) ∧ Hid (Below w.heap.size w wr)) (fun t _ => ts.length - (intOf t).toNat)
  case atStart => exact ⟨0, by omega, rfl, hf, hide (Below.refl _ _)⟩
  case round =>
    obtain ⟨k, hk, rfl, hm, hB⟩ := hrel
    by_cases hlt : k < ts.length
    · obtain ⟨b, o, p, c, t, rfl, hx, i1, c0, c1, c2, c3, hK, hmx⟩ := tks_at (unhide hr') (unhide hB) hlt
      have hkl : k < ends.length := by have := unhide hle'; omega
      obtain ⟨b2, o2, y, rfl, hy, i2, d0⟩ := ins_at (unhide he') (unhide hB) hkl
      have hd := hide (show frst ts ends now = if ((y == 0) && hvE ends now t.2.2.1) = true then some k else frF ends now (k + 1) (ts.drop (k + 1)) by
        rw [unhide hm, drop_at hx, frF_cons]
        have e1 : ends.getD k 0 = y := by simp [List.getD_eq_getElem?_getD, hy]
        simp only [rdy, e1])
      have tk := hide (job_tok (unhide hJ') hx)
      have hK' := hide hK
      have hmx' := hide hmx
      have hE := hide ((unhide hB).alloc (unhide hB).size (.cells #[.int .i64 t.1, .int .i64 t.2.1, .slice p t.2.2.1.length c, .int .i64 t.2.2.2] 33))
      have hbi : b2 < wr.heap.size := Nat.lt_of_lt_of_le i2 (unhide hB).size
      clear hx hm hK hmx hy i2 hkl
      by_cases h1 : y = 0
      · have g1 : (y == 0) = true := by simpa using h1
        obtain ⟨v, hv⟩ : ∃ v, hvE ends now t.2.2.1 = v := ⟨_, rfl⟩
        have hv' := hide hv
        have hd2 := hide (show frst ts ends now = if v = true then some k else frF ends now (k + 1) (ts.drop (k + 1)) by rw [unhide hd, g1, hv]; simp)
        have hal := hide ((Below.refl wr.heap.size wr).alloc (Nat.le_refl _) (.cells #[.int .i64 t.1, .int .i64 t.2.1, .slice p t.2.2.1.length c, .int .i64 t.2.2.2] 33))
        have cI := hide (show Calls Try.prog 56 #[.slice p t.2.2.1.length c, .slice (some ⟨b2, o2, none⟩) ts.length ce, .int .i64 now] (wr.alloc (.cells #[.int .i64 t.1, .int .i64 t.2.1, .slice p t.2.2.1.length c, .int .i64 t.2.2.2] 33)) fun r w' => r = .returned (.bool v) ∧ w' = (wr.alloc (.cells #[.int .i64 t.1, .int .i64 t.2.1, .slice p t.2.2.1.length c, .int .i64 t.2.2.2] 33)) by
          have h5 := ihav_any p (some ⟨b2, o2, none⟩) c ce t.2.2.1 ends now (wr.alloc (.cells #[.int .i64 t.1, .int .i64 t.2.1, .slice p t.2.2.1.length c, .int .i64 t.2.2.2] 33)) (unhide hmx') (by have := unhide hle'; unfold maxLen; omega) ((unhide hK').below (unhide hal)) (((unhide he').below (unhide hB)).below (unhide hal)) (fun x hx => by have h6 := (unhide tk).need x hx; have := unhide hle'; exact ⟨h6.1, by omega⟩)
          rw [unhide hv', unhide hle'] at h5
          exact h5)
        clear hd hv h1
        go_wp2_with fail
        refine (unhide cI).mono ?_
        rintro e w1 ⟨rfl, rfl⟩
        cases v with
        | true =>
          have hfin := hide (show frV (frst ts ends now) = (k : Int) by rw [unhide hd2]; rfl)
          clear hd2
          go_wp2
          go_ret
          exact ⟨ret_int (unhide hfin).symm, unhide hE⟩
        | false =>
          have hfin := hide (show frst ts ends now = frF ends now (k + 1) (ts.drop (k + 1)) by rw [unhide hd2]; rfl)
          clear hd2
          go_wp2
          go_roundw
          case rel => exact ⟨k + 1, by omega, by go_num, hfin, hE⟩
          case measure => simp [intOf]; omega
      · have g1 : (y == 0) = false := by simpa using h1
        have hfin := hide (show frst ts ends now = frF ends now (k + 1) (ts.drop (k + 1)) by rw [unhide hd, g1]; rfl)
        clear hd h1
        go_wp2
        go_roundw
        case rel => exact ⟨k + 1, by omega, by go_num, hfin, hE⟩
        case measure => simp [intOf]; omega
    · have hfin := hide (show frV (frst ts ends now) = -1 by rw [unhide hm, drop_end hlt]; rfl)
      clear hm
      go_wp2
      go_ret
      exact ⟨ret_int (unhide hfin).symm, unhide hB⟩

set_option maxHeartbeats 1600000 in
theorem inxt_any (a : Option Addr) (ca : Nat) (free : List Int) (now : Int) (w : World) (hl : free.length ≤ maxLen) (hr : Ins w a free) :
    Calls Try.prog 39 #[.slice a free.length ca, .int .i64 now] w fun r w' => r = .returned (.int .i64 (nxI now free)) ∧ w' = w := by
  unfold maxLen at hl
  have hr' := hide hr
  clear hr
  go_enter Try.func39, Try.ntmps39
  go_wp2
  go_loop [5, 11] (fun s t => ∃ (k : Nat) (q : Int), k ≤ free.length ∧ t = .int .i64 k ∧ s = .int .i64 q ∧ Hid (q = lG now (isI now) now (free.take k))) (fun _ t => free.length - (intOf t).toNat)
  case atStart => exact ⟨0, now, by omega, rfl, rfl, hide rfl⟩
  case round =>
    obtain ⟨k, q, hk, rfl, rfl, hq⟩ := hrel
    by_cases hlt : k < free.length
    · obtain ⟨b, o, x, rfl, hz, i1, c0⟩ := ins_at (unhide hr') (Below.refl _ _) hlt
      have hs := hide (show lG now (isI now) now (free.take (k + 1)) = if now < x ∧ (q = now ∨ x < q) then x else q by rw [lG_take hz, ← unhide hq]; simp [isI])
      clear hz hq i1
      by_cases h1 : now < x
      · have g1 : decide (now < x) = true := by simpa using h1
        by_cases h2 : q = now
        · have g2 : (q == now) = true := by simpa using h2
          have hfin := hide (show x = lG now (isI now) now (free.take (k + 1)) by rw [unhide hs, if_pos ⟨h1, .inl h2⟩])
          clear hs h2
          go_wp2
          go_round
          case rel => exact ⟨k + 1, x, by omega, by go_num, rfl, hfin⟩
          case measure => simp [intOf]; omega
        · have g2 : (q == now) = false := by simpa using h2
          by_cases h3 : x < q
          · have g3 : decide (x < q) = true := by simpa using h3
            have hfin := hide (show x = lG now (isI now) now (free.take (k + 1)) by rw [unhide hs, if_pos ⟨h1, .inr h3⟩])
            clear hs h2
            go_wp2
            go_round
            case rel => exact ⟨k + 1, x, by omega, by go_num, rfl, hfin⟩
            case measure => simp [intOf]; omega
          · have g3 : decide (x < q) = false := by simpa using h3
            have hfin := hide (show q = lG now (isI now) now (free.take (k + 1)) by rw [unhide hs, if_neg (fun h => by rcases h.2 with h | h; exact h2 h; exact h3 h)])
            clear hs h2
            go_wp2
            go_round
            case rel => exact ⟨k + 1, q, by omega, by go_num, rfl, hfin⟩
            case measure => simp [intOf]; omega
      · have g1 : decide (now < x) = false := by simpa using h1
        have hfin := hide (show q = lG now (isI now) now (free.take (k + 1)) by rw [unhide hs, if_neg (fun h => h1 h.1)])
        clear hs
        go_wp2
        go_round
        case rel => exact ⟨k + 1, q, by omega, by go_num, rfl, hfin⟩
        case measure => simp [intOf]; omega
    · have hke : k = free.length := by omega
      have hfin := hide (show q = nxI now free by rw [unhide hq, hke, List.take_length]; rfl)
      clear hq hke
      go_wp2
      go_ret
      exact ⟨ret_int (unhide hfin), rfl⟩

end Go.Proofs.Ytpmmimcafkillaa

namespace Go.Proofs.Ytpmmimcafkillaa
open Go.RowKit
set_option linter.unusedVariables false
set_option linter.unusedSimpArgs false

set_option maxRecDepth 100000 in
set_option maxHeartbeats 6400000 in
theorem ifarm_any (a : Option Addr) (cap : Nat) (ts : List Tv) (W : Int) (w : World) (hl : ts.length ≤ maxLen) (hr : Tks w a ts) :
    Calls Try.prog 11 #[.slice a ts.length cap, .int .i64 W] w (AnR w (farmOf ts W)) := by
  have hr' := hide hr
  have cj := hide (ijob_any a cap ts w hl hr)
  have hl' := hide hl
  clear hr hl
  obtain ⟨v, hv⟩ : ∃ v, jobOk ts = v := ⟨_, rfl⟩
  have hv' := hide hv
  clear hv
  go_enter Try.func11, Try.ntmps11
  go_wp2_with fail
  refine (unhide cj).mono ?_
  rintro e w1 ⟨rfl, k1⟩
  rw [unhide hv']
  have B1 := hide k1
  clear k1 cj
  cases v with
  | false =>
    have hf := hide (show farmOf ts W = [] by rw [farmOf, if_neg (by rw [unhide hv']; simp)])
    go_wp2
    go_ret
    exact ⟨w1.heap.size, 0, by rw [unhide hf]; rfl, (unhide B1).size, by rw [unhide hf]; exact own_lit0 w1 (unhide B1).size, (unhide B1).alloc (unhide B1).size _⟩
  | true =>
  by_cases hW1 : W < 1
  · have g1 : decide (W < 1) = true := by simpa using hW1
    have hf := hide (show farmOf ts W = [] by rw [farmOf, if_neg (by omega)])
    go_wp2
    go_ret
    exact ⟨w1.heap.size, 0, by rw [unhide hf]; rfl, (unhide B1).size, by rw [unhide hf]; exact own_lit0 w1 (unhide B1).size, (unhide B1).alloc (unhide B1).size _⟩
  by_cases hW2 : 50 < W
  · have g1 : decide (W < 1) = false := by simpa using hW1
    have g2 : decide (50 < W) = true := by simpa using hW2
    have hf := hide (show farmOf ts W = [] by rw [farmOf, if_neg (by omega)])
    go_wp2
    go_ret
    exact ⟨w1.heap.size, 0, by rw [unhide hf]; rfl, (unhide B1).size, by rw [unhide hf]; exact own_lit0 w1 (unhide B1).size, (unhide B1).alloc (unhide B1).size _⟩
  obtain ⟨V, rfl⟩ := Int.eq_ofNat_of_zero_le (show 0 ≤ W by omega)
  have hV0 : 0 < V := by omega
  have hV1 : V ≤ 50 := by omega
  have g1 : decide ((V : Int) < 1) = false := by simp; omega
  have g2 : decide ((50 : Int) < V) = false := by simp; omega
  have hJ' : Hid (jobOk ts = true) := hv'
  have hs200 : ts.length ≤ 200 := job_short (unhide hJ')
  have hf0 := hide (show farmOf ts V = fin ts 200001 (st0 ts.length V) by rw [farmOf, if_pos ⟨unhide hJ', by omega, by omega⟩]; rfl)
  obtain ⟨i0, hi, hz0, hz1, hz2⟩ := info_parts info44
  obtain ⟨i1, hj, hy0, hy1, hy2⟩ := info_parts infoI
  have hT1 := hide ((unhide hr').below (unhide B1))
  clear hW1 hW2
  go_wp2_with (refine wpList_make_own _ rfl _ _ 27 rfl w.heap.size 31 i0 _ 4 Try.underlying27 hi hz0 hz1 .i64 .i64 _ ts.length rfl rfl rfl ?b2 ?b3 ?b4 ?_)
  case b2 => rw [hz2]; omega
  case b3 => unfold maxLen; omega
  case b4 => exact (unhide B1).size
  intro w2 oR gw2
  have B2 := hide (laterB (unhide B1) (grown_none gw2))
  have R2 := hide (show Own w2 w.heap.size w1.heap.size 0 ts.length [] from oR)
  have hT2 := hide ((unhide hT1).below (grown_none gw2))
  have hs12 := hide (own_lt (unhide R2))
  clear oR gw2 B1 hT1
  go_wp2_with (refine wpList_make_full _ rfl _ _ 29 rfl w.heap.size 2 i1 (.int .i64 0) 1 Try.underlying29 hj hy0 hy1 .i64 .i64 _ _ ts.length rfl rfl rfl rfl ?b2 ?b3 ?b4 ?_)
  case b2 => rw [hy2]; omega
  case b3 => unfold maxLen; omega
  case b4 => exact (unhide B2).size
  intro w3 oE gw3
  have B3 := hide (laterB (unhide B2) (grown_none gw3))
  have E3 := hide (show OwnI w3 w.heap.size w2.heap.size ts.length ts.length (List.replicate ts.length 0) by show World.ownsRow _ _ _ _ _ _ _; rw [← made_I]; simpa using oE)
  have R3 := hide (ownsRow_below (unhide R2) (grown_none gw3))
  have hT3 := hide ((unhide hT2).below (grown_none gw3))
  have hs23 := hide (own_lt (unhide E3))
  clear oE gw3 B2 R2 hT2
  go_wp2_with (refine wpList_make_full _ rfl _ _ 29 rfl w.heap.size 2 i1 (.int .i64 0) 1 Try.underlying29 hj hy0 hy1 .i64 .i64 _ _ V rfl rfl rfl rfl ?b2 ?b3 ?b4 ?_)
  case b2 => rw [hy2]; omega
  case b3 => unfold maxLen; omega
  case b4 => exact (unhide B3).size
  intro w4 oF gw4
  have B4 := hide (laterB (unhide B3) (grown_none gw4))
  have F4 := hide (show OwnI w4 w.heap.size w3.heap.size V V (List.replicate V 0) by show World.ownsRow _ _ _ _ _ _ _; rw [← made_I]; simpa using oF)
  have M0 := hide (show FM w w4 w2.heap.size w3.heap.size w1.heap.size ts.length ts.length V 0 (List.replicate ts.length 0) (List.replicate V 0) [] from ⟨ownsRow_below (unhide E3) (grown_none gw4), unhide F4, ownsRow_below (unhide R3) (grown_none gw4), by have := unhide hs23; omega, unhide B4⟩)
  have hT4 := hide ((unhide hT3).below (grown_none gw4))
  clear oF gw4 B3 E3 R3 hT3 F4 B4 hs12 hs23 hi hz0 hz1 hz2 hj hy0 hy1 hy2
  generalize w2.heap.size = gE at *
  generalize w3.heap.size = gF at *
  generalize w1.heap.size = gR at *
  go_wp2
  go_loopw [5, 8] (fun u t wr => ∃ (s : St) (gR cR m f : Nat) (q : Int), t = .int .i64 q ∧ u = .slice (some ⟨gR, 0, none⟩) m cR ∧ m ≤ ts.length ∧ Hid (s.runs.length = m) ∧ Hid (FInv ts V s) ∧ Hid (s.now = q) ∧ Hid (farmOf ts V = fin ts f s) ∧ Hid ((200001 - s.now).toNat ≤ f) ∧ Hid (FM w wr gE gF gR cR ts.length V m s.ends s.free s.runs)) (fun _ t _ => (200001 - intOf t).toNat)
  case atStart => exact ⟨st0 ts.length V, gR, ts.length, 0, 200001, 0, rfl, rfl, by omega, hide rfl, hide (FInv.zero ts V), hide rfl, hf0, hide (by simp [st0]), M0⟩
  case round =>
    obtain ⟨s, gR, cR, m, f, q, rfl, rfl, hmn, hm, hI, hq, hf, hfl, hM⟩ := hrel
    have hT4' := hide (((unhide hr').below (unhide hM).bel))
    by_cases hrun : m < ts.length
    rotate_left
    · have hfin := hide (show farmOf ts V = s.runs by rw [unhide hf, fin_end (by have := unhide hm; omega)])
      have g3 : decide ((m : Int) < ts.length) = false := by simp; omega
      clear hf
      go_wp2
      go_ret
      refine ⟨gR, cR, ?_, ?_, ?_, ?_⟩
      · rw [unhide hfin, unhide hm]; rfl
      · exact own_ge (unhide hM).R
      · rw [unhide hfin, unhide hm]; exact (unhide hM).R
      · exact (unhide hM).bel
    have g3 : decide ((m : Int) < ts.length) = true := by simp; omega
    have hrl := hide (show s.runs.length < ts.length by have := unhide hm; omega)
    obtain ⟨f', hfe0⟩ : ∃ f', f = f' + 1 := ⟨f - 1, by have h5 := unhide hfl; have h6 := (unhide hI).now1; have := unhide hrl; have := unhide hq; omega⟩
    have hfe := hide hfe0
    clear hfe0
    rename World => wo
    go_wp2
    go_loopw [5, 39] (fun u t wr => ∃ (s2 : St) (gR2 c2 m2 k : Nat), k ≤ V ∧ t = .int .i64 k ∧ u = .slice (some ⟨gR2, 0, none⟩) m2 c2 ∧ m2 ≤ ts.length ∧ Hid (s2.runs.length = m2) ∧ Hid (FInv ts V s2) ∧ Hid (s2.now = q) ∧ Hid (swF ts V 0 s = swF ts (V - k) k s2) ∧ Hid (FM w wr gE gF gR2 c2 ts.length V m2 s2.ends s2.free s2.runs)) (fun _ t _ => V - (intOf t).toNat)
    case atStart => exact ⟨s, gR, cR, m, 0, by omega, rfl, rfl, hmn, hm, hI, hq, hide rfl, hM⟩
    case round =>
      obtain ⟨s2, gR2, c2, m2, k, hkV, rfl, rfl, hm2n, hm2, hI2, hq2, hsw0, hM2⟩ := hrel
      rename World => wi
      by_cases hk : k < V
      rotate_left
      · have hke : k = V := by omega
        have hsw : Hid (swF ts V 0 s = s2) := hide (by rw [unhide hsw0, hke, Nat.sub_self]; rfl)
        have gk : decide ((k : Int) < V) = false := by simp; omega
        clear hsw0 hke
        have hsw' := hide (unhide hsw)
        clear hsw
        have hwk := hide (by have h5 := works (unhide hI) (unhide hJ') hV0 (unhide hrl); rw [unhide hsw'] at h5; exact h5)
        have hcx := hide (show Calls Try.prog 39 #[.slice (some ⟨gF, 0, none⟩) V V, .int .i64 q] wi fun r w' => r = .returned (.int .i64 (nxI q s2.free)) ∧ w' = wi by
          have h5 := inxt_any (some ⟨gF, 0, none⟩) V s2.free q wi (by have := (unhide hI2).nf; unfold maxLen; omega) (ins_own (unhide hM2).F)
          rw [(unhide hI2).nf] at h5
          exact h5)
        have hadv := hide ((unhide hI2).adv (unhide hwk))
        have hnx := hide (show nxI q s2.free = (adv s2).now by rw [← unhide hq2]; exact next_same (unhide hI2) (unhide hwk))
        have hfn := hide (show farmOf ts V = fin ts f' (adv s2) by rw [unhide hf, unhide hfe, fin_on (unhide hrl), (unhide hI).nf, unhide hsw'])
        have hqq := hide (show q < (adv s2).now by rw [← unhide hq2]; exact (unhide hadv).2)
        have hmu := hide (show (200001 - (adv s2).now).toNat ≤ f' by have h5 := unhide hqq; have h6 := unhide hfl; have h7 := unhide hfe; have h8 := unhide hq; omega)
        clear hM hwk hsw'
        go_wp2_with fail
        refine (unhide hcx).mono ?_
        rintro e w9 ⟨rfl, rfl⟩
        rw [unhide hnx]
        obtain ⟨q9, hq9⟩ : ∃ q9, (adv s2).now = q9 := ⟨_, rfl⟩
        rw [hq9]
        have hq9' := hide hq9
        have hqq2 := hide (show q < q9 by rw [← hq9]; exact unhide hqq)
        have hqb := hide (show q9 ≤ 200000 by have h5 := (unhide hadv).1.now1; have h6 := (unhide hadv).1.runs; rw [hq9] at h5; have h7 := hs200; omega)
        clear hq9 hcx
        go_wp2
        go_roundw
        case rel => exact ⟨adv s2, gR2, c2, m2, f', q9, rfl, rfl, hm2n, hm2, hide (unhide hadv).1, hq9', hfn, hmu, hM2⟩
        case measure => have h5 := unhide hqq2; have h6 := unhide hqb; simp [intOf]; omega
      have gk : decide ((k : Int) < V) = true := by simp; omega
      obtain ⟨x, hx⟩ : ∃ x, s2.free[k]? = some x := ⟨s2.free[k]'(by have := (unhide hI2).nf; omega), List.getElem?_eq_getElem _⟩
      obtain ⟨cF, fF⟩ := (unhide hM2).cellF hx
      have hgd := hide (show s2.free.getD k 0 = x by simp [List.getD_eq_getElem?_getD, hx])
      clear hx
      by_cases hbusy : q < x
      · have g4 : decide (q < x) = true := by simpa using hbusy
        have hsw1 := hide (show swF ts V 0 s = swF ts (V - (k + 1)) (k + 1) s2 by
          rw [unhide hsw0, swF_succ hk]
          have e1 : wstep ts s2 k = s2 := by unfold wstep; rw [if_pos (by rw [unhide hq2, unhide hgd]; exact hbusy)]
          rw [e1])
        clear hsw0 hgd
        go_wp2
        go_roundw
        case rel => exact ⟨s2, gR2, c2, m2, k + 1, by omega, by go_num, rfl, hm2n, hm2, hI2, hq2, hsw1, hM2⟩
        case measure => simp [intOf]; omega
      have g4 : decide (q < x) = false := by simpa using hbusy
      have hT5 := hide ((unhide hr').below (unhide hM2).bel)
      have hcf := hide (show Calls Try.prog 38 #[.slice a ts.length cap, .slice (some ⟨gE, 0, none⟩) ts.length ts.length, .int .i64 q] wi fun r w' => r = .returned (.int .i64 (frV (frst ts s2.ends q))) ∧ Below wi.heap.size wi w' from
        ifst_any a (some ⟨gE, 0, none⟩) cap ts.length ts s2.ends q wi (unhide hJ') (unhide hI2).ne (unhide hT5) (ins_own (unhide hM2).E))
      obtain ⟨z, hz⟩ : ∃ z, frst ts s2.ends q = z := ⟨_, rfl⟩
      have hz' := hide hz
      have hcf2 := hide (show Calls Try.prog 38 #[.slice a ts.length cap, .slice (some ⟨gE, 0, none⟩) ts.length ts.length, .int .i64 q] wi fun r w' => r = .returned (.int .i64 (frV z)) ∧ Below wi.heap.size wi w' by have h5 := unhide hcf; rw [hz] at h5; exact h5)
      have hnb := hide (show ¬ s2.now < s2.free.getD k 0 by rw [unhide hgd, unhide hq2]; exact hbusy)
      clear hcf hz hgd
      cases z with
      | none =>
        have hsw : Hid (swF ts V 0 s = s2) := hide (by rw [unhide hsw0]; exact swF_none (by rw [unhide hq2]; exact unhide hz') _ _)
        clear hsw0 hnb
        go_wp2_with fail
        refine (unhide hcf2).mono ?_
        rintro e w5 ⟨rfl, k5⟩
        have hM2 := hide ((unhide hM2).later k5)
        clear k5 hT5 cF fF hcf2
        simp only [frV]
        have hsw' := hide (unhide hsw)
        clear hsw
        have hwk := hide (by have h5 := works (unhide hI) (unhide hJ') hV0 (unhide hrl); rw [unhide hsw'] at h5; exact h5)
        have hcx := hide (show Calls Try.prog 39 #[.slice (some ⟨gF, 0, none⟩) V V, .int .i64 q] w5 fun r w' => r = .returned (.int .i64 (nxI q s2.free)) ∧ w' = w5 by
          have h5 := inxt_any (some ⟨gF, 0, none⟩) V s2.free q w5 (by have := (unhide hI2).nf; unfold maxLen; omega) (ins_own (unhide hM2).F)
          rw [(unhide hI2).nf] at h5
          exact h5)
        have hadv := hide ((unhide hI2).adv (unhide hwk))
        have hnx := hide (show nxI q s2.free = (adv s2).now by rw [← unhide hq2]; exact next_same (unhide hI2) (unhide hwk))
        have hfn := hide (show farmOf ts V = fin ts f' (adv s2) by rw [unhide hf, unhide hfe, fin_on (unhide hrl), (unhide hI).nf, unhide hsw'])
        have hqq := hide (show q < (adv s2).now by rw [← unhide hq2]; exact (unhide hadv).2)
        have hmu := hide (show (200001 - (adv s2).now).toNat ≤ f' by have h5 := unhide hqq; have h6 := unhide hfl; have h7 := unhide hfe; have h8 := unhide hq; omega)
        clear hM hwk hsw'
        go_wp2_with fail
        refine (unhide hcx).mono ?_
        rintro e w9 ⟨rfl, rfl⟩
        rw [unhide hnx]
        obtain ⟨q9, hq9⟩ : ∃ q9, (adv s2).now = q9 := ⟨_, rfl⟩
        rw [hq9]
        have hq9' := hide hq9
        have hqq2 := hide (show q < q9 by rw [← hq9]; exact unhide hqq)
        have hqb := hide (show q9 ≤ 200000 by have h5 := (unhide hadv).1.now1; have h6 := (unhide hadv).1.runs; rw [hq9] at h5; have h7 := hs200; omega)
        clear hq9 hcx
        go_wp2
        go_roundw
        case rel => exact ⟨adv s2, gR2, c2, m2, f', q9, rfl, rfl, hm2n, hm2, hide (unhide hadv).1, hq9', hfn, hmu, hM2⟩
        case measure => have h5 := unhide hqq2; have h6 := unhide hqb; simp [intOf]; omega
      | some i =>
        have htk := hide ((unhide hI2).take (unhide hJ') hk (unhide hnb) (by rw [unhide hq2]; exact unhide hz'))
        have hsw1 := hide (show swF ts V 0 s = swF ts (V - (k + 1)) (k + 1) (taken ts s2 k i) by
          rw [unhide hsw0, swF_succ hk]
          have e1 : wstep ts s2 k = taken ts s2 k i := by unfold wstep; rw [if_neg (unhide hnb), unhide hq2, unhide hz']
          rw [e1])
        have hil : i < ts.length := (unhide htk).2.2.2.2
        clear hsw0 hnb
        go_wp2_with fail
        refine (unhide hcf2).mono ?_
        rintro e w5 ⟨rfl, k5⟩
        have hM5 := hide ((unhide hM2).later k5)
        have hT6 := hide ((unhide hT5).below k5)
        clear k5 hT5 hcf2 cF fF hM2
        simp only [frV]
        obtain ⟨b, o, p, c, t, rfl, hx, ib, c0, c1, c2', c3, _, _⟩ := tks_at (unhide hT6) (Below.refl _ _) hil
        have hcs : Hid (cst ts i = t.2.2.2) := hide (by simp [cst, List.getD_eq_getElem?_getD, hx])
        obtain ⟨y, hy⟩ : ∃ y, s2.ends[i]? = some y := ⟨s2.ends[i]'(by have := (unhide hI2).ne; omega), List.getElem?_eq_getElem _⟩
        obtain ⟨cE, fE⟩ := (unhide hM5).cellE hy
        obtain ⟨e9, he9⟩ : ∃ e9, s2.now + cst ts i = e9 := ⟨_, rfl⟩
        have heq : q + t.2.2.2 = e9 := by rw [← he9, unhide hq2, unhide hcs]
        have hb9 := (unhide htk).2.2.2.1
        have hn9 := (unhide htk).2.2.1
        rw [he9] at hb9 hn9
        have hn0 := (unhide hI2).now0
        have hr2 := (unhide htk).2.1
        have hw9 : IntKind.i64.wrap (q + t.2.2.2) = e9 := by rw [heq, IntKind.wrap_i64]; have := unhide hm2; omega
        have gi : ((i : Int) == -1) = false := by rw [beq_eq_false_iff_ne]; omega
        have hM6 := hide ((unhide hM5).setE i e9)
        have hx9 := hide (show (s2.ends.set i e9)[i]? = some e9 by have := (unhide hI2).ne; rw [List.getElem?_set_self (by omega)])
        have he9' := hide he9
        clear hx hy hcs he9 heq hb9 hn9 hn0 hr2 hM5 c0 c1 c2'
        go_upto_region 15 with fail
        generalize w5.setCell ⟨gE, i, none⟩ (.int .i64 e9) = w6 at *
        obtain ⟨cE6, fE6⟩ := (unhide hM6).cellE (unhide hx9)
        obtain ⟨x2, hx2⟩ : ∃ x, s2.free[k]? = some x := ⟨s2.free[k]'(by have := (unhide hI2).nf; omega), List.getElem?_eq_getElem _⟩
        obtain ⟨cF6, fF6⟩ := (unhide hM6).cellF hx2
        have hM7 := hide ((unhide hM6).setF k e9)
        clear hx2 cE fE c3 hT6 ib hw9
        go_upto_region 16 with fail
        generalize w6.setCell ⟨gF, k, none⟩ (.int .i64 e9) = w7 at *
        obtain ⟨cE7, fE7⟩ := (unhide hM7).cellE (unhide hx9)
        clear cE6 fE6 cF6 fF6 hM6
        go_wp2_with (with_reducible refine wpList_kG w7 rfl _ _ rfl w.heap.size gR2 m2 c2 s2.runs i k q e9 rfl (unhide hM7).R rfl (by omega) (unhide hM7).bel.size ?_)
        intro g' cap' w8 o8 b8 q1 q2
        have hM8 := hide (show FM w w8 gE gF g' cap' ts.length V (m2 + 1) (taken ts s2 k i).ends (taken ts s2 k i).free (taken ts s2 k i).runs by
          have h5 := (unhide hM7).app o8 b8
          show FM w w8 gE gF g' cap' ts.length V (m2 + 1) (s2.ends.set i (s2.now + cst ts i)) (s2.free.set k (s2.now + cst ts i)) (s2.runs ++ [((i : Int), (k : Int), s2.now, s2.now + cst ts i)])
          rw [unhide he9', unhide hq2]
          exact h5)
        have hm8 := hide (show (taken ts s2 k i).runs.length = m2 + 1 by simp [taken, unhide hm2])
        have hmn8 : m2 + 1 ≤ ts.length := by have h5 := (unhide htk).2.1; have h6 := unhide hm2; omega
        have hI8 := hide (unhide htk).1
        have hq8 : Hid ((taken ts s2 k i).now = q) := hide (unhide hq2)
        clear o8 b8 q1 q2 hM7 cE7 fE7
        go_wp2
        go_roundw
        case rel => exact ⟨taken ts s2 k i, g', cap', m2 + 1, k + 1, by omega, by go_num, rfl, hmn8, hm8, hI8, hq8, hsw1, hM8⟩
        case measure => simp [intOf]; omega

end Go.Proofs.Ytpmmimcafkillaa
