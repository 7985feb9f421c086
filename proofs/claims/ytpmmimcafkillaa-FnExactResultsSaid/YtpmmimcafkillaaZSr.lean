/-
  The contracts of the model's results; nothing that was there is written.
-/
import Derived.Test.YtpmmimcafkillaaZJbS
import Derived.Test.YtpmmimcafkillaaZCopyL
import Derived.Test.YtpmmimcafkillaaZXp
import Derived.BigQuiet
namespace Go.Proofs.Ytpmmimcafkillaa
open Go.RowKit
open Go.Proofs.Ytpmmimcafkillaa.Rs (outOf out_len out_at resR hst ask)
set_option linter.unusedVariables false
set_option linter.unusedSimpArgs false
/-- what the first needs make of a start -/
def rneed (ts : List Tv) (h : Int) (zs : List Int) : Int := (zs.map fun n => (outOf (resR ts) ts).getD n.toNat 0).foldl hst h
theorem rneed_snoc {ts : List Tv} {h : Int} {zs : List Int} {q : Nat} {z y : Int} (hz : zs[q]? = some z) (hy : (outOf (resR ts) ts)[z.toNat]? = some y) : rneed ts h (zs.take (q + 1)) = hst (rneed ts h (zs.take q)) y := by
  have e : zs.take (q + 1) = zs.take q ++ [z] := by rw [List.take_add_one, hz]; rfl
  unfold rneed
  rw [e, List.map_append, List.foldl_append]
  show hst _ ((outOf (resR ts) ts).getD z.toNat 0) = _
  rw [List.getD_eq_getElem?_getD, hy, Option.getD_some]
theorem hst_rng (h x : Int) : 0 ≤ hst h x ∧ hst h x < 1000000007 := by unfold hst; omega
theorem hst_foldr (vs : List Int) : ∀ h : Int, 0 ≤ h ∧ h < 1000000007 → 0 ≤ vs.foldl hst h ∧ vs.foldl hst h < 1000000007 := by
  induction vs with
  | nil => intro h hh; exact hh
  | cons v vs ih => intro h hh; exact ih _ (hst_rng h v)
theorem rs_rng {ts : List Tv} (hj : jobOk ts = true) (k : Nat) (x : Int) (hx : (outOf (resR ts) ts)[k]? = some x) : 0 ≤ x ∧ x < 1000000007 := by
  have hlt : k < ts.length := by rw [← out_len (resR ts) ts]; exact (List.getElem?_eq_some_iff.1 hx).1
  have ht := List.getElem?_eq_getElem hlt
  have e := Option.some.inj (hx.symm.trans (out_at (f := resR ts) hj ht))
  simp only [resR, ht] at e
  rw [e]
  exact hst_foldr _ _ ⟨Int.emod_nonneg _ (by omega), Int.emod_lt_of_pos _ (by omega)⟩
set_option maxRecDepth 100000 in
set_option maxHeartbeats 6400000 in
theorem sro_any (a : Option Addr) (cap : Nat) (ts : List Tv) (w : World) (hj : jobOk ts = true) (hr : Tks w a ts) :
    Calls Try.prog 49 #[.slice a ts.length cap] w fun e w' => ∃ B c, e = .returned (.slice (some ⟨B, 0, none⟩) ts.length c) ∧ OwnI w' w.heap.size B ts.length c (outOf (resR ts) ts) ∧ Below w.heap.size w w' := by
  have hr' := hide hr
  have hJ' := hide hj
  have hs200 : ts.length ≤ 200 := job_short hj
  clear hr hj
  go_enter Try.func49, Try.ntmps49
  have hrow := hide (ownI_lit0 w (B := w.heap.size) (Nat.le_refl _))
  have hB2 := hide ((Below.refl w.heap.size w).alloc (Nat.le_refl _) (.cells #[] 2))
  go_wp2
  go_loopw [3, 4] (fun u t wr => ∃ (k g c : Nat), k ≤ ts.length ∧ t = .int .i64 k ∧ u = .slice (some ⟨g, 0, none⟩) k c ∧ Hid (OwnI wr w.heap.size g k c ((outOf (resR ts) ts).take k)) ∧ Hid (Below w.heap.size w wr)) (fun _ t _ => ts.length - (intOf t).toNat)
  case atStart => exact ⟨0, w.heap.size, 0, by omega, rfl, rfl, hrow, hB2⟩
  case round =>
    obtain ⟨k, g, c, hk, rfl, rfl, hO, hB⟩ := hrel
    clear hrow hB2
    by_cases hlt : k < ts.length
    rotate_left
    · obtain rfl : k = ts.length := by omega
      have gk : decide ((ts.length : Int) < ts.length) = false := by simp
      have hfin := hide (show OwnI _ w.heap.size g ts.length c (outOf (resR ts) ts) by have h := unhide hO; rw [List.take_of_length_le (by rw [out_len]; omega)] at h; exact h)
      clear hO
      go_wp2
      go_ret
      exact ⟨g, c, rfl, unhide hfin, unhide hB⟩
    have gk : decide ((k : Int) < ts.length) = true := by simp; omega
    obtain ⟨b, o, p, c', t, rfl, hx, i1, c0, c1, c2, c3, hK, hmx⟩ := tks_at (unhide hr') (unhide hB) hlt
    have hx' := hide hx
    have hok := job_tok (unhide hJ') hx
    have hn10 := hok.len
    have hK' := hide hK
    have hk0 := hok.kind0
    have hk1 := hok.kind1
    have hv0 := hok.val0
    have hv1 := hok.val1
    have f1 : IntKind.i64.wrap (t.1 * 1000003) = t.1 * 1000003 := by rw [IntKind.wrap_i64]; omega
    have f2 : IntKind.i64.wrap (t.1 * 1000003 + t.2.1) = t.1 * 1000003 + t.2.1 := by rw [IntKind.wrap_i64]; omega
    have f3 : (t.1 * 1000003 + t.2.1).tmod 1000000007 = (t.1 * 1000003 + t.2.1) % 1000000007 := Int.tmod_eq_emod_of_nonneg (by omega)
    obtain ⟨h0, eh0⟩ : ∃ h0, (t.1 * 1000003 + t.2.1) % 1000000007 = h0 := ⟨_, rfl⟩
    have hh0 : 0 ≤ h0 ∧ h0 < 1000000007 := by omega
    rw [eh0] at f3
    have eh0' := hide eh0
    clear hx hK hmx eh0
    rename World => wo
    go_wp2_with fail
    go_quiet (fail)
    go_wp2
    go_loop [5, 6] (fun u v => ∃ (q : Nat) (x : Int), q ≤ t.2.2.1.length ∧ v = .int .i64 q ∧ u = .int .i64 x ∧ Hid (x = rneed ts h0 (t.2.2.1.take q)) ∧ 0 ≤ x ∧ x < 1000000007) (fun _ v => t.2.2.1.length - (intOf v).toNat)
    case atStart => exact ⟨0, h0, by omega, rfl, rfl, hide (by simp [rneed]), by omega, by omega⟩
    case round =>
      obtain ⟨q, x, hq, rfl, rfl, hpx, x0, x1⟩ := hrel
      by_cases hql : q < t.2.2.1.length
      · have gq : decide ((q : Int) < t.2.2.1.length) = true := by simp; omega
        obtain ⟨b2, o2, z, rfl, hz, i2, d0⟩ := ins_at (unhide hK') (Below.refl _ _) hql
        have hnd := (job_tok (unhide hJ') (unhide hx')).need z (List.mem_of_getElem? hz)
        obtain ⟨zn, rfl⟩ := Int.eq_ofNat_of_zero_le hnd.1
        have hzk : zn < k := by omega
        have hzl : zn < (outOf (resR ts) ts).length := by rw [out_len]; omega
        obtain ⟨y, hy⟩ : ∃ y, (outOf (resR ts) ts)[zn]? = some y := ⟨_, List.getElem?_eq_getElem hzl⟩
        have hyb := rs_rng (unhide hJ') zn y hy
        have e0 := ownI_at (k := zn) (x := y) (by rw [List.getElem?_take_of_lt hzk]; exact hy) (unhide hO)
        have hst1 := hide (show rneed ts h0 (t.2.2.1.take (q + 1)) = hst x y by rw [rneed_snoc hz (by rw [Int.toNat_natCast]; exact hy), ← unhide hpx])
        have hmb := hst_rng x y
        have q1 : IntKind.i64.wrap (x * 257) = x * 257 := by rw [IntKind.wrap_i64]; omega
        have q2 : IntKind.i64.wrap (x * 257 + y) = x * 257 + y := by rw [IntKind.wrap_i64]; omega
        have q3 : IntKind.i64.wrap (x * 257 + y + 1) = x * 257 + y + 1 := by rw [IntKind.wrap_i64]; omega
        have q4 : (x * 257 + y + 1).tmod 1000000007 = hst x y := by rw [Int.tmod_eq_emod_of_nonneg (by omega)]; rfl
        clear hnd hz i2 hpx hy hzl
        generalize hst x y = x2 at *
        go_wp2
        go_round
        case rel => exact ⟨q + 1, x2, by omega, by go_num, rfl, hide (unhide hst1).symm, by omega, by omega⟩
        case measure => simp [intOf]; omega
      · have gq : decide ((q : Int) < t.2.2.1.length) = false := by simp; omega
        have hqe : q = t.2.2.1.length := by omega
        have hxv : x = rneed ts h0 t.2.2.1 := by have h1 := unhide hpx; rw [hqe, List.take_length] at h1; exact h1
        have hval : (outOf (resR ts) ts)[k]? = some x := by
          rw [out_at (unhide hJ') (unhide hx')]
          simp only [resR, unhide hx']
          rw [hxv, ← unhide eh0']
          rfl
        have hrowk := hide (show (outOf (resR ts) ts).take (k + 1) = (outOf (resR ts) ts).take k ++ [x] by rw [List.take_add_one, hval]; rfl)
        have hsz := (unhide hB).size
        clear hpx hqe hxv hval f1 f2 f3 hh0 eh0'
        go_wp2_with (refine wpList_iA _ rfl _ _ rfl w.heap.size g k c _ x rfl (unhide hO) rfl ?b3 ?b4 ?_)
        case b3 => omega
        intro g' cap' w5 ho hb5 hg5
        have hB5 := hide (Below.trans (show Below w.heap.size w (wo.drewN _) from ⟨(unhide hB).os, (unhide hB).tape, (unhide hB).output, (unhide hB).size, (unhide hB).block⟩) hb5)
        rw [← unhide hrowk] at ho
        have hO5 := hide ho
        clear ho hb5 hg5 hO c0 c1 c2 c3
        go_wp2
        go_roundw
        case rel => exact ⟨k + 1, g', cap', by omega, by go_num, rfl, hO5, hB5⟩
        case measure => simp [intOf]; omega
set_option maxHeartbeats 1600000 in
theorem sres_any (a : Option Addr) (cap : Nat) (ts : List Tv) (w : World) (hl : ts.length ≤ maxLen) (hr : Tks w a ts) :
    Calls Try.prog 22 #[.slice a ts.length cap] w fun e w' => ∃ B c, e = .returned (.slice (some ⟨B, 0, none⟩) (if jobOk ts then outOf (resR ts) ts else []).length c) ∧ Ins w' (some ⟨B, 0, none⟩) (if jobOk ts then outOf (resR ts) ts else []) ∧ Below w.heap.size w w' := by
  have hl' := hide hl
  have hr' := hide hr
  clear hr hl
  obtain ⟨J, hJ⟩ : ∃ J, jobOk ts = J := ⟨_, rfl⟩
  have hJ' := hide hJ
  rw [hJ]
  clear hJ
  go_enter Try.func22, Try.ntmps22
  go_wp2_with fail
  refine (sjob_any a cap ts _ (unhide hl') (unhide hr')).mono ?_
  rintro e w1 ⟨rfl, hB1⟩
  rw [unhide hJ']
  have hB1' := hide hB1
  clear hB1
  cases J with
  | false =>
    have hrow := hide (ownI_lit0 w1 (B := w.heap.size) (unhide hB1').size)
    have hB2 := hide ((unhide hB1').alloc (unhide hB1').size (.cells #[] 2))
    go_wp2
    go_ret
    exact ⟨w1.heap.size, ⟨0, rfl⟩, ins_own (unhide hrow), unhide hB2⟩
  | true =>
    go_wp2_with fail
    refine (sro_any a cap ts w1 (unhide hJ') ((unhide hr').below (unhide hB1'))).mono ?_
    rintro e w2 ⟨B, c, rfl, ho, hb2⟩
    have hfin := hide (ins_own ho)
    have hB2 := hide (laterB (unhide hB1') hb2)
    clear ho hb2
    go_wp2
    go_ret
    exact ⟨B, ⟨c, by rw [out_len]; rfl⟩, unhide hfin, unhide hB2⟩
end Go.Proofs.Ytpmmimcafkillaa
