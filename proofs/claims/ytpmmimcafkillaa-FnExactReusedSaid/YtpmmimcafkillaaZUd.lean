/-
  The contracts of the model's results; nothing that was there is written.
  The contract of the model's Reused; nothing that was there is written.
  The contracts of slices.Index and slices.Contains over numbers, called alone; nothing is written.
  The program's Reused: what it does with what is worked out of the old and of the new job, by a lone walk.
-/
import Derived.Test.YtpmmimcafkillaaZJbS
import Derived.Test.YtpmmimcafkillaaZCopyL
import Derived.Test.YtpmmimcafkillaaZXp
import Derived.BigQuiet
import Derived.Test.YtpmmimcafkillaaZRnM
import Derived.Test.YtpmmimcafkillaaZUa
import Derived.Test.YtpmmimcafkillaaZJbP
namespace Go.Proofs.Ytpmmimcafkillaa
open Go.RowKit
open Go.Proofs.Ytpmmimcafkillaa.Rs (outOf out_len out_at resR hst ask)
set_option linter.unusedVariables false
set_option linter.unusedSimpArgs false
/-- what the first needs make of a start -/
def rneed (ts : List Tv) (h : Int) (zs : List Int) : Int := (zs.map fun n => (outOf (resR ts) ts).getD n.toNat 0).foldl hst h
theorem rneed_snoc {ts : List Tv} {h : Int} {zs : List Int} {q : Nat} {z y : Int} (hz : zs[q]? = some z) (hy : (outOf (resR ts) ts)[z.toNat]? = some y) : rneed ts h (zs.take (q + 1)) = hst (rneed ts h (zs.take q)) y := by
  have e : zs.take (q + 1) = zs.take q ++ [z] := by rw [List.take_add_one, hz]; rfl
  unfold rneed
  rw [e, List.map_append, List.foldl_append]
  show hst _ ((outOf (resR ts) ts).getD z.toNat 0) = _
  rw [List.getD_eq_getElem?_getD, hy, Option.getD_some]
theorem hst_rng (h x : Int) : 0 ≤ hst h x ∧ hst h x < 1000000007 := by unfold hst; omega
theorem hst_foldr (vs : List Int) : ∀ h : Int, 0 ≤ h ∧ h < 1000000007 → 0 ≤ vs.foldl hst h ∧ vs.foldl hst h < 1000000007 := by
  induction vs with
  | nil => intro h hh; exact hh
  | cons v vs ih => intro h hh; exact ih _ (hst_rng h v)
theorem rs_rng {ts : List Tv} (hj : jobOk ts = true) (k : Nat) (x : Int) (hx : (outOf (resR ts) ts)[k]? = some x) : 0 ≤ x ∧ x < 1000000007 := by
  have hlt : k < ts.length := by rw [← out_len (resR ts) ts]; exact (List.getElem?_eq_some_iff.1 hx).1
  have ht := List.getElem?_eq_getElem hlt
  have e := Option.some.inj (hx.symm.trans (out_at (f := resR ts) hj ht))
  simp only [resR, ht] at e
  rw [e]
  exact hst_foldr _ _ ⟨Int.emod_nonneg _ (by omega), Int.emod_lt_of_pos _ (by omega)⟩
set_option maxRecDepth 100000 in
set_option maxHeartbeats 6400000 in
theorem sro_any (a : Option Addr) (cap : Nat) (ts : List Tv) (w : World) (hj : jobOk ts = true) (hr : Tks w a ts) :
    Calls Try.prog 49 #[.slice a ts.length cap] w fun e w' => ∃ B c, e = .returned (.slice (some ⟨B, 0, none⟩) ts.length c) ∧ OwnI w' w.heap.size B ts.length c (outOf (resR ts) ts) ∧ Below w.heap.size w w' := by
  have hr' := hide hr
  have hJ' := hide hj
  have hs200 : ts.length ≤ 200 := job_short hj
  clear hr hj
  go_enter Try.func49, Try.ntmps49
  have hrow := hide (ownI_lit0 w (B := w.heap.size) (Nat.le_refl _))
  have hB2 := hide ((Below.refl w.heap.size w).alloc (Nat.le_refl _) (.cells #[] 2))
  go_wp2
  go_loopw [3, 4] (fun u t wr => ∃ (k g c : Nat), k ≤ ts.length ∧ t = .int .i64 k ∧ u = .slice (some ⟨g, 0, none⟩) k c ∧ Hid (OwnI wr w.heap.size g k c ((outOf (resR ts) ts).take k)) ∧ Hid (Below w.heap.size w wr)) (fun _ t _ => ts.length - (intOf t).toNat)
  case atStart => exact ⟨0, w.heap.size, 0, by omega, rfl, rfl, hrow, hB2⟩
  case round =>
    obtain ⟨k, g, c, hk, rfl, rfl, hO, hB⟩ := hrel
    clear hrow hB2
    by_cases hlt : k < ts.length
    rotate_left
    · obtain rfl : k = ts.length := by omega
      have gk : decide ((ts.length : Int) < ts.length) = false := by simp
      have hfin := hide (show OwnI _ w.heap.size g ts.length c (outOf (resR ts) ts) by have h := unhide hO; rw [List.take_of_length_le (by rw [out_len]; omega)] at h; exact h)
      clear hO
      go_wp2
      go_ret
      exact ⟨g, c, rfl, unhide hfin, unhide hB⟩
    have gk : decide ((k : Int) < ts.length) = true := by simp; omega
    obtain ⟨b, o, p, c', t, rfl, hx, i1, c0, c1, c2, c3, hK, hmx⟩ := tks_at (unhide hr') (unhide hB) hlt
    have hx' := hide hx
    have hok := job_tok (unhide hJ') hx
    have hn10 := hok.len
    have hK' := hide hK
    have hk0 := hok.kind0
    have hk1 := hok.kind1
    have hv0 := hok.val0
    have hv1 := hok.val1
    have f1 : IntKind.i64.wrap (t.1 * 1000003) = t.1 * 1000003 := by rw [IntKind.wrap_i64]; omega
    have f2 : IntKind.i64.wrap (t.1 * 1000003 + t.2.1) = t.1 * 1000003 + t.2.1 := by rw [IntKind.wrap_i64]; omega
    have f3 : (t.1 * 1000003 + t.2.1).tmod 1000000007 = (t.1 * 1000003 + t.2.1) % 1000000007 := Int.tmod_eq_emod_of_nonneg (by omega)
    obtain ⟨h0, eh0⟩ : ∃ h0, (t.1 * 1000003 + t.2.1) % 1000000007 = h0 := ⟨_, rfl⟩
    have hh0 : 0 ≤ h0 ∧ h0 < 1000000007 := by omega
    rw [eh0] at f3
    have eh0' := hide eh0
    clear hx hK hmx eh0
    rename World => wo
    go_wp2_with fail
    go_quiet (fail)
    go_wp2
    go_loop [5, 6] (fun u v => ∃ (q : Nat) (x : Int), q ≤ t.2.2.1.length ∧ v = .int .i64 q ∧ u = .int .i64 x ∧ Hid (x = rneed ts h0 (t.2.2.1.take q)) ∧ 0 ≤ x ∧ x < 1000000007) (fun _ v => t.2.2.1.length - (intOf v).toNat)
    case atStart => exact ⟨0, h0, by omega, rfl, rfl, hide (by simp [rneed]), by omega, by omega⟩
    case round =>
      obtain ⟨q, x, hq, rfl, rfl, hpx, x0, x1⟩ := hrel
      by_cases hql : q < t.2.2.1.length
      · have gq : decide ((q : Int) < t.2.2.1.length) = true := by simp; omega
        obtain ⟨b2, o2, z, rfl, hz, i2, d0⟩ := ins_at (unhide hK') (Below.refl _ _) hql
        have hnd := (job_tok (unhide hJ') (unhide hx')).need z (List.mem_of_getElem? hz)
        obtain ⟨zn, rfl⟩ := Int.eq_ofNat_of_zero_le hnd.1
        have hzk : zn < k := by omega
        have hzl : zn < (outOf (resR ts) ts).length := by rw [out_len]; omega
        obtain ⟨y, hy⟩ : ∃ y, (outOf (resR ts) ts)[zn]? = some y := ⟨_, List.getElem?_eq_getElem hzl⟩
        have hyb := rs_rng (unhide hJ') zn y hy
        have e0 := ownI_at (k := zn) (x := y) (by rw [List.getElem?_take_of_lt hzk]; exact hy) (unhide hO)
        have hst1 := hide (show rneed ts h0 (t.2.2.1.take (q + 1)) = hst x y by rw [rneed_snoc hz (by rw [Int.toNat_natCast]; exact hy), ← unhide hpx])
        have hmb := hst_rng x y
        have q1 : IntKind.i64.wrap (x * 257) = x * 257 := by rw [IntKind.wrap_i64]; omega
        have q2 : IntKind.i64.wrap (x * 257 + y) = x * 257 + y := by rw [IntKind.wrap_i64]; omega
        have q3 : IntKind.i64.wrap (x * 257 + y + 1) = x * 257 + y + 1 := by rw [IntKind.wrap_i64]; omega
        have q4 : (x * 257 + y + 1).tmod 1000000007 = hst x y := by rw [Int.tmod_eq_emod_of_nonneg (by omega)]; rfl
        clear hnd hz i2 hpx hy hzl
        generalize hst x y = x2 at *
        go_wp2
        go_round
        case rel => exact ⟨q + 1, x2, by omega, by go_num, rfl, hide (unhide hst1).symm, by omega, by omega⟩
        case measure => simp [intOf]; omega
      · have gq : decide ((q : Int) < t.2.2.1.length) = false := by simp; omega
        have hqe : q = t.2.2.1.length := by omega
        have hxv : x = rneed ts h0 t.2.2.1 := by have h1 := unhide hpx; rw [hqe, List.take_length] at h1; exact h1
        have hval : (outOf (resR ts) ts)[k]? = some x := by
          rw [out_at (unhide hJ') (unhide hx')]
          simp only [resR, unhide hx']
          rw [hxv, ← unhide eh0']
          rfl
        have hrowk := hide (show (outOf (resR ts) ts).take (k + 1) = (outOf (resR ts) ts).take k ++ [x] by rw [List.take_add_one, hval]; rfl)
        have hsz := (unhide hB).size
        clear hpx hqe hxv hval f1 f2 f3 hh0 eh0'
        go_wp2_with (refine wpList_iA _ rfl _ _ rfl w.heap.size g k c _ x rfl (unhide hO) rfl ?b3 ?b4 ?_)
        case b3 => omega
        intro g' cap' w5 ho hb5 hg5
        have hB5 := hide (Below.trans (show Below w.heap.size w (wo.drewN _) from ⟨(unhide hB).os, (unhide hB).tape, (unhide hB).output, (unhide hB).size, (unhide hB).block⟩) hb5)
        rw [← unhide hrowk] at ho
        have hO5 := hide ho
        clear ho hb5 hg5 hO c0 c1 c2 c3
        go_wp2
        go_roundw
        case rel => exact ⟨k + 1, g', cap', by omega, by go_num, rfl, hO5, hB5⟩
        case measure => simp [intOf]; omega
set_option maxHeartbeats 1600000 in
theorem sres_any (a : Option Addr) (cap : Nat) (ts : List Tv) (w : World) (hl : ts.length ≤ maxLen) (hr : Tks w a ts) :
    Calls Try.prog 22 #[.slice a ts.length cap] w fun e w' => ∃ B c, e = .returned (.slice (some ⟨B, 0, none⟩) (if jobOk ts then outOf (resR ts) ts else []).length c) ∧ Ins w' (some ⟨B, 0, none⟩) (if jobOk ts then outOf (resR ts) ts else []) ∧ Below w.heap.size w w' := by
  have hl' := hide hl
  have hr' := hide hr
  clear hr hl
  obtain ⟨J, hJ⟩ : ∃ J, jobOk ts = J := ⟨_, rfl⟩
  have hJ' := hide hJ
  rw [hJ]
  clear hJ
  go_enter Try.func22, Try.ntmps22
  go_wp2_with fail
  refine (sjob_any a cap ts _ (unhide hl') (unhide hr')).mono ?_
  rintro e w1 ⟨rfl, hB1⟩
  rw [unhide hJ']
  have hB1' := hide hB1
  clear hB1
  cases J with
  | false =>
    have hrow := hide (ownI_lit0 w1 (B := w.heap.size) (unhide hB1').size)
    have hB2 := hide ((unhide hB1').alloc (unhide hB1').size (.cells #[] 2))
    go_wp2
    go_ret
    exact ⟨w1.heap.size, ⟨0, rfl⟩, ins_own (unhide hrow), unhide hB2⟩
  | true =>
    go_wp2_with fail
    refine (sro_any a cap ts w1 (unhide hJ') ((unhide hr').below (unhide hB1'))).mono ?_
    rintro e w2 ⟨B, c, rfl, ho, hb2⟩
    have hfin := hide (ins_own ho)
    have hB2 := hide (laterB (unhide hB1') hb2)
    clear ho hb2
    go_wp2
    go_ret
    exact ⟨B, ⟨c, by rw [out_len]; rfl⟩, unhide hfin, unhide hB2⟩
end Go.Proofs.Ytpmmimcafkillaa

namespace Go.Proofs.Ytpmmimcafkillaa
open Go.RowKit
open Go.Proofs.Ytpmmimcafkillaa.Rs (outOf out_len out_at resR)
set_option linter.unusedVariables false
set_option linter.unusedSimpArgs false
/-! what is left to do, plain -/
def rcost (bs : List Tv) (i : Nat) : Int := match bs[i]? with
  | some t => t.2.2.2
  | none => 0
def ruv (A B : List Int) (bs : List Tv) (i : Nat) : Int := if A.contains (B.getD i 0) then 0 else rcost bs i
def ruk (A B : List Int) (bs : List Tv) (k : Nat) : List Int := (List.range k).map fun i => ruv A B bs i
theorem ruk_len (A B : List Int) (bs : List Tv) (k : Nat) : (ruk A B bs k).length = k := by simp [ruk]
theorem ruk_succ (A B : List Int) (bs : List Tv) (k : Nat) : ruk A B bs (k + 1) = ruk A B bs k ++ [ruv A B bs k] := by simp [ruk, List.range_succ]
def reuOf (ps bs : List Tv) : List Int := if jobOk ps && jobOk bs then ruk (outOf (resR ps) ps) (outOf (resR bs) bs) bs bs.length else []
theorem con_snoc {A : List Int} {q : Nat} {x y : Int} (h : A[q]? = some x) : (A.take (q + 1)).contains y = ((A.take q).contains y || (x == y)) := by
  have e : A.take (q + 1) = A.take q ++ [x] := by rw [List.take_add_one, h]; rfl
  rw [e, Bool.eq_iff_iff]
  simp only [List.contains_iff_mem, List.mem_append, List.mem_singleton, Bool.or_eq_true, beq_iff_eq]
  exact ⟨fun h => h.imp id Eq.symm, fun h => h.imp id Eq.symm⟩
/-! the three lists in memory -/
structure R3 (W0 wr : World) (gA cA gB cB g c nA nB m : Nat) (A B r : List Int) : Prop where
  A : OwnI wr W0.heap.size gA nA cA A
  B : OwnI wr W0.heap.size gB nB cB B
  R : OwnI wr W0.heap.size g m c r
  na : gA ≠ g
  nb : gB ≠ g
  bel : Below W0.heap.size W0 wr
theorem R3.app {W0 wr w1 : World} {gA cA gB cB g c g' c' nA nB m : Nat} {A B r : List Int} {v : Int} (h : R3 W0 wr gA cA gB cB g c nA nB m A B r) (ho : OwnI w1 W0.heap.size g' (m + 1) c' (r ++ [v])) (hg : (wr.alloc (.cells #[.int .i64 v] 2)).grownBy w1 (some g)) (he : g' = g ∨ g' = wr.heap.size + 1) : R3 W0 w1 gA cA gB cB g' c' nA nB (m + 1) A B (r ++ [v]) :=
  have hb : Below wr.heap.size wr (wr.alloc (.cells #[.int .i64 v] 2)) := (Below.refl _ _).alloc (Nat.le_refl _) _
  have lA := own_lt h.A
  have lB := own_lt h.B
  ⟨own_kept (ownsRow_below h.A hb) hg h.na, own_kept (ownsRow_below h.B hb) hg h.nb, ho, by have := h.na; omega, by have := h.nb; omega, below_grown (laterB h.bel hb) hg (own_ge h.R)⟩
theorem R3.drew {W0 wr : World} {d gA cA gB cB g c nA nB m : Nat} {A B r : List Int} (h : R3 W0 wr gA cA gB cB g c nA nB m A B r) : R3 W0 (wr.drewN d) gA cA gB cB g c nA nB m A B r :=
  ⟨h.A, h.B, h.R, h.na, h.nb, ⟨h.bel.os, h.bel.tape, h.bel.output, h.bel.size, h.bel.block⟩⟩
set_option maxRecDepth 100000 in
set_option maxHeartbeats 6400000 in
theorem sreu_any (a b : Option Addr) (cap cb : Nat) (ps bs : List Tv) (w : World) (hl : ps.length ≤ maxLen) (hbl : bs.length ≤ maxLen) (hr : Tks w a ps) (hs : Tks w b bs) :
    Calls Try.prog 30 #[.slice a ps.length cap, .slice b bs.length cb] w (RSd w (reuOf ps bs)) := by
  have hr' := hide hr
  have hs' := hide hs
  have B0 := hide (show Below w.heap.size w (w.alloc (.cells #[] 2)) from (Below.refl _ _).alloc (Nat.le_refl _) _)
  have O0 := hide (ownI_lit0 w (B := w.heap.size) (Nat.le_refl _))
  have cj := hide (sjob_any a cap ps (w.alloc (.cells #[] 2)) hl (hr.below (unhide B0)))
  have hbl' := hide hbl
  clear hr hs
  obtain ⟨D, hD⟩ : ∃ D, reuOf ps bs = D := ⟨_, rfl⟩
  rw [hD]
  have hD' := hide hD
  clear hD
  obtain ⟨J, hJ⟩ : ∃ J, jobOk ps = J := ⟨_, rfl⟩
  have hJ' := hide hJ
  clear hJ
  unfold maxLen at hl hbl
  go_enter Try.func30, Try.ntmps30
  go_wp2_with fail
  refine (unhide cj).mono ?_
  rintro e w1 ⟨rfl, k1⟩
  rw [unhide hJ']
  have B1 := hide (laterB (unhide B0) k1)
  have R1 := hide (show OwnI w1 w.heap.size w.heap.size 0 0 [] from ownsRow_below (unhide O0) k1)
  clear k1 cj B0 O0
  cases J with
  | false =>
    have hf := hide (show D = [] by rw [← unhide hD', reuOf, unhide hJ']; rfl)
    go_wp2
    go_ret
    exact RSd.nil (unhide hf) (unhide B1)
  | true =>
  obtain ⟨J2, hJ2⟩ : ∃ J, jobOk bs = J := ⟨_, rfl⟩
  have hJ2' := hide hJ2
  clear hJ2
  go_wp2_with fail
  refine (sjob_any b cb bs _ (unhide hbl') ((unhide hs').below (unhide B1))).mono ?_
  rintro e w2 ⟨rfl, k2⟩
  rw [unhide hJ2']
  have B2 := hide (laterB (unhide B1) k2)
  have R2 := hide (show OwnI w2 w.heap.size w.heap.size 0 0 [] from ownsRow_below (unhide R1) k2)
  clear k2 B1 R1
  cases J2 with
  | false =>
    have hf := hide (show D = [] by rw [← unhide hD', reuOf, unhide hJ', unhide hJ2']; rfl)
    go_wp2
    go_ret
    exact RSd.nil (unhide hf) (unhide B2)
  | true =>
  have ha200 : ps.length ≤ 200 := job_short (unhide hJ')
  have hb200 : bs.length ≤ 200 := job_short (unhide hJ2')
  go_wp2_with fail
  refine (sro_any a cap ps w2 (unhide hJ') ((unhide hr').below (unhide B2))).mono ?_
  rintro e w3 ⟨gA, cA, rfl, oA, k3⟩
  have lA := own_ge oA
  have lw := own_lt (unhide R2)
  have nA : gA ≠ w.heap.size := by omega
  have A3 := hide (own_mono oA (unhide B2).size)
  have B3 := hide (laterB (unhide B2) k3)
  have Q3 := hide (show OwnI w3 w.heap.size w.heap.size 0 0 [] from ownsRow_below (unhide R2) k3)
  have lw3 := own_lt (unhide Q3)
  clear k3 B2 R2 oA lA lw
  go_wp2_with fail
  refine (sro_any b cb bs w3 (unhide hJ2') ((unhide hs').below (unhide B3))).mono ?_
  rintro e w4 ⟨gB, cB, rfl, oB, k4⟩
  have lB := own_ge oB
  have nB : gB ≠ w.heap.size := by omega
  obtain ⟨A, hA⟩ : ∃ A, outOf (resR ps) ps = A := ⟨_, rfl⟩
  obtain ⟨B, hB⟩ : ∃ A, outOf (resR bs) bs = A := ⟨_, rfl⟩
  have hAl : A.length = ps.length := by rw [← hA, out_len]
  have hBl : B.length = bs.length := by rw [← hB, out_len]
  have hD2 := hide (show D = ruk A B bs bs.length by rw [← unhide hD', reuOf, unhide hJ', unhide hJ2', hA, hB]; rfl)
  have M0 := hide (show R3 w w4 gA cA gB cB w.heap.size 0 ps.length bs.length 0 A B (ruk A B bs 0) from ⟨hA ▸ ownsRow_below (unhide A3) k4, hB ▸ own_mono oB (unhide B3).size, ownsRow_below (unhide Q3) k4, nA, nB, laterB (unhide B3) k4⟩)
  clear k4 B3 Q3 oB lB A3 hA hB nA nB lw3 hD'
  obtain ⟨g0, hg0⟩ : ∃ g, w.heap.size = g := ⟨_, rfl⟩
  have M1 := hide (show R3 w w4 gA cA gB cB g0 0 ps.length bs.length 0 A B (ruk A B bs 0) by rw [← hg0]; exact unhide M0)
  rw [hg0]
  clear M0 hg0
  go_wp2
  go_loopw [5, 8] (fun u t wr => ∃ (k g c : Nat), k ≤ bs.length ∧ t = .int .i64 k ∧ u = .slice (some ⟨g, 0, none⟩) k c ∧ Hid (R3 w wr gA cA gB cB g c ps.length bs.length k A B (ruk A B bs k))) (fun _ t _ => bs.length - (intOf t).toNat)
  case atStart => exact ⟨0, g0, 0, by omega, rfl, rfl, M1⟩
  case round =>
    obtain ⟨k, g, c, hk, rfl, rfl, hM⟩ := hrel
    clear M1
    by_cases hlt : k < bs.length
    rotate_left
    · obtain rfl : k = bs.length := by omega
      have gk : decide ((bs.length : Int) < bs.length) = false := by simp
      go_wp2
      go_ret
      exact RSd.mk (by rw [unhide hD2, ruk_len]) (by rw [unhide hD2]; exact ins_own (unhide hM).R) (unhide hM).bel
    have gk : decide ((k : Int) < bs.length) = true := by simp; omega
    obtain ⟨b1, o1, p, c', t, rfl, hx, i1, c0, c1, c2, c3, hK, hmx⟩ := tks_at (unhide hs') (unhide hM).bel hlt
    obtain ⟨y, hy⟩ : ∃ y, B[k]? = some y := ⟨_, List.getElem?_eq_getElem (by omega)⟩
    have hval := hide (show ruv A B bs k = if A.contains y then 0 else t.2.2.2 by unfold ruv rcost; rw [hx, List.getD_eq_getElem?_getD, hy]; rfl)
    have hy' := hide hy
    have hgs := (unhide hM).bel.size
    clear hx hmx hK c0 c1 c2 hy
    rename World => wo
    go_wp2
    go_loopw [9, 10] (fun u v wr => ∃ (q d : Nat) (x : Int), q ≤ ps.length ∧ v = .int .i64 q ∧ u = .int .i64 x ∧ wr = wo.drewN d ∧ Hid (x = if (A.take q).contains y then 0 else t.2.2.2)) (fun _ v _ => ps.length - (intOf v).toNat)
    case atStart => exact ⟨0, 0, t.2.2.2, by omega, rfl, rfl, rfl, hide (by simp)⟩
    case round =>
      obtain ⟨q, d, x, hq, rfl, rfl, rfl, hpx⟩ := hrel
      clear c3
      have hMd := hide ((unhide hM).drew (d := d))
      by_cases hql : q < ps.length
      · have gq : decide ((q : Int) < ps.length) = true := by simp; omega
        obtain ⟨z, hz⟩ : ∃ z, A[q]? = some z := ⟨_, List.getElem?_eq_getElem (by omega)⟩
        have e0 := ownI_at hz (unhide hM).A
        have e1 := ownI_at (unhide hy') (unhide hM).B
        have hsn := hide (con_snoc (y := y) hz)
        clear hz
        cases hzy : z == y with
        | true =>
          have hst := hide (show (0 : Int) = if (A.take (q + 1)).contains y then 0 else t.2.2.2 by rw [unhide hsn, hzy, Bool.or_true]; rfl)
          clear hsn hpx
          go_wp2_with fail
          go_quiet (fail)
          go_wp2
          go_roundw
          case rel => exact ⟨q + 1, _, 0, by omega, by go_num, rfl, rfl, hst⟩
          case measure => simp [intOf]; omega
        | false =>
          have hst := hide (show x = if (A.take (q + 1)).contains y then 0 else t.2.2.2 by rw [unhide hsn, hzy, Bool.or_false]; exact unhide hpx)
          clear hsn hpx
          go_wp2_with fail
          go_quiet (fail)
          go_wp2
          go_roundw
          case rel => exact ⟨q + 1, _, x, by omega, by go_num, rfl, rfl, hst⟩
          case measure => simp [intOf]; omega
      · have gq : decide ((q : Int) < ps.length) = false := by simp; omega
        have hqe : A.take q = A := List.take_of_length_le (by omega)
        have hxv : x = ruv A B bs k := by rw [unhide hpx, hqe, unhide hval]
        have hrow := hide (show ruk A B bs (k + 1) = ruk A B bs k ++ [x] by rw [ruk_succ, hxv])
        have hgs2 := (unhide hMd).bel.size
        clear hpx hqe hxv hval
        go_wp2_with (refine Rn.wpList_iX _ rfl _ _ rfl w.heap.size g k c _ x rfl (unhide hMd).R rfl ?b3 hgs2 ?_)
        case b3 => omega
        intro g' cap' w9 hO hg9 he9
        have hM6 := hide (show R3 w w9 gA cA gB cB g' cap' ps.length bs.length (k + 1) A B (ruk A B bs (k + 1)) by rw [unhide hrow]; exact (unhide hMd).app hO hg9 he9)
        clear hO hg9 he9 hMd hM hrow
        go_wp2
        go_roundw
        case rel => exact ⟨k + 1, g', cap', by omega, by go_num, rfl, hM6⟩
        case measure => simp [intOf]; omega
end Go.Proofs.Ytpmmimcafkillaa

namespace Go.Proofs.Ytpmmimcafkillaa
open Go.RowKit
set_option linter.unusedVariables false
set_option linter.unusedSimpArgs false
set_option maxRecDepth 100000 in
set_option maxHeartbeats 1600000 in
theorem idx_any (a : Option Addr) (cap : Nat) (zs : List Int) (n : Int) (w : World) (hl : zs.length ≤ maxLen) (hr : Ins w a zs) :
    Calls Try.prog 65 #[.slice a zs.length cap, .int .i64 n] w fun e w' => (∃ r : Int, e = .returned (.int .i64 r) ∧ (0 ≤ r ↔ n ∈ zs)) ∧ w' = w := by
  unfold maxLen at hl
  have hr' := hide hr
  clear hr
  have hf := hide (show zs.contains n = (zs.drop 0).contains n by simp)
  go_enter Try.func65, Try.ntmps65
  go_wp2
  go_loop [8] (fun t => ∃ (k : Nat), k ≤ zs.length ∧ t = .int .i64 k ∧ Hid (zs.contains n = (zs.drop k).contains n)) (fun t => zs.length - (intOf t).toNat)
  case atStart => exact ⟨0, by omega, rfl, hf⟩
  case round =>
    obtain ⟨k, hk, rfl, hm⟩ := hrel
    by_cases hlt : k < zs.length
    · have gk : decide ((k : Int) < zs.length) = true := by simp; omega
      obtain ⟨b, o, x, rfl, hx, i1, c0⟩ := ins_at (unhide hr') (Below.refl _ _) hlt
      have hd := hide (show zs.contains n = (n == x || (zs.drop (k + 1)).contains n) by rw [unhide hm, drop_at hx, List.contains_cons])
      clear hx hm i1
      by_cases h1 : n = x
      · have g1 : (n == x) = true := by simpa using h1
        have hfin := hide (show (0 : Int) ≤ (k : Int) ↔ n ∈ zs from ⟨fun _ => by rw [← List.contains_iff_mem, unhide hd, g1]; rfl, fun _ => by omega⟩)
        subst h1
        clear hd
        go_wp2
        go_ret
        exact ⟨⟨(k : Int), rfl, unhide hfin⟩, rfl⟩
      · have g1 : (n == x) = false := by simpa using h1
        have hfin := hide (show zs.contains n = (zs.drop (k + 1)).contains n by rw [unhide hd, g1]; rfl)
        clear hd
        go_wp2
        go_round
        case rel => exact ⟨k + 1, by omega, by go_num, hfin⟩
        case measure => simp [intOf]; omega
    · have gk : decide ((k : Int) < zs.length) = false := by simp; omega
      have hfin := hide (show (0 : Int) ≤ -1 ↔ n ∈ zs from ⟨fun h => by omega, fun h => by rw [← List.contains_iff_mem, unhide hm, drop_end hlt] at h; cases h⟩)
      clear hm
      go_wp2
      go_ret
      exact ⟨⟨-1, rfl, unhide hfin⟩, rfl⟩
set_option maxHeartbeats 800000 in
theorem con_any (a : Option Addr) (cap : Nat) (zs : List Int) (n : Int) (w : World) (hl : zs.length ≤ maxLen) (hr : Ins w a zs) :
    Calls Try.prog 46 #[.slice a zs.length cap, .int .i64 n] w fun e w' => e = .returned (.bool (zs.contains n)) ∧ w' = w := by
  have hr' := hide hr
  have hl' := hide hl
  clear hr hl
  go_enter Try.func46, Try.ntmps46
  go_wp2_with fail
  refine (idx_any a cap zs n _ (unhide hl') (unhide hr')).mono ?_
  rintro e w1 ⟨⟨r, rfl, hc0⟩, rfl⟩
  have hc := hide hc0
  clear hc0
  go_wp2
  go_ret
  refine ⟨ret_bool ?_, rfl⟩
  rw [Bool.eq_iff_iff, List.contains_iff_mem, ← unhide hc]
  simp
end Go.Proofs.Ytpmmimcafkillaa

set_option linter.unusedVariables false
set_option linter.unusedSimpArgs false
namespace Go.Proofs.Ytpmmimcafkillaa.Tr
open Go Go.RowKit
open Go.Proofs.Ytpmmimcafkillaa (Ins OwnI Tks Tv iv ins_at tks_at infoI own_ge own_lt ownI_at ins_own ruv ruk rcost ownI_put con_any own_set)
/-- the row of what is left, known up to k -/
def rwk (A B : List Int) (bs : List Tv) (k : Nat) : List Int := (List.range bs.length).map fun i => if i < k then ruv A B bs i else 0
theorem rwk_zero (A B : List Int) (bs : List Tv) : rwk A B bs 0 = List.replicate bs.length 0 := by
  unfold rwk
  rw [List.eq_replicate_iff]
  refine ⟨by simp, fun x hx => ?_⟩
  obtain ⟨i, _, hi⟩ := List.mem_map.1 hx
  simpa using hi.symm
theorem rwk_all (A B : List Int) (bs : List Tv) : rwk A B bs bs.length = ruk A B bs bs.length :=
  List.map_congr_left fun i hi => by simp [List.mem_range.1 hi]
theorem rwk_set (A B : List Int) (bs : List Tv) (k : Nat) : (rwk A B bs k).set k (ruv A B bs k) = rwk A B bs (k + 1) := by
  apply List.ext_getElem?
  intro i
  by_cases hi : i < bs.length
  · by_cases e : k = i
    · subst e
      simp [rwk, hi]
    · rw [List.getElem?_set_ne e]
      have : i < k + 1 ↔ i < k := by omega
      simp [rwk, hi, this]
  · have : bs.length ≤ i := by omega
    simp [rwk, this]
theorem rwk_same {A B : List Int} {bs : List Tv} {k : Nat} (h : ruv A B bs k = 0) : rwk A B bs k = rwk A B bs (k + 1) :=
  List.map_congr_left fun i _ => by
    by_cases e : i = k
    · subst e
      simp [h]
    · have : i < k + 1 ↔ i < k := by omega
      simp [this]
/-- what is held in the loop -/
structure RU (W0 w wr : World) (g gB cB : Nat) (n : Nat) (B r : List Int) : Prop where
  R : OwnI wr W0.heap.size g n n r
  B : OwnI wr W0.heap.size gB n cB B
  ne : gB ≠ g
  bel : Below W0.heap.size W0 wr
  st : ∀ k, k ≠ g → wr.heap[k]? = w.heap[k]?
  sz : wr.heap.size = w.heap.size
theorem RU.set {W0 w wr : World} {g gB cB n : Nat} {B r : List Int} (h : RU W0 w wr g gB cB n B r) (k : Nat) (x : Int) : RU W0 w (wr.setCell ⟨g, k, none⟩ (.int .i64 x)) g gB cB n B (r.set k x) :=
  ⟨ownI_put k x h.R, own_set h.B (Ne.symm h.ne) _, h.ne, h.bel.setCell (own_ge h.R) _, fun j hj => by rw [heap_set_ne hj]; exact h.st j hj, by simp [h.sz]⟩
/-- the loop's code -/
def rbl : Code → Code
  | .seq (.seq _ b) _ => b
  | c => c
/-- what is held behind the loop -/
def RRu (W0 w : World) (g gB cB n : Nat) (B r : List Int) (a' : Act) (w' : World) : Prop := ∃ T, a' = ⟨T, []⟩ ∧ T.size = 45 ∧ T[6]? = some (.slice (some ⟨g, 0, none⟩) n n) ∧ RU W0 w w' g gB cB n B r
set_option maxRecDepth 100000 in
set_option maxHeartbeats 4000000 in
theorem reu_loop {W0 w : World} {A B : List Int} {bs : List Tv} {b : Option Addr} {cb gA cA gB cB g : Nat} (hA : Ins W0 (some ⟨gA, 0, none⟩) A) (hs : Tks W0 b bs) (hb : Below W0.heap.size W0 w) (hR : OwnI w W0.heap.size g bs.length bs.length (rwk A B bs 0)) (hB : OwnI w W0.heap.size gB bs.length cB B) (hne : gB ≠ g) (hA2 : A.length ≤ 200) (h2 : bs.length ≤ 200) (y0 y2 y3 y4 y7 y8 y9 y10 y11 y12 y13 y14 y15 y16 y17 y18 y19 y20 y21 y22 y23 y27 y28 y29 y30 y31 y32 y33 y34 y35 y36 y37 y38 y39 y40 y41 y42 y43 y44 : Value) :
    (rbl (sdc 4 (Try.f20.body.getD .skip))).wp Try.prog (fun e a' w' => e = .normal ∧ RRu W0 w g gB cB bs.length B (ruk A B bs bs.length) a' w') ⟨#[y0, .slice b bs.length cb, y2, y3, y4, .slice (some ⟨gA, 0, none⟩) A.length cA, .slice (some ⟨g, 0, none⟩) bs.length bs.length, y7, y8, y9, y10, y11, y12, y13, y14, y15, y16, y17, y18, y19, y20, y21, y22, y23, .slice (some ⟨gB, 0, none⟩) bs.length cB, .int .i64 (bs.length : Int), .int .i64 0, y27, y28, y29, y30, y31, y32, y33, y34, y35, y36, y37, y38, y39, y40, y41, y42, y43, y44], []⟩ w := by
  have hA' := hide hA
  have hs' := hide hs
  have hbl : B.length = bs.length := Go.Proofs.Ytpmmimcafkillaa.ownI_len hB
  have M0 := hide (show RU W0 w w g gB cB bs.length B (rwk A B bs 0) from ⟨hR, hB, hne, hb, fun _ _ => rfl, rfl⟩)
  clear hA hs hb hR hB hne
  simp only [sdc, rbl, Try.f20, Option.getD_some]
  go_wp2
  go_loopw [26] (fun t wr => ∃ (k : Nat), k ≤ bs.length ∧ t = .int .i64 k ∧ Hid (RU W0 w wr g gB cB bs.length B (rwk A B bs k))) (fun t _ => bs.length - (intOf t).toNat)
  case atStart => exact ⟨0, by omega, rfl, M0⟩
  case round =>
    obtain ⟨k, hk, rfl, hM⟩ := hrel
    clear M0
    by_cases hlt : k < bs.length
    rotate_left
    · obtain rfl : k = bs.length := by omega
      have gk : decide ((bs.length : Int) < bs.length) = false := by simp
      have hM2 := hide (show RU W0 w wr g gB cB bs.length B (ruk A B bs bs.length) by rw [← rwk_all]; exact unhide hM)
      clear hM
      go_wp2
      exact ⟨_, rfl, rfl, rfl, unhide hM2⟩
    have gk : decide ((k : Int) < bs.length) = true := by simp; omega
    obtain ⟨b1, o1, p, c', t, rfl, hx, i1, c0, c1, c2, c3, hK, hmx⟩ := tks_at (unhide hs') (unhide hM).bel hlt
    obtain ⟨y, hy⟩ : ∃ y, B[k]? = some y := ⟨_, List.getElem?_eq_getElem (by omega)⟩
    have e1 := ownI_at hy (unhide hM).B
    have hAw := hide ((unhide hA').below (unhide hM).bel)
    have hval := hide (show ruv A B bs k = if A.contains y then 0 else t.2.2.2 by unfold ruv rcost; rw [hx, List.getD_eq_getElem?_getD, hy]; rfl)
    have hA3 : A.length ≤ maxLen := by unfold maxLen; omega
    clear hx hmx hK c0 c1 c2 hy
    go_wp2_with fail
    refine (con_any (some ⟨gA, 0, none⟩) cA A y wr hA3 (unhide hAw)).mono ?_
    rintro e w1 ⟨rfl, rfl⟩
    cases hc : A.contains y with
    | true =>
      rw [hc] at hval
      have hM2 := hide (show RU W0 w w1 g gB cB bs.length B (rwk A B bs (k + 1)) by rw [← rwk_same (unhide hval)]; exact unhide hM)
      clear hval hM e1 c3
      go_wp2
      go_roundw
      case rel => exact ⟨k + 1, by omega, by go_num, hM2⟩
      case measure => simp [intOf]; omega
    | false =>
      rw [hc] at hval
      have hset := hide (show (rwk A B bs k).set k t.2.2.2 = rwk A B bs (k + 1) by rw [← rwk_set, unhide hval]; rfl)
      have hM2 := hide (show RU W0 w (w1.setCell ⟨g, k, none⟩ (.int .i64 t.2.2.2)) g gB cB bs.length B (rwk A B bs (k + 1)) by rw [← unhide hset]; exact (unhide hM).set k t.2.2.2)
      obtain ⟨z, hz⟩ : ∃ z, (rwk A B bs k)[k]? = some z := ⟨_, List.getElem?_eq_getElem (by simp [rwk]; omega)⟩
      have e3 := ownI_at hz (unhide hM).R
      have f3 := (unhide hM).R.frozenAt k
      clear hval hM hset hz e1
      go_wp2
      go_roundw
      case rel => exact ⟨k + 1, by omega, by go_num, hM2⟩
      case measure => simp [intOf]; omega
end Go.Proofs.Ytpmmimcafkillaa.Tr
