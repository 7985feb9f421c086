/-
  The contracts of the model's results; nothing that was there is written.
  The contract of the model's Reused; nothing that was there is written.
  The contracts of slices.Index and slices.Contains over numbers, called alone; nothing is written.
  The program's Reused: what it does with what is worked out of the old and of the new job, by a lone walk.
  Reused, beside leavers.
  Results, beside leavers.
-/
import Derived.Test.YtpmmimcafkillaaZJbS
import Derived.Test.YtpmmimcafkillaaZCopyL
import Derived.Test.YtpmmimcafkillaaZXp
import Derived.BigQuiet
import Derived.Test.YtpmmimcafkillaaZRnM
import Derived.Test.YtpmmimcafkillaaZUe
import Derived.Test.YtpmmimcafkillaaZJbP
import Derived.Test.YtpmmimcafkillaaZUb
namespace Go.Proofs.Ytpmmimcafkillaa
open Go.RowKit
open Go.Proofs.Ytpmmimcafkillaa.Rs (outOf out_len out_at resR hst ask)
set_option linter.unusedVariables false
set_option linter.unusedSimpArgs false
/-- what the first needs make of a start -/
def rneed (ts : List Tv) (h : Int) (zs : List Int) : Int := (zs.map fun n => (outOf (resR ts) ts).getD n.toNat 0).foldl hst h
theorem rneed_snoc {ts : List Tv} {h : Int} {zs : List Int} {q : Nat} {z y : Int} (hz : zs[q]? = some z) (hy : (outOf (resR ts) ts)[z.toNat]? = some y) : rneed ts h (zs.take (q + 1)) = hst (rneed ts h (zs.take q)) y := by
  have e : zs.take (q + 1) = zs.take q ++ [z] := by rw [List.take_add_one, hz]; rfl
  unfold rneed
  rw [e, List.map_append, List.foldl_append]
  show hst _ ((outOf (resR ts) ts).getD z.toNat 0) = _
  rw [List.getD_eq_getElem?_getD, hy, Option.getD_some]
theorem hst_rng (h x : Int) : 0 ≤ hst h x ∧ hst h x < 1000000007 := by unfold hst; omega
theorem hst_foldr (vs : List Int) : ∀ h : Int, 0 ≤ h ∧ h < 1000000007 → 0 ≤ vs.foldl hst h ∧ vs.foldl hst h < 1000000007 := by
  induction vs with
  | nil => intro h hh; exact hh
  | cons v vs ih => intro h hh; exact ih _ (hst_rng h v)
theorem rs_rng {ts : List Tv} (hj : jobOk ts = true) (k : Nat) (x : Int) (hx : (outOf (resR ts) ts)[k]? = some x) : 0 ≤ x ∧ x < 1000000007 := by
  have hlt : k < ts.length := by rw [← out_len (resR ts) ts]; exact (List.getElem?_eq_some_iff.1 hx).1
  have ht := List.getElem?_eq_getElem hlt
  have e := Option.some.inj (hx.symm.trans (out_at (f := resR ts) hj ht))
  simp only [resR, ht] at e
  rw [e]
  exact hst_foldr _ _ ⟨Int.emod_nonneg _ (by omega), Int.emod_lt_of_pos _ (by omega)⟩
set_option maxRecDepth 100000 in
set_option maxHeartbeats 6400000 in
theorem sro_any (a : Option Addr) (cap : Nat) (ts : List Tv) (w : World) (hj : jobOk ts = true) (hr : Tks w a ts) :
    Calls Try.prog 49 #[.slice a ts.length cap] w fun e w' => ∃ B c, e = .returned (.slice (some ⟨B, 0, none⟩) ts.length c) ∧ OwnI w' w.heap.size B ts.length c (outOf (resR ts) ts) ∧ Below w.heap.size w w' := by
  have hr' := hide hr
  have hJ' := hide hj
  have hs200 : ts.length ≤ 200 := job_short hj
  clear hr hj
  go_enter Try.func49, Try.ntmps49
  have hrow := hide (ownI_lit0 w (B := w.heap.size) (Nat.le_refl _))
  have hB2 := hide ((Below.refl w.heap.size w).alloc (Nat.le_refl _) (.cells #[] 2))
  go_wp2
  go_loopw [3, 4] (fun u t wr => ∃ (k g c : Nat), k ≤ ts.length ∧ t = .int .i64 k ∧ u = .slice (some ⟨g, 0, none⟩) k c ∧ Hid (OwnI wr w.heap.size g k c ((outOf (resR ts) ts).take k)) ∧ Hid (Below w.heap.size w wr)) (fun _ t _ => ts.length - (intOf t).toNat)
  case atStart => exact ⟨0, w.heap.size, 0, by omega, rfl, rfl, hrow, hB2⟩
  case round =>
    obtain ⟨k, g, c, hk, rfl, rfl, hO, hB⟩ := hrel
    clear hrow hB2
    by_cases hlt : k < ts.length
    rotate_left
    · obtain rfl : k = ts.length := by omega
      have gk : decide ((ts.length : Int) < ts.length) = false := by simp
      have hfin := hide (show OwnI _ w.heap.size g ts.length c (outOf (resR ts) ts) by have h := unhide hO; rw [List.take_of_length_le (by rw [out_len]; omega)] at h; exact h)
      clear hO
      go_wp2
      go_ret
      exact ⟨g, c, rfl, unhide hfin, unhide hB⟩
    have gk : decide ((k : Int) < ts.length) = true := by simp; omega
    obtain ⟨b, o, p, c', t, rfl, hx, i1, c0, c1, c2, c3, hK, hmx⟩ := tks_at (unhide hr') (unhide hB) hlt
    have hx' := hide hx
    have hok := job_tok (unhide hJ') hx
    have hn10 := hok.len
    have hK' := hide hK
    have hk0 := hok.kind0
    have hk1 := hok.kind1
    have hv0 := hok.val0
    have hv1 := hok.val1
    have f1 : IntKind.i64.wrap (t.1 * 1000003) = t.1 * 1000003 := by rw [IntKind.wrap_i64]; omega
    have f2 : IntKind.i64.wrap (t.1 * 1000003 + t.2.1) = t.1 * 1000003 + t.2.1 := by rw [IntKind.wrap_i64]; omega
    have f3 : (t.1 * 1000003 + t.2.1).tmod 1000000007 = (t.1 * 1000003 + t.2.1) % 1000000007 := Int.tmod_eq_emod_of_nonneg (by omega)
    obtain ⟨h0, eh0⟩ : ∃ h0, (t.1 * 1000003 + t.2.1) % 1000000007 = h0 := ⟨_, rfl⟩
    have hh0 : 0 ≤ h0 ∧ h0 < 1000000007 := by omega
    rw [eh0] at f3
    have eh0' := hide eh0
    clear hx hK hmx eh0
    rename World => wo
    go_wp2_with fail
    go_quiet (fail)
    go_wp2
    go_loop [5, 6] (fun u v => ∃ (q : Nat) (x : Int), q ≤ t.2.2.1.length ∧ v = .int .i64 q ∧ u = .int .i64 x ∧ Hid (x = rneed ts h0 (t.2.2.1.take q)) ∧ 0 ≤ x ∧ x < 1000000007) (fun _ v => t.2.2.1.length - (intOf v).toNat)
    case atStart => exact ⟨0, h0, by omega, rfl, rfl, hide (by simp [rneed]), by omega, by omega⟩
    case round =>
      obtain ⟨q, x, hq, rfl, rfl, hpx, x0, x1⟩ := hrel
      by_cases hql : q < t.2.2.1.length
      · have gq : decide ((q : Int) < t.2.2.1.length) = true := by simp; omega
        obtain ⟨b2, o2, z, rfl, hz, i2, d0⟩ := ins_at (unhide hK') (Below.refl _ _) hql
        have hnd := (job_tok (unhide hJ') (unhide hx')).need z (List.mem_of_getElem? hz)
        obtain ⟨zn, rfl⟩ := Int.eq_ofNat_of_zero_le hnd.1
        have hzk : zn < k := by omega
        have hzl : zn < (outOf (resR ts) ts).length := by rw [out_len]; omega
        obtain ⟨y, hy⟩ : ∃ y, (outOf (resR ts) ts)[zn]? = some y := ⟨_, List.getElem?_eq_getElem hzl⟩
        have hyb := rs_rng (unhide hJ') zn y hy
        have e0 := ownI_at (k := zn) (x := y) (by rw [List.getElem?_take_of_lt hzk]; exact hy) (unhide hO)
        have hst1 := hide (show rneed ts h0 (t.2.2.1.take (q + 1)) = hst x y by rw [rneed_snoc hz (by rw [Int.toNat_natCast]; exact hy), ← unhide hpx])
        have hmb := hst_rng x y
        have q1 : IntKind.i64.wrap (x * 257) = x * 257 := by rw [IntKind.wrap_i64]; omega
        have q2 : IntKind.i64.wrap (x * 257 + y) = x * 257 + y := by rw [IntKind.wrap_i64]; omega
        have q3 : IntKind.i64.wrap (x * 257 + y + 1) = x * 257 + y + 1 := by rw [IntKind.wrap_i64]; omega
        have q4 : (x * 257 + y + 1).tmod 1000000007 = hst x y := by rw [Int.tmod_eq_emod_of_nonneg (by omega)]; rfl
        clear hnd hz i2 hpx hy hzl
        generalize hst x y = x2 at *
        go_wp2
        go_round
        case rel => exact ⟨q + 1, x2, by omega, by go_num, rfl, hide (unhide hst1).symm, by omega, by omega⟩
        case measure => simp [intOf]; omega
      · have gq : decide ((q : Int) < t.2.2.1.length) = false := by simp; omega
        have hqe : q = t.2.2.1.length := by omega
        have hxv : x = rneed ts h0 t.2.2.1 := by have h1 := unhide hpx; rw [hqe, List.take_length] at h1; exact h1
        have hval : (outOf (resR ts) ts)[k]? = some x := by
          rw [out_at (unhide hJ') (unhide hx')]
          simp only [resR, unhide hx']
          rw [hxv, ← unhide eh0']
          rfl
        have hrowk := hide (show (outOf (resR ts) ts).take (k + 1) = (outOf (resR ts) ts).take k ++ [x] by rw [List.take_add_one, hval]; rfl)
        have hsz := (unhide hB).size
        clear hpx hqe hxv hval f1 f2 f3 hh0 eh0'
        go_wp2_with (refine wpList_iA _ rfl _ _ rfl w.heap.size g k c _ x rfl (unhide hO) rfl ?b3 ?b4 ?_)
        case b3 => omega
        intro g' cap' w5 ho hb5 hg5
        have hB5 := hide (Below.trans (show Below w.heap.size w (wo.drewN _) from ⟨(unhide hB).os, (unhide hB).tape, (unhide hB).output, (unhide hB).size, (unhide hB).block⟩) hb5)
        rw [← unhide hrowk] at ho
        have hO5 := hide ho
        clear ho hb5 hg5 hO c0 c1 c2 c3
        go_wp2
        go_roundw
        case rel => exact ⟨k + 1, g', cap', by omega, by go_num, rfl, hO5, hB5⟩
        case measure => simp [intOf]; omega
set_option maxHeartbeats 1600000 in
theorem sres_any (a : Option Addr) (cap : Nat) (ts : List Tv) (w : World) (hl : ts.length ≤ maxLen) (hr : Tks w a ts) :
    Calls Try.prog 22 #[.slice a ts.length cap] w fun e w' => ∃ B c, e = .returned (.slice (some ⟨B, 0, none⟩) (if jobOk ts then outOf (resR ts) ts else []).length c) ∧ Ins w' (some ⟨B, 0, none⟩) (if jobOk ts then outOf (resR ts) ts else []) ∧ Below w.heap.size w w' := by
  have hl' := hide hl
  have hr' := hide hr
  clear hr hl
  obtain ⟨J, hJ⟩ : ∃ J, jobOk ts = J := ⟨_, rfl⟩
  have hJ' := hide hJ
  rw [hJ]
  clear hJ
  go_enter Try.func22, Try.ntmps22
  go_wp2_with fail
  refine (sjob_any a cap ts _ (unhide hl') (unhide hr')).mono ?_
  rintro e w1 ⟨rfl, hB1⟩
  rw [unhide hJ']
  have hB1' := hide hB1
  clear hB1
  cases J with
  | false =>
    have hrow := hide (ownI_lit0 w1 (B := w.heap.size) (unhide hB1').size)
    have hB2 := hide ((unhide hB1').alloc (unhide hB1').size (.cells #[] 2))
    go_wp2
    go_ret
    exact ⟨w1.heap.size, ⟨0, rfl⟩, ins_own (unhide hrow), unhide hB2⟩
  | true =>
    go_wp2_with fail
    refine (sro_any a cap ts w1 (unhide hJ') ((unhide hr').below (unhide hB1'))).mono ?_
    rintro e w2 ⟨B, c, rfl, ho, hb2⟩
    have hfin := hide (ins_own ho)
    have hB2 := hide (laterB (unhide hB1') hb2)
    clear ho hb2
    go_wp2
    go_ret
    exact ⟨B, ⟨c, by rw [out_len]; rfl⟩, unhide hfin, unhide hB2⟩
end Go.Proofs.Ytpmmimcafkillaa

namespace Go.Proofs.Ytpmmimcafkillaa
open Go.RowKit
open Go.Proofs.Ytpmmimcafkillaa.Rs (outOf out_len out_at resR)
set_option linter.unusedVariables false
set_option linter.unusedSimpArgs false
/-! what is left to do, plain -/
def rcost (bs : List Tv) (i : Nat) : Int := match bs[i]? with
  | some t => t.2.2.2
  | none => 0
def ruv (A B : List Int) (bs : List Tv) (i : Nat) : Int := if A.contains (B.getD i 0) then 0 else rcost bs i
def ruk (A B : List Int) (bs : List Tv) (k : Nat) : List Int := (List.range k).map fun i => ruv A B bs i
theorem ruk_len (A B : List Int) (bs : List Tv) (k : Nat) : (ruk A B bs k).length = k := by simp [ruk]
def reuOf (ps bs : List Tv) : List Int := if jobOk ps && jobOk bs then ruk (outOf (resR ps) ps) (outOf (resR bs) bs) bs bs.length else []
theorem con_snoc {A : List Int} {q : Nat} {x y : Int} (h : A[q]? = some x) : (A.take (q + 1)).contains y = ((A.take q).contains y || (x == y)) := by
  have e : A.take (q + 1) = A.take q ++ [x] := by rw [List.take_add_one, h]; rfl
  rw [e, Bool.eq_iff_iff]
  simp only [List.contains_iff_mem, List.mem_append, List.mem_singleton, Bool.or_eq_true, beq_iff_eq]
  exact ⟨fun h => h.imp id Eq.symm, fun h => h.imp id Eq.symm⟩
/-! the three lists in memory -/
structure R3 (W0 wr : World) (gA cA gB cB g c nA nB m : Nat) (A B r : List Int) : Prop where
  A : OwnI wr W0.heap.size gA nA cA A
  B : OwnI wr W0.heap.size gB nB cB B
  R : OwnI wr W0.heap.size g m c r
  na : gA ≠ g
  nb : gB ≠ g
  bel : Below W0.heap.size W0 wr
theorem R3.app {W0 wr w1 : World} {gA cA gB cB g c g' c' nA nB m : Nat} {A B r : List Int} {v : Int} (h : R3 W0 wr gA cA gB cB g c nA nB m A B r) (ho : OwnI w1 W0.heap.size g' (m + 1) c' (r ++ [v])) (hg : (wr.alloc (.cells #[.int .i64 v] 2)).grownBy w1 (some g)) (he : g' = g ∨ g' = wr.heap.size + 1) : R3 W0 w1 gA cA gB cB g' c' nA nB (m + 1) A B (r ++ [v]) :=
  have hb : Below wr.heap.size wr (wr.alloc (.cells #[.int .i64 v] 2)) := (Below.refl _ _).alloc (Nat.le_refl _) _
  have lA := own_lt h.A
  have lB := own_lt h.B
  ⟨own_kept (ownsRow_below h.A hb) hg h.na, own_kept (ownsRow_below h.B hb) hg h.nb, ho, by have := h.na; omega, by have := h.nb; omega, below_grown (laterB h.bel hb) hg (own_ge h.R)⟩
theorem R3.drew {W0 wr : World} {d gA cA gB cB g c nA nB m : Nat} {A B r : List Int} (h : R3 W0 wr gA cA gB cB g c nA nB m A B r) : R3 W0 (wr.drewN d) gA cA gB cB g c nA nB m A B r :=
  ⟨h.A, h.B, h.R, h.na, h.nb, ⟨h.bel.os, h.bel.tape, h.bel.output, h.bel.size, h.bel.block⟩⟩
end Go.Proofs.Ytpmmimcafkillaa

namespace Go.Proofs.Ytpmmimcafkillaa
open Go.RowKit
set_option linter.unusedVariables false
set_option linter.unusedSimpArgs false
set_option maxRecDepth 100000 in
set_option maxHeartbeats 1600000 in
theorem idx_any (a : Option Addr) (cap : Nat) (zs : List Int) (n : Int) (w : World) (hl : zs.length ≤ maxLen) (hr : Ins w a zs) :
    Calls Try.prog 65 #[.slice a zs.length cap, .int .i64 n] w fun e w' => (∃ r : Int, e = .returned (.int .i64 r) ∧ (0 ≤ r ↔ n ∈ zs)) ∧ w' = w := by
  unfold maxLen at hl
  have hr' := hide hr
  clear hr
  have hf := hide (show zs.contains n = (zs.drop 0).contains n by simp)
  go_enter Try.func65, Try.ntmps65
  go_wp2
  go_loop [8] (fun t => ∃ (k : Nat), k ≤ zs.length ∧ t = .int .i64 k ∧ Hid (zs.contains n = (zs.drop k).contains n)) (fun t => zs.length - (intOf t).toNat)
  case atStart => exact ⟨0, by omega, rfl, hf⟩
  case round =>
    obtain ⟨k, hk, rfl, hm⟩ := hrel
    by_cases hlt : k < zs.length
    · have gk : decide ((k : Int) < zs.length) = true := by simp; omega
      obtain ⟨b, o, x, rfl, hx, i1, c0⟩ := ins_at (unhide hr') (Below.refl _ _) hlt
      have hd := hide (show zs.contains n = (n == x || (zs.drop (k + 1)).contains n) by rw [unhide hm, drop_at hx, List.contains_cons])
      clear hx hm i1
      by_cases h1 : n = x
      · have g1 : (n == x) = true := by simpa using h1
        have hfin := hide (show (0 : Int) ≤ (k : Int) ↔ n ∈ zs from ⟨fun _ => by rw [← List.contains_iff_mem, unhide hd, g1]; rfl, fun _ => by omega⟩)
        subst h1
        clear hd
        go_wp2
        go_ret
        exact ⟨⟨(k : Int), rfl, unhide hfin⟩, rfl⟩
      · have g1 : (n == x) = false := by simpa using h1
        have hfin := hide (show zs.contains n = (zs.drop (k + 1)).contains n by rw [unhide hd, g1]; rfl)
        clear hd
        go_wp2
        go_round
        case rel => exact ⟨k + 1, by omega, by go_num, hfin⟩
        case measure => simp [intOf]; omega
    · have gk : decide ((k : Int) < zs.length) = false := by simp; omega
      have hfin := hide (show (0 : Int) ≤ -1 ↔ n ∈ zs from ⟨fun h => by omega, fun h => by rw [← List.contains_iff_mem, unhide hm, drop_end hlt] at h; cases h⟩)
      clear hm
      go_wp2
      go_ret
      exact ⟨⟨-1, rfl, unhide hfin⟩, rfl⟩
set_option maxHeartbeats 800000 in
theorem con_any (a : Option Addr) (cap : Nat) (zs : List Int) (n : Int) (w : World) (hl : zs.length ≤ maxLen) (hr : Ins w a zs) :
    Calls Try.prog 46 #[.slice a zs.length cap, .int .i64 n] w fun e w' => e = .returned (.bool (zs.contains n)) ∧ w' = w := by
  have hr' := hide hr
  have hl' := hide hl
  clear hr hl
  go_enter Try.func46, Try.ntmps46
  go_wp2_with fail
  refine (idx_any a cap zs n _ (unhide hl') (unhide hr')).mono ?_
  rintro e w1 ⟨⟨r, rfl, hc0⟩, rfl⟩
  have hc := hide hc0
  clear hc0
  go_wp2
  go_ret
  refine ⟨ret_bool ?_, rfl⟩
  rw [Bool.eq_iff_iff, List.contains_iff_mem, ← unhide hc]
  simp
end Go.Proofs.Ytpmmimcafkillaa

set_option linter.unusedVariables false
set_option linter.unusedSimpArgs false
namespace Go.Proofs.Ytpmmimcafkillaa.Tr
open Go Go.RowKit
open Go.Proofs.Ytpmmimcafkillaa (Ins OwnI Tks Tv iv ins_at tks_at infoI own_ge own_lt ownI_at ins_own ruv ruk rcost ownI_put con_any own_set)
/-- the row of what is left, known up to k -/
def rwk (A B : List Int) (bs : List Tv) (k : Nat) : List Int := (List.range bs.length).map fun i => if i < k then ruv A B bs i else 0
theorem rwk_zero (A B : List Int) (bs : List Tv) : rwk A B bs 0 = List.replicate bs.length 0 := by
  unfold rwk
  rw [List.eq_replicate_iff]
  refine ⟨by simp, fun x hx => ?_⟩
  obtain ⟨i, _, hi⟩ := List.mem_map.1 hx
  simpa using hi.symm
theorem rwk_all (A B : List Int) (bs : List Tv) : rwk A B bs bs.length = ruk A B bs bs.length :=
  List.map_congr_left fun i hi => by simp [List.mem_range.1 hi]
theorem rwk_set (A B : List Int) (bs : List Tv) (k : Nat) : (rwk A B bs k).set k (ruv A B bs k) = rwk A B bs (k + 1) := by
  apply List.ext_getElem?
  intro i
  by_cases hi : i < bs.length
  · by_cases e : k = i
    · subst e
      simp [rwk, hi]
    · rw [List.getElem?_set_ne e]
      have : i < k + 1 ↔ i < k := by omega
      simp [rwk, hi, this]
  · have : bs.length ≤ i := by omega
    simp [rwk, this]
theorem rwk_same {A B : List Int} {bs : List Tv} {k : Nat} (h : ruv A B bs k = 0) : rwk A B bs k = rwk A B bs (k + 1) :=
  List.map_congr_left fun i _ => by
    by_cases e : i = k
    · subst e
      simp [h]
    · have : i < k + 1 ↔ i < k := by omega
      simp [this]
/-- what is held in the loop -/
structure RU (W0 w wr : World) (g gB cB : Nat) (n : Nat) (B r : List Int) : Prop where
  R : OwnI wr W0.heap.size g n n r
  B : OwnI wr W0.heap.size gB n cB B
  ne : gB ≠ g
  bel : Below W0.heap.size W0 wr
  st : ∀ k, k ≠ g → wr.heap[k]? = w.heap[k]?
  sz : wr.heap.size = w.heap.size
theorem RU.set {W0 w wr : World} {g gB cB n : Nat} {B r : List Int} (h : RU W0 w wr g gB cB n B r) (k : Nat) (x : Int) : RU W0 w (wr.setCell ⟨g, k, none⟩ (.int .i64 x)) g gB cB n B (r.set k x) :=
  ⟨ownI_put k x h.R, own_set h.B (Ne.symm h.ne) _, h.ne, h.bel.setCell (own_ge h.R) _, fun j hj => by rw [heap_set_ne hj]; exact h.st j hj, by simp [h.sz]⟩
/-- the loop's code -/
def rbl : Code → Code
  | .seq (.seq _ b) _ => b
  | c => c
/-- what is held behind the loop -/
def RRu (W0 w : World) (g gB cB n : Nat) (B r : List Int) (a' : Act) (w' : World) : Prop := ∃ T, a' = ⟨T, []⟩ ∧ T.size = 45 ∧ T[6]? = some (.slice (some ⟨g, 0, none⟩) n n) ∧ RU W0 w w' g gB cB n B r
set_option maxRecDepth 100000 in
set_option maxHeartbeats 4000000 in
theorem reu_loop {W0 w : World} {A B : List Int} {bs : List Tv} {b : Option Addr} {cb gA cA gB cB g : Nat} (hA : Ins W0 (some ⟨gA, 0, none⟩) A) (hs : Tks W0 b bs) (hb : Below W0.heap.size W0 w) (hR : OwnI w W0.heap.size g bs.length bs.length (rwk A B bs 0)) (hB : OwnI w W0.heap.size gB bs.length cB B) (hne : gB ≠ g) (hA2 : A.length ≤ 200) (h2 : bs.length ≤ 200) (y0 y2 y3 y4 y7 y8 y9 y10 y11 y12 y13 y14 y15 y16 y17 y18 y19 y20 y21 y22 y23 y27 y28 y29 y30 y31 y32 y33 y34 y35 y36 y37 y38 y39 y40 y41 y42 y43 y44 : Value) :
    (rbl (sdc 4 (Try.f20.body.getD .skip))).wp Try.prog (fun e a' w' => e = .normal ∧ RRu W0 w g gB cB bs.length B (ruk A B bs bs.length) a' w') ⟨#[y0, .slice b bs.length cb, y2, y3, y4, .slice (some ⟨gA, 0, none⟩) A.length cA, .slice (some ⟨g, 0, none⟩) bs.length bs.length, y7, y8, y9, y10, y11, y12, y13, y14, y15, y16, y17, y18, y19, y20, y21, y22, y23, .slice (some ⟨gB, 0, none⟩) bs.length cB, .int .i64 (bs.length : Int), .int .i64 0, y27, y28, y29, y30, y31, y32, y33, y34, y35, y36, y37, y38, y39, y40, y41, y42, y43, y44], []⟩ w := by
  have hA' := hide hA
  have hs' := hide hs
  have hbl : B.length = bs.length := Go.Proofs.Ytpmmimcafkillaa.ownI_len hB
  have M0 := hide (show RU W0 w w g gB cB bs.length B (rwk A B bs 0) from ⟨hR, hB, hne, hb, fun _ _ => rfl, rfl⟩)
  clear hA hs hb hR hB hne
  simp only [sdc, rbl, Try.f20, Option.getD_some]
  go_wp2
  go_loopw [26] (fun t wr => ∃ (k : Nat), k ≤ bs.length ∧ t = .int .i64 k ∧ Hid (RU W0 w wr g gB cB bs.length B (rwk A B bs k))) (fun t _ => bs.length - (intOf t).toNat)
  case atStart => exact ⟨0, by omega, rfl, M0⟩
  case round =>
    obtain ⟨k, hk, rfl, hM⟩ := hrel
    clear M0
    by_cases hlt : k < bs.length
    rotate_left
    · obtain rfl : k = bs.length := by omega
      have gk : decide ((bs.length : Int) < bs.length) = false := by simp
      have hM2 := hide (show RU W0 w wr g gB cB bs.length B (ruk A B bs bs.length) by rw [← rwk_all]; exact unhide hM)
      clear hM
      go_wp2
      exact ⟨_, rfl, rfl, rfl, unhide hM2⟩
    have gk : decide ((k : Int) < bs.length) = true := by simp; omega
    obtain ⟨b1, o1, p, c', t, rfl, hx, i1, c0, c1, c2, c3, hK, hmx⟩ := tks_at (unhide hs') (unhide hM).bel hlt
    obtain ⟨y, hy⟩ : ∃ y, B[k]? = some y := ⟨_, List.getElem?_eq_getElem (by omega)⟩
    have e1 := ownI_at hy (unhide hM).B
    have hAw := hide ((unhide hA').below (unhide hM).bel)
    have hval := hide (show ruv A B bs k = if A.contains y then 0 else t.2.2.2 by unfold ruv rcost; rw [hx, List.getD_eq_getElem?_getD, hy]; rfl)
    have hA3 : A.length ≤ maxLen := by unfold maxLen; omega
    clear hx hmx hK c0 c1 c2 hy
    go_wp2_with fail
    refine (con_any (some ⟨gA, 0, none⟩) cA A y wr hA3 (unhide hAw)).mono ?_
    rintro e w1 ⟨rfl, rfl⟩
    cases hc : A.contains y with
    | true =>
      rw [hc] at hval
      have hM2 := hide (show RU W0 w w1 g gB cB bs.length B (rwk A B bs (k + 1)) by rw [← rwk_same (unhide hval)]; exact unhide hM)
      clear hval hM e1 c3
      go_wp2
      go_roundw
      case rel => exact ⟨k + 1, by omega, by go_num, hM2⟩
      case measure => simp [intOf]; omega
    | false =>
      rw [hc] at hval
      have hset := hide (show (rwk A B bs k).set k t.2.2.2 = rwk A B bs (k + 1) by rw [← rwk_set, unhide hval]; rfl)
      have hM2 := hide (show RU W0 w (w1.setCell ⟨g, k, none⟩ (.int .i64 t.2.2.2)) g gB cB bs.length B (rwk A B bs (k + 1)) by rw [← unhide hset]; exact (unhide hM).set k t.2.2.2)
      obtain ⟨z, hz⟩ : ∃ z, (rwk A B bs k)[k]? = some z := ⟨_, List.getElem?_eq_getElem (by simp [rwk]; omega)⟩
      have e3 := ownI_at hz (unhide hM).R
      have f3 := (unhide hM).R.frozenAt k
      clear hval hM hset hz e1
      go_wp2
      go_roundw
      case rel => exact ⟨k + 1, by omega, by go_num, hM2⟩
      case measure => simp [intOf]; omega
end Go.Proofs.Ytpmmimcafkillaa.Tr

set_option linter.unusedVariables false
set_option linter.unusedSimpArgs false
namespace Go.Proofs.Ytpmmimcafkillaa.Tr
open Go Go.Conc Go.RowKit
open Go.Proofs.Ytpmmimcafkillaa.Br (BT BTS Hd Hid Pz Pst Shn Thr EvN bt_ctl bt_cons bt_skip bt_call bt_callB bt_enter CallsB rt AtEnd0)
open Go.Proofs.Ytpmmimcafkillaa.Rs (Rule outOf out_at out_len resR dtR hst)
open Go.Proofs.Ytpmmimcafkillaa (Tv Tks Ins jobOk job_tok TOk job_short tot TO TX OwnI Mkd row_ownX iv ruv ruk reuOf infoI grown_none)
theorem array45 (T : Array Value) (h : T.size = 45) : ∃ v0 v1 v2 v3 v4 v5 v6 v7 v8 v9 v10 v11 v12 v13 v14 v15 v16 v17 v18 v19 v20 v21 v22 v23 v24 v25 v26 v27 v28 v29 v30 v31 v32 v33 v34 v35 v36 v37 v38 v39 v40 v41 v42 v43 v44 : Value, T = #[v0, v1, v2, v3, v4, v5, v6, v7, v8, v9, v10, v11, v12, v13, v14, v15, v16, v17, v18, v19, v20, v21, v22, v23, v24, v25, v26, v27, v28, v29, v30, v31, v32, v33, v34, v35, v36, v37, v38, v39, v40, v41, v42, v43, v44] :=
  ⟨T[0], T[1], T[2], T[3], T[4], T[5], T[6], T[7], T[8], T[9], T[10], T[11], T[12], T[13], T[14], T[15], T[16], T[17], T[18], T[19], T[20], T[21], T[22], T[23], T[24], T[25], T[26], T[27], T[28], T[29], T[30], T[31], T[32], T[33], T[34], T[35], T[36], T[37], T[38], T[39], T[40], T[41], T[42], T[43], T[44], by
    apply Array.ext
    · simpa using h
    · intro i h1 h2
      have hi : i < 45 := by simpa using h2
      rcases i with _ | _ | _ | _ | _ | _ | _ | _ | _ | _ | _ | _ | _ | _ | _ | _ | _ | _ | _ | _ | _ | _ | _ | _ | _ | _ | _ | _ | _ | _ | _ | _ | _ | _ | _ | _ | _ | _ | _ | _ | _ | _ | _ | _ | _ | i
      all_goals first | rfl | (exfalso; omega)⟩
def rfs : Code → Code
  | .seq a _ => a
  | c => c
set_option maxRecDepth 100000 in
set_option maxHeartbeats 4000000 in
theorem mk20 {w : World} {b : Option Addr} {n cb : Nat} (hn : n ≤ 200) (y0 y2 y3 y4 y5 y6 y7 y8 y9 y10 y11 y12 y13 y14 y15 y16 y17 y18 y19 y20 y21 y22 y23 y24 y25 y26 y27 y28 y29 y30 y31 y32 y33 y34 y35 y36 y37 y38 y39 y40 y41 y42 y43 y44 : Value) :
    (rfs (sdc 3 (Try.f20.body.getD .skip))).wp Try.prog (fun e a' w' => e = .normal ∧ (a' = ⟨#[y0, .slice b n cb, y2, y3, y4, y5, .slice (some ⟨w.heap.size, 0, none⟩) n n, y7, y8, y9, y10, y11, y12, y13, y14, y15, y16, y17, y18, y19, .slice b n cb, .int .i64 (n : Int), .slice (some ⟨w.heap.size, 0, none⟩) n n, y23, y24, y25, y26, y27, y28, y29, y30, y31, y32, y33, y34, y35, y36, y37, y38, y39, y40, y41, y42, y43, y44], []⟩ ∧ OwnI w' w.heap.size w.heap.size n n (List.replicate n 0) ∧ Below w.heap.size w w')) ⟨#[y0, .slice b n cb, y2, y3, y4, y5, y6, y7, y8, y9, y10, y11, y12, y13, y14, y15, y16, y17, y18, y19, y20, y21, y22, y23, y24, y25, y26, y27, y28, y29, y30, y31, y32, y33, y34, y35, y36, y37, y38, y39, y40, y41, y42, y43, y44], []⟩ w := by
  simp only [sdc, rfs, Try.f20, Option.getD_some]
  obtain ⟨i0, hi, hz0, hz1, hz2⟩ := info_parts infoI
  go_wp2_with (refine wpList_make_full _ rfl _ _ 29 rfl w.heap.size 2 i0 (.int .i64 0) 1 Try.underlying29 hi hz0 hz1 .i64 .i64 _ _ n rfl rfl rfl rfl ?b2 ?b3 (Nat.le_refl _) ?_)
  case b2 => rw [hz2]; omega
  case b3 => unfold maxLen; omega
  intro w1 o1 g1
  have hO : OwnI w1 w.heap.size w.heap.size n n (List.replicate n 0) := by
    rw [toList_madeCells_one] at o1
    show World.ownsRow _ _ _ _ _ _ _
    rw [List.map_replicate]
    exact o1
  have hB := grown_none g1
  clear o1 g1 hi hz0 hz1 hz2
  go_wp2
theorem ok20a : Br.okC (Br.okOp Zg Try.prog []) (rfs (sdc 3 (Try.f20.body.getD .skip))) = true := by kernel_rfl
theorem ok20b : Br.okC (Br.okOp Zg Try.prog []) (rbl (sdc 4 (Try.f20.body.getD .skip))) = true := by kernel_rfl
theorem nm48 : (Try.f48.name == "runtime.NumGoroutine") = false := by kernel_rfl
theorem b48 : Try.f48.body.isNone = false := by kernel_rfl
/-- what is held behind the loop, whatever tape and clock -/
def RUB (W w : World) (lo g n : Nat) (r : List Int) (a' : Act) (w' : World) : Prop := ∃ T, a' = ⟨T, []⟩ ∧ T.size = 45 ∧ T[6]? = some (.slice (some ⟨g, 0, none⟩) n n) ∧ OwnI w' lo g n n r ∧ BelL W.heap.size W w' ∧ ∀ k, Pz w k → Pz w' k
theorem RUB.rt {W w : World} {lo g n : Nat} {r : List Int} {a' : Act} {w' : World} {T : Nat → Question → Nat} {d : Nat} (h : RUB W w lo g n r a' w') : RUB W w lo g n r a' (Br.rt T d w') := let ⟨T', h1, h2, h3, h4, h5, h6⟩ := h; ⟨T', h1, h2, h3, h4, h5.rtt, h6⟩
theorem pz_own {w w' : World} {lo lo' g n : Nat} {r r' : List Int} (h : OwnI w lo g n n r) (h' : OwnI w' lo' g n n r') (hp : Pz w g) : Pz w' g := by
  obtain ⟨c1, hc1, s1⟩ := own_curX h
  obtain ⟨c2, hc2, s2⟩ := own_curX h'
  obtain ⟨e, he⟩ := hp
  rw [hc1] at he
  simp at he
  rw [he.1] at s1
  simp at s1
  have e2 : c2 = #[] := Array.size_eq_zero_iff.1 (by omega)
  exact ⟨2, by rw [hc2, e2]⟩
theorem RU.belB {W0 w w6 W5 W : World} {g gB cB n : Nat} {B r : List Int} (h : RU W0 w w6 g gB cB n B r) (hB : BelL W.heap.size W W5) (ho : W5.os = w.os ∧ W5.output = w.output ∧ W5.heap = w.heap) (hg : W.heap.size ≤ g) (hb : W0.os = w6.os) (hoo : w.output = w6.output) (hh : W0.os = w.os) : BelL W.heap.size W w6 :=
  ⟨by rw [← hb, hh, ← ho.1]; exact hB.os, by rw [← hoo, ← ho.2.1]; exact hB.output, by rw [h.sz, ← ho.2.2]; exact hB.size, fun k hk => by rw [h.st k (by omega), ← ho.2.2]; exact hB.block k hk⟩
section
variable {ps bs : List Tv} {w : World} {a b : Option Addr} {cap cb : Nat}
set_option maxRecDepth 100000 in
set_option maxHeartbeats 16000000 in
set_option maxRecDepth 100000 in
theorem reu_2 [Thr] {Q : Goroutine → World → Prop} {cc : Frame} {cs : List Frame} {w3 : World} {gA cA : Nat} {A B : List Int} (hJ2 : jobOk bs = true) (hbl : bs.length ≤ maxLen) (hB : outOf (resR bs) bs = B) (IA : Ins w3 (some ⟨gA, 0, none⟩) A) (hA2 : A.length ≤ 200) (S3 : Tks w3 b bs) (B3 : BelL w.heap.size w w3) (hg : Br.GC Try.prog w) (hTh : Thr.N ≤ w.heap.size)
    (hk : ∀ v w', RDtB w (ruk A B bs bs.length) v w' → BT Try.prog Q (G (cc.finish v) cs) w') (y0 y2 y3 y4 y6 y7 y8 y9 y10 y11 y12 y13 y14 y15 y16 y17 y18 y19 y20 y21 y22 y23 y24 y25 y26 y27 y28 y29 y30 y31 y32 y33 y34 y35 y36 y37 y38 y39 y40 y41 y42 y43 y44 : Value) :
    BT Try.prog Q (G ((base 20).at ⟨#[y0, .slice b bs.length cb, y2, y3, y4, .slice (some ⟨gA, 0, none⟩) A.length cA, y6, y7, y8, y9, y10, y11, y12, y13, y14, y15, y16, y17, y18, y19, y20, y21, y22, y23, y24, y25, y26, y27, y28, y29, y30, y31, y32, y33, y34, y35, y36, y37, y38, y39, y40, y41, y42, y43, y44], []⟩ [.code (sdc 3 (Try.f20.body.getD .skip))]) (cc :: cs)) w3 := by
  have hb200 : bs.length ≤ 200 := job_short hJ2
  have hBl : B.length = bs.length := by rw [← hB, out_len]
  have g3 := gc_belL B3 hg
  show BT Try.prog Q (G ((base 20).at ⟨#[y0, .slice b bs.length cb, y2, y3, y4, .slice (some ⟨gA, 0, none⟩) A.length cA, y6, y7, y8, y9, y10, y11, y12, y13, y14, y15, y16, y17, y18, y19, y20, y21, y22, y23, y24, y25, y26, y27, y28, y29, y30, y31, y32, y33, y34, y35, y36, y37, y38, y39, y40, y41, y42, y43, y44], []⟩ [.code (.seq (rfs (sdc 3 (Try.f20.body.getD .skip))) (sdc 4 (Try.f20.body.getD .skip)))]) (cc :: cs)) w3
  refine kA ?_
  refine Br.BT.code (R := fun a' w' => a' = ⟨#[y0, .slice b bs.length cb, y2, y3, y4, .slice (some ⟨gA, 0, none⟩) A.length cA, .slice (some ⟨w3.heap.size, 0, none⟩) bs.length bs.length, y7, y8, y9, y10, y11, y12, y13, y14, y15, y16, y17, y18, y19, .slice b bs.length cb, .int .i64 (bs.length : Int), .slice (some ⟨w3.heap.size, 0, none⟩) bs.length bs.length, y23, y24, y25, y26, y27, y28, y29, y30, y31, y32, y33, y34, y35, y36, y37, y38, y39, y40, y41, y42, y43, y44], []⟩ ∧ OwnI w' w3.heap.size w3.heap.size bs.length bs.length (List.replicate bs.length 0) ∧ BelL w3.heap.size w3 w') zgOk Try.func20 rfl ok20a rfl g3 (fun a w T d ⟨h1, h2, h3⟩ => ⟨h1, h2, h3.rtt⟩) (fun T d => ?_) (fun a' w' h => belL_pz h.2.2) (fun a' w4 h4 => ?_)
  · refine wp_mono (mk20 (w := rt T d w3) (b := b) (n := bs.length) (cb := cb) hb200 y0 y2 y3 y4 (.slice (some ⟨gA, 0, none⟩) A.length cA) y6 y7 y8 y9 y10 y11 y12 y13 y14 y15 y16 y17 y18 y19 y20 y21 y22 y23 y24 y25 y26 y27 y28 y29 y30 y31 y32 y33 y34 y35 y36 y37 y38 y39 y40 y41 y42 y43 y44) ?_
    rintro e a' w' ⟨he, h1, h2, h3⟩
    exact ⟨he, h1, h2, belL_any h3⟩
  obtain ⟨rfl, o4, k4⟩ := h4
  have S4 := tks_low k4 S3
  have B4 := B3.trans k4 B3.size
  have g4 := gc_belL B4 hg
  have s4 := Go.Proofs.Ytpmmimcafkillaa.own_lt o4
  simp only [sdc, Try.f20, Option.getD_some]
  (repeat (first | refine kA ?_ | refine kB ?_ | refine kC ?_ | refine kF ?_ | (refine kG ?_; simp only [List.size_toArray, List.length_cons, List.length_nil, Nat.reduceAdd, Nat.zero_add, List.range, List.range.loop]) | (refine kO rfl (by rfl) (by decide) (by decide) (fun dzz Kzz hKzz => ?_); go_simp; refine hKzz _ _ (fun b hb => hb) (bt_at ?_); clear hKzz Kzz; try walk_nrm) | (refine bt_skip rfl (by rfl) ?_; try walk_nrm)))
  refine bt_callB (resOf_B (cap := cb) hJ2 hbl S4 g4 (Nat.le_trans hTh B4.size)) Try.func48 nm48 b48 rfl rfl rfl (by k_ne) (by simp [Act.eval]) (fun v w5 h5 => ?_)
  rw [hB] at h5
  obtain ⟨gB, rfl, geB, hhB, k5⟩ := h5
  have S5 := tks_low k5 S4
  have B5 := B4.trans k5 B4.size
  have o5 := own_belL o4 k5
  have oB : OwnI w5 w3.heap.size gB bs.length bs.length B := by
    have h := row_ownX (lo := w3.heap.size) (n := bs.length) hhB (by simp [hBl]) (by unfold maxLen; omega) (Nat.le_trans k4.size geB)
    exact h
  have k35 := k4.trans k5 k4.size
  have g5 := gc_belL B5 hg
  have hrw : rwk A B bs 0 = List.replicate bs.length 0 := rwk_zero A B bs
  rw [hBl]
  walk_nrm
  (repeat (first | refine kA ?_ | refine kB ?_ | refine kC ?_ | refine kF ?_ | (refine kG ?_; simp only [List.size_toArray, List.length_cons, List.length_nil, Nat.reduceAdd, Nat.zero_add, List.range, List.range.loop]) | (refine kO rfl (by rfl) (by decide) (by decide) (fun dzz Kzz hKzz => ?_); go_simp; refine hKzz _ _ (fun b hb => hb) (bt_at ?_); clear hKzz Kzz; try walk_nrm) | (refine bt_skip rfl (by rfl) ?_; try walk_nrm)))
  refine Br.BT.code (c := rbl (sdc 4 (Try.f20.body.getD .skip))) (R := RUB w w5 w.heap.size w3.heap.size bs.length (ruk A B bs bs.length)) zgOk Try.func20 rfl ok20b rfl g5 (fun a w T d h => h.rt) (fun T d => ?_) (fun a' w' ⟨_, _, _, _, _, _, h⟩ => h) (fun a' w6 h6 => ?_)
  · refine wp_mono (reu_loop (W0 := { w3 with tape := (rt T d w5).tape, os := (rt T d w5).os }) (w := rt T d w5) (A := A) (B := B) (bs := bs) (b := b) (cb := cb) (gA := gA) (cA := cA) (gB := gB) (cB := bs.length) (g := w3.heap.size) IA S3 ⟨rfl, rfl, k35.output, k35.size, k35.block⟩ (by rw [hrw]; exact o5) oB (by omega) hA2 hb200 _ _ _ _ _ _ _ _ _ _ _ _ _ _ _ _ _ _ _ _ _ _ _ _ _ _ _ _ _ _ _ _ _ _ _ _ _ _ _) ?_
    rintro e a' w6 ⟨he, T', h1, h2, h3, hU⟩
    refine ⟨he, T', h1, h2, h3, Go.Proofs.Ytpmmimcafkillaa.own_mono hU.R B3.size, hU.belB B5 ⟨rfl, rfl, rfl⟩ B3.size hU.bel.os.symm (k35.output.trans hU.bel.output.symm) rfl, fun k hp => ?_⟩
    by_cases e : k = w3.heap.size
    · subst e
      exact pz_own o5 hU.R hp
    · obtain ⟨x, hx⟩ := hp
      exact ⟨x, (hU.st k e).trans hx⟩
  · obtain ⟨T, rfl, hT, t6, o6, B6, _⟩ := h6
    obtain ⟨u0, u1, u2, u3, u4, u5, u6, u7, u8, u9, u10, u11, u12, u13, u14, u15, u16, u17, u18, u19, u20, u21, u22, u23, u24, u25, u26, u27, u28, u29, u30, u31, u32, u33, u34, u35, u36, u37, u38, u39, u40, u41, u42, u43, u44, rfl⟩ := array45 T hT
    simp only [List.getElem?_toArray, List.getElem?_cons_succ, List.getElem?_cons_zero, Option.some.injEq] at t6
    subst t6
    (repeat (first | refine kA ?_ | refine kB ?_ | refine kC ?_ | refine kF ?_ | (refine kG ?_; simp only [List.size_toArray, List.length_cons, List.length_nil, Nat.reduceAdd, Nat.zero_add, List.range, List.range.loop]) | (refine kO rfl (by rfl) (by decide) (by decide) (fun dzz Kzz hKzz => ?_); go_simp; refine hKzz _ _ (fun b hb => hb) (bt_at ?_); clear hKzz Kzz; try walk_nrm) | (refine bt_skip rfl (by rfl) ?_; try walk_nrm)))
    exact Br.BT.leave (v := .slice (some ⟨w3.heap.size, 0, none⟩) bs.length bs.length) ⟨rfl, rfl, rfl, Try.f20, Try.func20, by simp [results, Try.f20, Frame.at]⟩ (hk _ _ ⟨w3.heap.size, bs.length, by rw [ruk_len], by rw [ruk_len]; exact o6, B6.rtt⟩)
set_option maxRecDepth 100000 in
set_option maxHeartbeats 16000000 in
/-- ████ Reused ████ -/
theorem reu_B [Thr] (hl : ps.length ≤ maxLen) (hbl : bs.length ≤ maxLen) (hT : Tks w a ps) (hS : Tks w b bs) (hg : Br.GC Try.prog w) (hTh : Thr.N ≤ w.heap.size) :
    CallsB Try.prog 20 #[.slice a ps.length cap, .slice b bs.length cb] w (RDtB w (reuOf ps bs)) := by
  intro cc cs Q hk
  have e20 : Frame.enter Try.prog 20 #[.slice a ps.length cap, .slice b bs.length cb] .normal = (base 20).at ⟨#[.slice a ps.length cap, .slice b bs.length cb, undef, undef, undef, undef, undef, undef, undef, undef, undef, undef, undef, undef, undef, undef, undef, undef, undef, undef, undef, undef, undef, undef, undef, undef, undef, undef, undef, undef, undef, undef, undef, undef, undef, undef, undef, undef, undef, undef, undef, undef, undef, undef, undef], []⟩ [.code (Try.f20.body.getD .skip)] := by
    simp [Frame.enter, Frame.at, Try.func20, base, Try.f20]
  rw [e20]
  clear e20
  simp only [Try.f20, Option.getD_some]
  (repeat (first | refine kA ?_ | refine kB ?_ | refine kC ?_ | refine kF ?_ | (refine kG ?_; simp only [List.size_toArray, List.length_cons, List.length_nil, Nat.reduceAdd, Nat.zero_add, List.range, List.range.loop]) | (refine kO rfl (by rfl) (by decide) (by decide) (fun dzz Kzz hKzz => ?_); go_simp; refine hKzz _ _ (fun b hb => hb) (bt_at ?_); clear hKzz Kzz; try walk_nrm) | (refine bt_skip rfl (by rfl) ?_; try walk_nrm)))
  refine bt_call (R := RJob w ps) zgOk (job_B (cap := cap) hl hT) hg (fun v w T d h => h.rt) (fun v w' h => belL_pz h.2) zF37 (by simp [zK]) Try.func37 rfl rfl rfl rfl rfl (by k_ne) (by simp [Act.eval]) (fun v w1 h1 => ?_)
  obtain ⟨rfl, k1⟩ := h1
  have T1 := tks_low k1 hT
  have S1 := tks_low k1 hS
  have g1 := gc_belL k1 hg
  walk_nrm
  cases hJ : jobOk ps with
  | false =>
    (repeat (first | refine kA ?_ | refine kB ?_ | refine kC ?_ | refine kF ?_ | (refine kG ?_; simp only [List.size_toArray, List.length_cons, List.length_nil, Nat.reduceAdd, Nat.zero_add, List.range, List.range.loop]) | (refine kO rfl (by rfl) (by decide) (by decide) (fun dzz Kzz hKzz => ?_); go_simp; refine hKzz _ _ (fun b hb => hb) (bt_at ?_); clear hKzz Kzz; try walk_nrm) | (refine bt_skip rfl (by rfl) ?_; try walk_nrm)))
    (refine kJ rfl ?_)
    (repeat (first | refine kA ?_ | refine kB ?_ | refine kC ?_ | refine kF ?_ | (refine kG ?_; simp only [List.size_toArray, List.length_cons, List.length_nil, Nat.reduceAdd, Nat.zero_add, List.range, List.range.loop]) | (refine kO rfl (by rfl) (by decide) (by decide) (fun dzz Kzz hKzz => ?_); go_simp; refine hKzz _ _ (fun b hb => hb) (bt_at ?_); clear hKzz Kzz; try walk_nrm) | (refine bt_skip rfl (by rfl) ?_; try walk_nrm)))
    refine bt_alloc' rfl (fun W hW => by rw [stepG_bs29 rfl rfl (by k_ne) rfl, hW]) ?_
    walk_nrm
    obtain ⟨w5, e5, s5, b5, n5, o5, p5⟩ := alloc_out w1 (.cells #[] 2 (0, 0))
    rw [e5]
    have hB5 : BelL w.heap.size w w5 := k1.trans ⟨by rw [o5]; exact .refl _, p5, by omega, b5⟩ k1.size
    (repeat (first | refine kA ?_ | refine kB ?_ | refine kC ?_ | refine kF ?_ | (refine kG ?_; simp only [List.size_toArray, List.length_cons, List.length_nil, Nat.reduceAdd, Nat.zero_add, List.range, List.range.loop]) | (refine kO rfl (by rfl) (by decide) (by decide) (fun dzz Kzz hKzz => ?_); go_simp; refine hKzz _ _ (fun b hb => hb) (bt_at ?_); clear hKzz Kzz; try walk_nrm) | (refine bt_skip rfl (by rfl) ?_; try walk_nrm)))
    exact Br.BT.leave (v := .slice (some ⟨w1.heap.size, 0, none⟩) 0 0) ⟨rfl, rfl, rfl, Try.f20, Try.func20, by simp [results, Try.f20, Frame.at]⟩ (hk _ _ ⟨w1.heap.size, 0, by simp [reuOf, hJ], by simp only [reuOf, hJ, Bool.false_and, Bool.false_eq_true, if_false]; exact row_ownX (c := #[]) (by simp [World.at, n5]) (by simp) (by unfold maxLen; simp) k1.size, ⟨hB5.os, hB5.output, hB5.size, hB5.block⟩⟩)
  | true =>
    (repeat (first | refine kA ?_ | refine kB ?_ | refine kC ?_ | refine kF ?_ | (refine kG ?_; simp only [List.size_toArray, List.length_cons, List.length_nil, Nat.reduceAdd, Nat.zero_add, List.range, List.range.loop]) | (refine kO rfl (by rfl) (by decide) (by decide) (fun dzz Kzz hKzz => ?_); go_simp; refine hKzz _ _ (fun b hb => hb) (bt_at ?_); clear hKzz Kzz; try walk_nrm) | (refine bt_skip rfl (by rfl) ?_; try walk_nrm)))
    refine bt_call (R := RJob w1 bs) zgOk (job_B (cap := cb) hbl S1) g1 (fun v w T d h => h.rt) (fun v w' h => belL_pz h.2) zF37 (by simp [zK]) Try.func37 rfl rfl rfl rfl rfl (by k_ne) (by simp [Act.eval]) (fun v w2 h2 => ?_)
    obtain ⟨rfl, k2⟩ := h2
    have B2 := k1.trans k2 k1.size
    have T2 := tks_low k2 T1
    have S2 := tks_low k2 S1
    have g2 := gc_belL k2 g1
    clear T1 S1 g1 k1 k2
    walk_nrm
    cases hJ2 : jobOk bs with
    | false =>
      (repeat (first | refine kA ?_ | refine kB ?_ | refine kC ?_ | refine kF ?_ | (refine kG ?_; simp only [List.size_toArray, List.length_cons, List.length_nil, Nat.reduceAdd, Nat.zero_add, List.range, List.range.loop]) | (refine kO rfl (by rfl) (by decide) (by decide) (fun dzz Kzz hKzz => ?_); go_simp; refine hKzz _ _ (fun b hb => hb) (bt_at ?_); clear hKzz Kzz; try walk_nrm) | (refine bt_skip rfl (by rfl) ?_; try walk_nrm)))
      (refine kJ rfl ?_)
      (repeat (first | refine kA ?_ | refine kB ?_ | refine kC ?_ | refine kF ?_ | (refine kG ?_; simp only [List.size_toArray, List.length_cons, List.length_nil, Nat.reduceAdd, Nat.zero_add, List.range, List.range.loop]) | (refine kO rfl (by rfl) (by decide) (by decide) (fun dzz Kzz hKzz => ?_); go_simp; refine hKzz _ _ (fun b hb => hb) (bt_at ?_); clear hKzz Kzz; try walk_nrm) | (refine bt_skip rfl (by rfl) ?_; try walk_nrm)))
      refine bt_alloc' rfl (fun W hW => by rw [stepG_bs29 rfl rfl (by k_ne) rfl, hW]) ?_
      walk_nrm
      obtain ⟨w5, e5, s5, b5, n5, o5, p5⟩ := alloc_out w2 (.cells #[] 2 (0, 0))
      rw [e5]
      have hB5 : BelL w.heap.size w w5 := B2.trans ⟨by rw [o5]; exact .refl _, p5, by omega, b5⟩ B2.size
      (repeat (first | refine kA ?_ | refine kB ?_ | refine kC ?_ | refine kF ?_ | (refine kG ?_; simp only [List.size_toArray, List.length_cons, List.length_nil, Nat.reduceAdd, Nat.zero_add, List.range, List.range.loop]) | (refine kO rfl (by rfl) (by decide) (by decide) (fun dzz Kzz hKzz => ?_); go_simp; refine hKzz _ _ (fun b hb => hb) (bt_at ?_); clear hKzz Kzz; try walk_nrm) | (refine bt_skip rfl (by rfl) ?_; try walk_nrm)))
      exact Br.BT.leave (v := .slice (some ⟨w2.heap.size, 0, none⟩) 0 0) ⟨rfl, rfl, rfl, Try.f20, Try.func20, by simp [results, Try.f20, Frame.at]⟩ (hk _ _ ⟨w2.heap.size, 0, by simp [reuOf, hJ2], by simp only [reuOf, hJ2, Bool.and_false, Bool.false_eq_true, if_false]; exact row_ownX (c := #[]) (by simp [World.at, n5]) (by simp) (by unfold maxLen; simp) B2.size, ⟨hB5.os, hB5.output, hB5.size, hB5.block⟩⟩)
    | true =>
      have ha200 : ps.length ≤ 200 := job_short hJ
      have hb200 : bs.length ≤ 200 := job_short hJ2
      obtain ⟨A, hA⟩ : ∃ A, outOf (resR ps) ps = A := ⟨_, rfl⟩
      obtain ⟨B, hB⟩ : ∃ A, outOf (resR bs) bs = A := ⟨_, rfl⟩
      have hAl : A.length = ps.length := by rw [← hA, out_len]
      have hBl : B.length = bs.length := by rw [← hB, out_len]
      have hD : reuOf ps bs = ruk A B bs bs.length := by simp [reuOf, hJ, hJ2, hA, hB]
      (repeat (first | refine kA ?_ | refine kB ?_ | refine kC ?_ | refine kF ?_ | (refine kG ?_; simp only [List.size_toArray, List.length_cons, List.length_nil, Nat.reduceAdd, Nat.zero_add, List.range, List.range.loop]) | (refine kO rfl (by rfl) (by decide) (by decide) (fun dzz Kzz hKzz => ?_); go_simp; refine hKzz _ _ (fun b hb => hb) (bt_at ?_); clear hKzz Kzz; try walk_nrm) | (refine bt_skip rfl (by rfl) ?_; try walk_nrm)))
      (refine kI rfl ?_)
      (repeat (first | refine kA ?_ | refine kB ?_ | refine kC ?_ | refine kF ?_ | (refine kG ?_; simp only [List.size_toArray, List.length_cons, List.length_nil, Nat.reduceAdd, Nat.zero_add, List.range, List.range.loop]) | (refine kO rfl (by rfl) (by decide) (by decide) (fun dzz Kzz hKzz => ?_); go_simp; refine hKzz _ _ (fun b hb => hb) (bt_at ?_); clear hKzz Kzz; try walk_nrm) | (refine bt_skip rfl (by rfl) ?_; try walk_nrm)))
      refine bt_callB (resOf_B (cap := cap) hJ hl T2 g2 (Nat.le_trans hTh B2.size)) Try.func48 nm48 b48 rfl rfl rfl (by k_ne) (by simp [Act.eval]) (fun v w3 h3 => ?_)
      rw [hA] at h3
      obtain ⟨gA, rfl, geA, hhA, k3⟩ := h3
      have B3 := B2.trans k3 B2.size
      have S3 := tks_low k3 S2
      have g3 := gc_belL k3 g2
      have IA : Ins w3 (some ⟨gA, 0, none⟩) A := ins_own hhA
      clear T2 S2 g2 k3 geA hhA
      walk_nrm
      refine kO rfl (by rfl) (by decide) (by decide) (fun dzz Kzz hKzz => ?_)
      go_simp
      refine hKzz _ _ (fun b hb => hb) (bt_at ?_)
      clear hKzz Kzz
      try walk_nrm
      refine kC ?_
      have h2 := fun y0 y2 y3 y4 y6 y7 y8 y9 y10 y11 y12 y13 y14 y15 y16 y17 y18 y19 y20 y21 y22 y23 y24 y25 y26 y27 y28 y29 y30 y31 y32 y33 y34 y35 y36 y37 y38 y39 y40 y41 y42 y43 y44 => reu_2 (cA := A.length) (cb := cb) hJ2 hbl hB IA (by omega) S3 B3 hg hTh (fun v w' h => hk v w' (by rw [hD]; exact h)) y0 y2 y3 y4 y6 y7 y8 y9 y10 y11 y12 y13 y14 y15 y16 y17 y18 y19 y20 y21 y22 y23 y24 y25 y26 y27 y28 y29 y30 y31 y32 y33 y34 y35 y36 y37 y38 y39 y40 y41 y42 y43 y44
      simp only [sdc, Try.f20, Option.getD_some, hAl] at h2
      exact h2 _ _ _ _ _ _ _ _ _ _ _ _ _ _ _ _ _ _ _ _ _ _ _ _ _ _ _ _ _ _ _ _ _ _ _ _ _ _ _ _ _ _ _
end
end Go.Proofs.Ytpmmimcafkillaa.Tr

set_option linter.unusedVariables false
set_option linter.unusedSimpArgs false
namespace Go.Proofs.Ytpmmimcafkillaa.Tr
open Go Go.Conc Go.RowKit
open Go.Proofs.Ytpmmimcafkillaa.Br (BT BTS Hd Hid Pz Pst Shn Thr EvN bt_ctl bt_cons bt_skip bt_call bt_callB bt_enter CallsB rt)
open Go.Proofs.Ytpmmimcafkillaa.Rs (Rule outOf out_at out_len resR dtR hst)
open Go.Proofs.Ytpmmimcafkillaa (Tv Tks Ins jobOk job_tok TOk job_short)
section
variable {ts : List Tv} {w : World} {a : Option Addr} {cap : Nat}
set_option maxRecDepth 100000 in
set_option maxHeartbeats 4000000 in
/-- ████ Results ████ -/
theorem res_B [Thr] (hl : ts.length ≤ maxLen) (hT : Tks w a ts) (hg : Br.GC Try.prog w) (hTh : Thr.N ≤ w.heap.size) :
    CallsB Try.prog 21 #[.slice a ts.length cap] w (PRow w (resOf ts)) := by
  intro cc cs Q hk
  have e21 : Frame.enter Try.prog 21 #[.slice a ts.length cap] .normal = (base 21).at ⟨#[.slice a ts.length cap, undef, undef, undef, undef, undef, undef, undef, undef], []⟩ [.code (Try.f21.body.getD .skip)] := by
    simp [Frame.enter, Frame.at, Try.func21, base, Try.f21]
  rw [e21]
  clear e21
  simp only [Try.f21, Option.getD_some]
  (repeat (first | refine kA ?_ | refine kB ?_ | refine kC ?_ | refine kF ?_ | (refine kG ?_; simp only [List.size_toArray, List.length_cons, List.length_nil, Nat.reduceAdd, Nat.zero_add, List.range, List.range.loop]) | (refine kO rfl (by rfl) (by decide) (by decide) (fun dzz Kzz hKzz => ?_); go_simp; refine hKzz _ _ (fun b hb => hb) (bt_at ?_); clear hKzz Kzz; try walk_nrm) | (refine bt_skip rfl (by rfl) ?_; try walk_nrm)))
  refine bt_call (R := RJob w ts) zgOk (job_B (cap := cap) hl hT) hg (fun v w T d h => h.rt) (fun v w' h => belL_pz h.2) zF37 (by simp [zK]) Try.func37 rfl rfl rfl rfl rfl (by k_ne) (by simp [Act.eval]) (fun v w2 h2 => ?_)
  obtain ⟨rfl, hB2⟩ := h2
  have hT2 : Tks w2 a ts := tks_low hB2 hT
  have hg2 : Br.GC Try.prog w2 := gc_belL hB2 hg
  have hs2 := hB2.size
  walk_nrm
  cases hJ : jobOk ts with
  | false =>
    (repeat (first | refine kA ?_ | refine kB ?_ | refine kC ?_ | refine kF ?_ | (refine kG ?_; simp only [List.size_toArray, List.length_cons, List.length_nil, Nat.reduceAdd, Nat.zero_add, List.range, List.range.loop]) | (refine kO rfl (by rfl) (by decide) (by decide) (fun dzz Kzz hKzz => ?_); go_simp; refine hKzz _ _ (fun b hb => hb) (bt_at ?_); clear hKzz Kzz; try walk_nrm) | (refine bt_skip rfl (by rfl) ?_; try walk_nrm)))
    refine kJ rfl ?_
    (repeat (first | refine kA ?_ | refine kB ?_ | refine kC ?_ | refine kF ?_ | (refine kG ?_; simp only [List.size_toArray, List.length_cons, List.length_nil, Nat.reduceAdd, Nat.zero_add, List.range, List.range.loop]) | (refine kO rfl (by rfl) (by decide) (by decide) (fun dzz Kzz hKzz => ?_); go_simp; refine hKzz _ _ (fun b hb => hb) (bt_at ?_); clear hKzz Kzz; try walk_nrm) | (refine bt_skip rfl (by rfl) ?_; try walk_nrm)))
    refine bt_alloc' rfl (fun W hW => by rw [stepG_bs29 rfl rfl (by k_ne) rfl, hW]) ?_
    walk_nrm
    obtain ⟨w3, e3, s3, b3, n3, o3, p3⟩ := alloc_out w2 (.cells #[] 2 (0, 0))
    rw [e3]
    have hB3 : BelL w.heap.size w w3 := hB2.trans ⟨by rw [o3]; exact .refl _, p3, by omega, b3⟩ hs2
    (repeat (first | refine kA ?_ | refine kB ?_ | refine kC ?_ | refine kF ?_ | (refine kG ?_; simp only [List.size_toArray, List.length_cons, List.length_nil, Nat.reduceAdd, Nat.zero_add, List.range, List.range.loop]) | (refine kO rfl (by rfl) (by decide) (by decide) (fun dzz Kzz hKzz => ?_); go_simp; refine hKzz _ _ (fun b hb => hb) (bt_at ?_); clear hKzz Kzz; try walk_nrm) | (refine bt_skip rfl (by rfl) ?_; try walk_nrm)))
    exact Br.BT.leave (v := .slice (some ⟨w2.heap.size, 0, none⟩) 0 0) ⟨rfl, rfl, rfl, Try.f21, Try.func21, by simp [results, Try.f21, Frame.at]⟩ (hk _ _ ⟨w2.heap.size, by simp [resOf, hJ], hs2, by simp [resOf, hJ, World.at, n3], ⟨hB3.os, hB3.output, hB3.size, hB3.block⟩⟩)
  | true =>
    (repeat (first | refine kA ?_ | refine kB ?_ | refine kC ?_ | refine kF ?_ | (refine kG ?_; simp only [List.size_toArray, List.length_cons, List.length_nil, Nat.reduceAdd, Nat.zero_add, List.range, List.range.loop]) | (refine kO rfl (by rfl) (by decide) (by decide) (fun dzz Kzz hKzz => ?_); go_simp; refine hKzz _ _ (fun b hb => hb) (bt_at ?_); clear hKzz Kzz; try walk_nrm) | (refine bt_skip rfl (by rfl) ?_; try walk_nrm)))
    refine kI rfl ?_
    (repeat (first | refine kA ?_ | refine kB ?_ | refine kC ?_ | refine kF ?_ | (refine kG ?_; simp only [List.size_toArray, List.length_cons, List.length_nil, Nat.reduceAdd, Nat.zero_add, List.range, List.range.loop]) | (refine kO rfl (by rfl) (by decide) (by decide) (fun dzz Kzz hKzz => ?_); go_simp; refine hKzz _ _ (fun b hb => hb) (bt_at ?_); clear hKzz Kzz; try walk_nrm) | (refine bt_skip rfl (by rfl) ?_; try walk_nrm)))
    refine bt_callB (resOf_B (cap := cap) hJ hl hT2 hg2 (by omega)) Try.func48 nm48 b48 rfl rfl rfl (by k_ne) (by simp [Act.eval]) (fun v w3 h3 => ?_)
    obtain ⟨B, rfl, hBge, hBB, hB3⟩ := h3
    have hB3' : BelL w.heap.size w w3 := hB2.trans hB3 (by omega)
    walk_nrm
    (repeat (first | refine kA ?_ | refine kB ?_ | refine kC ?_ | refine kF ?_ | (refine kG ?_; simp only [List.size_toArray, List.length_cons, List.length_nil, Nat.reduceAdd, Nat.zero_add, List.range, List.range.loop]) | (refine kO rfl (by rfl) (by decide) (by decide) (fun dzz Kzz hKzz => ?_); go_simp; refine hKzz _ _ (fun b hb => hb) (bt_at ?_); clear hKzz Kzz; try walk_nrm) | (refine bt_skip rfl (by rfl) ?_; try walk_nrm)))
    exact Br.BT.leave (v := .slice (some ⟨B, 0, none⟩) (outOf (resR ts) ts).length (outOf (resR ts) ts).length) ⟨rfl, rfl, rfl, Try.f21, Try.func21, by simp [results, Try.f21, Frame.at]⟩ (hk _ _ ⟨B, by simp [resOf, hJ], by omega, by simpa [resOf, hJ] using hBB, ⟨hB3'.os, hB3'.output, hB3'.size, hB3'.block⟩⟩)
end
theorem res_len {ts : List Tv} : (resOf ts).length ≤ 200 := by
  unfold resOf
  split
  · next h => rw [out_len]; exact job_short h
  · simp
theorem nm21 : (Try.f21.name == "runtime.NumGoroutine") = false := by kernel_rfl
theorem b21 : Try.f21.body.isNone = false := by kernel_rfl
end Go.Proofs.Ytpmmimcafkillaa.Tr
