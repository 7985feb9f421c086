/-
  Contracts of the laws' small helpers and of the model's draws of arguments: each answers; lists that are drawn are new memory, and what was there stays.
-/
import Derived.Test.YtdemcjppokhonaaDrL
import Derived.Test.YtdemcjppokhonaaIe2
namespace Go.Proofs.Ytdemcjppokhonaa
open Go.RowKit
set_option linter.unusedVariables false
set_option linter.unusedSimpArgs false

theorem big_any (a : Option Addr) (n c : Nat) (w : World) : Calls Try.prog 12 #[.slice a n c] w fun e w' => e = .returned (.bool (decide (4096 < n))) ∧ w' = w := by
  go_enter Try.func12, Try.ntmps12
  go_wp2
  go_ret
  exact ⟨ret_bool (by rw [decide_eq_decide]; omega), rfl⟩

theorem near_notnan (s : Bool) (m : Nat) (p : Int) : ¬ NaN (Ieee.double.nearest s m p) := by
  unfold Ieee.Format.nearest
  split
  · exact rung_notnan (Nat.zero_le _)
  · exact rung_notnan (Nat.min_le_right _ _)
theorem inf_notnan (s : Bool) : ¬ NaN (Ieee.double.write (.infinity s)) := by
  have hr : Ieee.double.read (Ieee.double.write (.infinity s)) = .infinity s := by cases s <;> decide +kernel
  unfold NaN; rw [hr]; simp [Ieee.Datum.isNaN]
theorem inv_notnan {x : Nat} (h : ¬ NaN x) : ¬ NaN (nv .quo 4607182418800017408 x) := by
  unfold NaN at h
  unfold nv floatBits
  simp only [FloatKind.format, Ieee.Format.div, Ie.one_fin.rd]
  cases hx : Ieee.double.read x with
  | nan s t => rw [hx] at h; simp [Ieee.Datum.isNaN] at h
  | infinity s =>
    simp only [Ieee.Datum.quotient, Option.map_some, Option.getD_some]
    exact near_notnan _ _ _
  | number s m e =>
    simp only [Ieee.Datum.quotient]
    split
    · rw [if_neg (by decide)]
      exact inf_notnan _
    · exact near_notnan _ _ _

set_option maxHeartbeats 800000 in
theorem like_any (a b : Nat) (h : Lk a b) (w : World) : Calls Try.prog 16 #[.float .f64 a, .float .f64 b] w fun e w' => e = .returned (.bool true) ∧ Below w.heap.size w w' := by
  by_cases na : NaN a
  · have nb : NaN b := by
      rcases h with h | h
      · exact h.2
      · exact absurd na h.1
    have h1 := order_nan_left (y := a) na
    have h2 := order_nan_left (y := b) nb
    clear na nb h
    go_enter Try.func16, Try.ntmps16
    go_wp2
    go_ret
    exact ⟨rfl, Below.refl _ _⟩
  · have nb : ¬ NaN b := by
      rcases h with h | h
      · exact absurd h.1 na
      · exact fun k => na ((nan_rd h.2).2 k)
    have h1 := order_self na
    have h2 := order_self nb
    have h3 : FloatKind.f64.format.order a b = some .eq := by rw [Lk.order Lk.rfl h.symm]; exact h1
    have h4 : Hid (∀ w w', FloatKind.f64.format.order (fv .quo 4607182418800017408 a w) (fv .quo 4607182418800017408 b w') = some .eq) := hide fun w w' => by
      rw [order_sm (fv_nv (w := w)) (fv_nv (w := w')), Lk.nv Lk.rfl h]
      exact order_self (inv_notnan nb)
    have h5 := unhide h4 w (w.drewN (fd .quo 4607182418800017408 a))
    clear na nb h
    go_enter Try.func16, Try.ntmps16
    go_wp2
    go_ret
    exact ⟨rfl, below_drew _⟩

theorem rdb_below {w w1 : World} {B : Nat} {a : Option Addr} {len : Nat} (h : RdB w B a len) (hb : Below B w w1) : RdB w1 B a len := by
  intro j hj
  obtain ⟨b, o, z, e, h1, h2, h3⟩ := h j hj
  exact ⟨b, o, z, e, h1, (World.cell?_of_block (a := ⟨b, o + j, none⟩) (hb.block b h1)).trans h2, h3⟩
/-- a list that was drawn lies there -/
def Lst (w w' : World) (g c : Nat) (L : List Nat) : Prop := L.length ≤ 4097 ∧ w.heap.size ≤ g ∧ w'.ownsRow w.heap.size 25 1 (.slice (some ⟨g, 0, none⟩) L.length c) L.length (L.map fl)

set_option maxHeartbeats 1600000 in
theorem dmix_any (a : Option Addr) (len cap : Nat) (w : World) (hl : len ≤ 4096) (hr : RdB w w.heap.size a len) :
    Calls Try.prog 13 #[.slice a len cap] w fun e w' => ∃ (g1 c1 : Nat) (L1 : List Nat) (g2 c2 : Nat) (L2 : List Nat) (x y : Nat), e = .returned (.tuple #[.slice (some ⟨g1, 0, none⟩) L1.length c1, .slice (some ⟨g2, 0, none⟩) L2.length c2, .float .f64 x, .float .f64 y]) ∧ Lst w w' g1 c1 L1 ∧ Lst w w' g2 c2 L2 ∧ Below w.heap.size w w' := by
  have hr' := hide hr
  clear hr
  go_enter Try.func13, Try.ntmps13
  go_wp2_with fail
  refine (new_any a len cap _ (by omega) (by omega) (unhide hr')).mono ?_
  rintro e w1 ⟨g, rfl, hg, k1, b1⟩
  have S1 := hide (show DS w1 w.heap.size g a len cap w1 from ⟨k1, rdb_below (unhide hr') b1, World.grownBy.refl _ _⟩)
  have hgl := k1.lt
  have sz := b1.size
  have b1' := hide b1
  clear k1 b1 hr'
  go_wp2_with fail
  refine (dls_any w.heap.size g a len cap _ hg (by omega) (unhide S1).cur (unhide S1).rd).mono ?_
  rintro e w2 ⟨gA, cA, LA, rfl, lA, hgA, oA, k2, g2⟩
  have S2 := hide ((unhide S1).step hg k2 g2)
  have oA := hide (own_mono oA sz)
  have s2 := g2.size
  clear S1 k2 g2
  go_wp2_with fail
  refine (dls_any w.heap.size g a len cap _ hg (by omega) (unhide S2).cur (unhide S2).rd).mono ?_
  rintro e w3 ⟨gB, cB, LB, rfl, lB, hgB, oB, k3, g3⟩
  have S3 := hide ((unhide S2).step hg k3 g3)
  have oA := hide (own_kept (unhide oA) g3 (by omega))
  have oB := hide (own_mono oB (Nat.le_trans sz s2))
  clear S2 k3 g3
  go_wp2_with fail
  refine (dfl_any w.heap.size g a len cap _ hg (by omega) (unhide S3).cur (unhide S3).rd).mono ?_
  rintro e w4 ⟨x, rfl, k4, g4⟩
  have S4 := hide ((unhide S3).step hg k4 g4)
  have oA := hide (own_kept (unhide oA) g4 (by omega))
  have oB := hide (own_kept (unhide oB) g4 (by omega))
  clear S3 k4 g4
  go_wp2_with fail
  refine (dfl_any w.heap.size g a len cap _ hg (by omega) (unhide S4).cur (unhide S4).rd).mono ?_
  rintro e w5 ⟨y, rfl, k5, g5⟩
  have S5 := hide ((unhide S4).step hg k5 g5)
  have oA := hide (own_kept (unhide oA) g5 (by omega))
  have oB := hide (own_kept (unhide oB) g5 (by omega))
  clear S4 k5 g5
  have bF := hide (show Below w.heap.size w w5 from (unhide b1').grown (unhide S5).gr sz (fun k hk => by injection hk with hk; omega))
  clear b1' S5
  go_wp2
  exact bodyPost_ret (v := .tuple #[.slice (some ⟨gA, 0, none⟩) LA.length cA, .slice (some ⟨gB, 0, none⟩) LB.length cB, .float .f64 x, .float .f64 y]) (by simp [results, Try.results13, go_sem]) rfl ⟨_, _, LA, _, _, LB, _, _, rfl, ⟨lA, by omega, unhide oA⟩, ⟨lB, by omega, unhide oB⟩, unhide bF⟩

set_option maxHeartbeats 3200000 in
theorem dpan_any (a : Option Addr) (len cap : Nat) (w : World) (hl : len ≤ 4096) (hr : RdB w w.heap.size a len) :
    Calls Try.prog 25 #[.slice a len cap] w fun e w' => ∃ (g1 c1 : Nat) (L1 : List Nat) (x : Nat), e = .returned (.tuple #[.slice (some ⟨g1, 0, none⟩) L1.length c1, .float .f64 x]) ∧ Lst w w' g1 c1 L1 ∧ Below w.heap.size w w' := by
  have hr' := hide hr
  clear hr
  obtain ⟨i0, hi, hz0, hz1, hz2⟩ := info_parts info22
  go_enter Try.func25, Try.ntmps25
  go_wp2_with fail
  refine (new_any a len cap _ (by omega) (by omega) (unhide hr')).mono ?_
  rintro e w1 ⟨g, rfl, hg, k1, b1⟩
  have S1 := hide (show DS w1 w.heap.size g a len cap w1 from ⟨k1, rdb_below (unhide hr') b1, World.grownBy.refl _ _⟩)
  have hgl := k1.lt
  have sz := b1.size
  have b1' := hide b1
  clear k1 b1 hr'
  go_wp2_with fail
  refine (dls_any w.heap.size g a len cap _ hg (by omega) (unhide S1).cur (unhide S1).rd).mono ?_
  rintro e w2 ⟨gA, cA, LA, rfl, lA, hgA, oA, k2, g2⟩
  have S2 := hide ((unhide S1).step hg k2 g2)
  have oA := hide (own_mono oA sz)
  clear S1 k2 g2
  go_wp2_with fail
  refine (once_any w.heap.size g a len cap 60 _ hg (by omega) (unhide S2).cur (unhide S2).rd (by omega)).mono ?_
  rintro e w3 ⟨big, rfl, k3, g3⟩
  have S3 := hide ((unhide S2).step hg k3 g3)
  have oA := hide (own_kept (unhide oA) g3 (by omega))
  clear S2 k3 g3
  have rest : ∀ (wq : World) (gA cA : Nat) (LA : List Nat), True := fun _ _ _ _ => trivial
  clear rest
  cases big
  · go_wp2_with fail
    refine (once_any w.heap.size g a len cap 3 _ hg (by omega) (unhide S3).cur (unhide S3).rd (by omega)).mono ?_
    rintro e w5 ⟨tr, rfl, k5, g5⟩
    have S5 := hide ((unhide S3).step hg k5 g5)
    have oA := hide (own_kept (unhide oA) g5 (by omega))
    clear S3 k5 g5
    cases tr
    · go_wp2_with fail
      refine (below_any w.heap.size g a len cap 9 _ hg (by omega) (unhide S5).cur (unhide S5).rd (by omega)).mono ?_
      rintro e w6 ⟨j, rfl, j0, j1, k6, g6⟩
      have S6 := hide ((unhide S5).step hg k6 g6)
      have oA := hide (own_kept (unhide oA) g6 (by omega))
      clear S5 k6 g6
      have bF := hide (show Below w.heap.size w w6 from (unhide b1').grown (unhide S6).gr sz (fun k hk => by injection hk with hk; omega))
      clear b1' S6
      go_wp2
      exact bodyPost_ret (v := .tuple #[.slice (some ⟨gA, 0, none⟩) LA.length cA, .float .f64 (fv .quo (floatOfInt .f64 j) 4620693217682128896 w6)]) (by simp [results, Try.results25, go_sem]) rfl ⟨_, _, LA, _, rfl, ⟨lA, by omega, ownsRow_below (unhide oA) (below_drew _)⟩, below_drewN (unhide bF) _⟩
    · go_wp2_with fail
      refine (dfl_any w.heap.size g a len cap _ hg (by omega) (unhide S5).cur (unhide S5).rd).mono ?_
      rintro e w6 ⟨x, rfl, k6, g6⟩
      have S6 := hide ((unhide S5).step hg k6 g6)
      have oA := hide (own_kept (unhide oA) g6 (by omega))
      clear S5 k6 g6
      have bF := hide (show Below w.heap.size w w6 from (unhide b1').grown (unhide S6).gr sz (fun k hk => by injection hk with hk; omega))
      clear b1' S6
      go_wp2
      exact bodyPost_ret (v := .tuple #[.slice (some ⟨gA, 0, none⟩) LA.length cA, .float .f64 x]) (by simp [results, Try.results25, go_sem]) rfl ⟨_, _, LA, _, rfl, ⟨lA, by omega, unhide oA⟩, unhide bF⟩
  · go_wp2_with fail
    refine (below_any w.heap.size g a len cap 2 _ hg (by omega) (unhide S3).cur (unhide S3).rd (by omega)).mono ?_
    rintro e w4 ⟨j, rfl, j0, j1, k4, g4⟩
    have S4 := hide ((unhide S3).step hg k4 g4)
    obtain ⟨q, rfl⟩ : ∃ q : Nat, j = q := ⟨j.toNat, by omega⟩
    obtain ⟨N, hN⟩ : ∃ N, 2048 + q = N := ⟨_, rfl⟩
    have hw : IntKind.i64.wrap (2048 + (q : Int)) = (N : Int) := by rw [IntKind.wrap_i64]; omega
    have hN2 : N ≤ 4097 := by omega
    have s4 := (unhide S4).gr.size
    clear S3 k4 g4 hN oA
    go_wp2_with (refine wpList_make_full _ rfl _ _ 24 rfl w1.heap.size 25 i0 (.float .f64 0) 1 Try.underlying24 hi hz0 hz1 .i64 .i64 _ _ N rfl rfl rfl rfl ?b2 ?b3 s4 ?_)
    case b2 => rw [hz2]; omega
    case b3 => unfold maxLen; omega
    intro w3 hown hgr
    have b5 : Below w4.heap.size w4 w3 := (Below.refl _ _).grown hgr (Nat.le_refl _) (fun k hk => by cases hk)
    have S3 := hide ((unhide S4).later hg b5)
    obtain ⟨LA, hLA⟩ : ∃ LA : List Nat, List.replicate N 0 = LA := ⟨_, rfl⟩
    have eL : LA.length = N := by rw [← hLA]; simp
    have oA := hide (show w3.ownsRow w.heap.size 25 1 (.slice (some ⟨w4.heap.size, 0, none⟩) LA.length LA.length) LA.length (LA.map fl) by
      refine own_mono ?_ sz
      rw [toList_madeCells_one] at hown
      rw [eL, ← hLA]; simpa [fl] using hown)
    have lA : LA.length ≤ 4097 := by omega
    have hgA : w1.heap.size ≤ w4.heap.size := s4
    have eL2 : (N : Nat) = LA.length := eL.symm
    clear S4 b5 hown hgr hLA
    rw [eL2]
    clear eL eL2 hN2 hw
    generalize w4.heap.size = gA at *
    go_wp2_with fail
    refine (once_any w.heap.size g a len cap 3 _ hg (by omega) (unhide S3).cur (unhide S3).rd (by omega)).mono ?_
    rintro e w5 ⟨tr, rfl, k5, g5⟩
    have S5 := hide ((unhide S3).step hg k5 g5)
    have oA := hide (own_kept (unhide oA) g5 (by omega))
    clear S3 k5 g5
    cases tr
    · go_wp2_with fail
      refine (below_any w.heap.size g a len cap 9 _ hg (by omega) (unhide S5).cur (unhide S5).rd (by omega)).mono ?_
      rintro e w6 ⟨j, rfl, j0, j1, k6, g6⟩
      have S6 := hide ((unhide S5).step hg k6 g6)
      have oA := hide (own_kept (unhide oA) g6 (by omega))
      clear S5 k6 g6
      have bF := hide (show Below w.heap.size w w6 from (unhide b1').grown (unhide S6).gr sz (fun k hk => by injection hk with hk; omega))
      clear b1' S6
      go_wp2
      exact bodyPost_ret (v := .tuple #[.slice (some ⟨gA, 0, none⟩) LA.length LA.length, .float .f64 (fv .quo (floatOfInt .f64 j) 4620693217682128896 w6)]) (by simp [results, Try.results25, go_sem]) rfl ⟨_, _, LA, _, rfl, ⟨lA, by omega, ownsRow_below (unhide oA) (below_drew _)⟩, below_drewN (unhide bF) _⟩
    · go_wp2_with fail
      refine (dfl_any w.heap.size g a len cap _ hg (by omega) (unhide S5).cur (unhide S5).rd).mono ?_
      rintro e w6 ⟨x, rfl, k6, g6⟩
      have S6 := hide ((unhide S5).step hg k6 g6)
      have oA := hide (own_kept (unhide oA) g6 (by omega))
      clear S5 k6 g6
      have bF := hide (show Below w.heap.size w w6 from (unhide b1').grown (unhide S6).gr sz (fun k hk => by injection hk with hk; omega))
      clear b1' S6
      go_wp2
      exact bodyPost_ret (v := .tuple #[.slice (some ⟨gA, 0, none⟩) LA.length LA.length, .float .f64 x]) (by simp [results, Try.results25, go_sem]) rfl ⟨_, _, LA, _, rfl, ⟨lA, by omega, unhide oA⟩, unhide bF⟩

theorem fls_take {own : Bool} {lo hi : Nat} {w : World} {a : Option Addr} {l : List Nat} (h : Fls own lo hi w a l) (n : Nat) : Fls own lo hi w a (l.take n) := by
  intro j x hx
  rw [List.getElem?_take] at hx
  split at hx
  · exact h j x hx
  · cases hx

set_option maxHeartbeats 1600000 in
theorem dcv_any (a : Option Addr) (len cap : Nat) (w : World) (hl : len ≤ 4096) (hr : RdB w w.heap.size a len) :
    Calls Try.prog 17 #[.slice a len cap] w fun e w' => ∃ (g1 c1 : Nat) (L1 : List Nat) (g2 c2 : Nat) (L2 : List Nat), e = .returned (.tuple #[.slice (some ⟨g1, 0, none⟩) L1.length c1, .slice (some ⟨g2, 0, none⟩) L2.length c2]) ∧ L1.length ≤ 4097 ∧ L2.length ≤ 4097 ∧ Fls false 0 w'.heap.size w' (some ⟨g1, 0, none⟩) L1 ∧ Fls false 0 w'.heap.size w' (some ⟨g2, 0, none⟩) L2 ∧ Below w.heap.size w w' := by
  have hr' := hide hr
  clear hr
  go_enter Try.func17, Try.ntmps17
  go_wp2_with fail
  refine (new_any a len cap _ (by omega) (by omega) (unhide hr')).mono ?_
  rintro e w1 ⟨g, rfl, hg, k1, b1⟩
  have S1 := hide (show DS w1 w.heap.size g a len cap w1 from ⟨k1, rdb_below (unhide hr') b1, World.grownBy.refl _ _⟩)
  have hgl := k1.lt
  have sz := b1.size
  have b1' := hide b1
  clear k1 b1 hr'
  go_wp2_with fail
  refine (dls_any w.heap.size g a len cap _ hg (by omega) (unhide S1).cur (unhide S1).rd).mono ?_
  rintro e w2 ⟨gA, cA, LA, rfl, lA, hgA, oA, k2, g2⟩
  have S2 := hide ((unhide S1).step hg k2 g2)
  have oA := hide (own_mono oA sz)
  have s2 := g2.size
  clear S1 k2 g2
  go_wp2_with fail
  refine (dls_any w.heap.size g a len cap _ hg (by omega) (unhide S2).cur (unhide S2).rd).mono ?_
  rintro e w3 ⟨gB, cB, LB, rfl, lB, hgB, oB, k3, g3⟩
  have S3 := hide ((unhide S2).step hg k3 g3)
  have oA := hide (own_kept (unhide oA) g3 (by omega))
  have oB := hide (own_mono oB (Nat.le_trans sz s2))
  clear S2 k3 g3
  by_cases h100 : 100 < LB.length
  · have t1 : decide ((100 : Int) < (LB.length : Int)) = true := decide_eq_true (by omega)
    go_wp2_with fail
    refine (below_any w.heap.size g a len cap 3 _ hg (by omega) (unhide S3).cur (unhide S3).rd (by omega)).mono ?_
    rintro e w4 ⟨j, rfl, j0, j1, k4, g4⟩
    have S4 := hide ((unhide S3).step hg k4 g4)
    have oA := hide (own_kept (unhide oA) g4 (by omega))
    have oB := hide (own_kept (unhide oB) g4 (by omega))
    clear S3 k4 g4
    obtain ⟨q, rfl⟩ : ∃ q : Nat, j = q := ⟨j.toNat, by omega⟩
    obtain ⟨N, hN⟩ : ∃ N, 1 + q = N := ⟨_, rfl⟩
    have hw : IntKind.i64.wrap (1 + (q : Int)) = (N : Int) := by rw [IntKind.wrap_i64]; omega
    have hN3 : N ≤ 3 := by omega
    have hcap : LB.length ≤ cB := by
      obtain ⟨_, h2⟩ := unhide oB
      rcases h2 with h2 | ⟨g', cap', cur, hv, hB, hh, r⟩
      · cases h2.1
      · injection hv with e1 e2 e3
        subst e3
        exact r.1
    have bF := hide (show Below w.heap.size w w4 from (unhide b1').grown (unhide S4).gr sz (fun k hk => by injection hk with hk; omega))
    have fA := hide (fls_ownB (unhide oA))
    obtain ⟨L2, hL2⟩ : ∃ L2, LB.take N = L2 := ⟨_, rfl⟩
    have fB := hide (show Fls false 0 w4.heap.size w4 (some ⟨gB, 0, none⟩) L2 by rw [← hL2]; exact fls_take (fls_ownB (unhide oB)) N)
    have e2 : L2.length = N := by rw [← hL2]; simp; omega
    have e2' := hide e2
    clear b1' S4 oA oB hL2 e2 hN
    go_wp2
    exact bodyPost_ret (v := .tuple #[.slice (some ⟨gA, 0, none⟩) LA.length cA, .slice (some ⟨gB, 0, none⟩) L2.length cB]) (by simp [results, Try.results17, go_sem, unhide e2']) rfl ⟨_, _, LA, _, _, L2, rfl, lA, by rw [unhide e2']; omega, unhide fA, unhide fB, unhide bF⟩
  · have t1 : decide ((100 : Int) < (LB.length : Int)) = false := decide_eq_false (by omega)
    have bF := hide (show Below w.heap.size w w3 from (unhide b1').grown (unhide S3).gr sz (fun k hk => by injection hk with hk; omega))
    have fA := hide (fls_ownB (unhide oA))
    have fB := hide (fls_ownB (unhide oB))
    clear b1' S3 oA oB
    go_wp2
    exact bodyPost_ret (v := .tuple #[.slice (some ⟨gA, 0, none⟩) LA.length cA, .slice (some ⟨gB, 0, none⟩) LB.length cB]) (by simp [results, Try.results17, go_sem]) rfl ⟨_, _, LA, _, _, LB, rfl, lA, lB, unhide fA, unhide fB, unhide bF⟩
end Go.Proofs.Ytdemcjppokhonaa
