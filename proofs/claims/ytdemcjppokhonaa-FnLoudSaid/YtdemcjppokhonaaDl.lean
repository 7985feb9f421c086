/-
  The draw of Loud's arguments, and the law's pick: each answers; what was there stays.
-/
import Derived.Test.YtdemcjppokhonaaDrM
import Derived.Test.YtdemcjppokhonaaAb
namespace Go.Proofs.Ytdemcjppokhonaa
open Go.RowKit
set_option linter.unusedVariables false
set_option linter.unusedSimpArgs false

set_option maxHeartbeats 1600000 in
theorem dld_any (a : Option Addr) (len cap : Nat) (w : World) (hl : len ≤ 4096) (hr : RdB w w.heap.size a len) :
    Calls Try.prog 20 #[.slice a len cap] w fun e w' => ∃ (g1 c1 : Nat) (L1 : List Nat) (x y : Nat), e = .returned (.tuple #[.slice (some ⟨g1, 0, none⟩) L1.length c1, .float .f64 x, .float .f64 y]) ∧ Lst w w' g1 c1 L1 ∧ Below w.heap.size w w' := by
  have hr' := hide hr
  clear hr
  go_enter Try.func20, Try.ntmps20
  go_wp2_with fail
  refine (new_any a len cap _ (by omega) (by omega) (unhide hr')).mono ?_
  rintro e w1 ⟨g, rfl, hg, k1, b1⟩
  have S1 := hide (show DS w1 w.heap.size g a len cap w1 from ⟨k1, rdb_below (unhide hr') b1, World.grownBy.refl _ _⟩)
  have hgl := k1.lt
  have sz := b1.size
  have b1' := hide b1
  clear k1 b1 hr'
  go_wp2_with fail
  refine (dls_any w.heap.size g a len cap _ hg (by omega) (unhide S1).cur (unhide S1).rd).mono ?_
  rintro e w2 ⟨gA, cA, LA, rfl, lA, hgA, oA, k2, g2⟩
  have S2 := hide ((unhide S1).step hg k2 g2)
  have oA := hide (own_mono oA sz)
  clear S1 k2 g2
  go_wp2_with fail
  refine (once_any w.heap.size g a len cap 3 _ hg (by omega) (unhide S2).cur (unhide S2).rd (by omega)).mono ?_
  rintro e w3 ⟨big, rfl, k3, g3⟩
  have S3 := hide ((unhide S2).step hg k3 g3)
  have oA := hide (own_kept (unhide oA) g3 (by omega))
  clear S2 k3 g3
  cases big
  · go_wp2_with fail
    refine (from_any w.heap.size g a len cap (-2) 2 _ hg (by omega) (unhide S3).cur (unhide S3).rd (by omega) (by omega) (by omega)).mono ?_
    rintro e w4 ⟨j4, rfl, k4, g4⟩
    have S4 := hide ((unhide S3).step hg k4 g4)
    have oA := hide (own_kept (unhide oA) g4 (by omega))
    clear S3 k4 g4
    go_wp2_with fail
    refine (below_any w.heap.size g a len cap 9 _ hg (by omega) (unhide S4).cur (unhide S4).rd (by omega)).mono ?_
    rintro e w6 ⟨j, rfl, j0, j1, k6, g6⟩
    have S6 := hide ((unhide S4).step hg k6 g6)
    have oA := hide (own_kept (unhide oA) g6 (by omega))
    clear S4 k6 g6
    have bF := hide (show Below w.heap.size w w6 from (unhide b1').grown (unhide S6).gr sz (fun k hk => by injection hk with hk; omega))
    clear b1' S6
    go_wp2
    exact bodyPost_ret (v := .tuple #[.slice (some ⟨gA, 0, none⟩) LA.length cA, .float .f64 (floatOfInt .f64 j4), .float .f64 (fv .quo (floatOfInt .f64 j) 4620693217682128896 w6)]) (by simp [results, Try.results20, go_sem]) rfl ⟨_, _, LA, _, _, rfl, ⟨lA, by omega, ownsRow_below (unhide oA) (below_drew _)⟩, below_drewN (unhide bF) _⟩
  · go_wp2_with fail
    refine (dfl_any w.heap.size g a len cap _ hg (by omega) (unhide S3).cur (unhide S3).rd).mono ?_
    rintro e w5 ⟨x, rfl, k5, g5⟩
    have S5 := hide ((unhide S3).step hg k5 g5)
    have oA := hide (own_kept (unhide oA) g5 (by omega))
    clear S3 k5 g5
    go_wp2_with fail
    refine (dfl_any w.heap.size g a len cap _ hg (by omega) (unhide S5).cur (unhide S5).rd).mono ?_
    rintro e w6 ⟨y, rfl, k6, g6⟩
    have S6 := hide ((unhide S5).step hg k6 g6)
    have oA := hide (own_kept (unhide oA) g6 (by omega))
    clear S5 k6 g6
    have bF := hide (show Below w.heap.size w w6 from (unhide b1').grown (unhide S6).gr sz (fun k hk => by injection hk with hk; omega))
    clear b1' S6
    go_wp2
    exact bodyPost_ret (v := .tuple #[.slice (some ⟨gA, 0, none⟩) LA.length cA, .float .f64 x, .float .f64 y]) (by simp [results, Try.results20, go_sem]) rfl ⟨_, _, LA, _, _, rfl, ⟨lA, by omega, unhide oA⟩, unhide bF⟩

set_option maxHeartbeats 800000 in
theorem pick_any (a : Option Addr) (len cap : Nat) (m : Int) (w : World) (hl : len ≤ 4096) (hm : 0 < m) (hr : RdB w w.heap.size a len) :
    Calls Try.prog 23 #[.slice a len cap, .int .i64 m] w fun e w' => ∃ x, e = .returned (.int .i64 x) ∧ 0 ≤ x ∧ x < m ∧ w' = w := by
  have hr' := hide hr
  clear hr
  go_enter Try.func23, Try.ntmps23
  go_wp2
  go_loop [5, 6] (fun s t => ∃ (k : Nat) (q : Int), k ≤ len ∧ t = .int .i64 k ∧ s = .int .i64 q ∧ 0 ≤ q ∧ q ≤ 1000003) (fun _ t => len - (intOf t).toNat)
  case atStart => exact ⟨0, _, Nat.zero_le _, rfl, rfl, by omega, by omega⟩
  case round =>
    obtain ⟨k, q, hk, rfl, rfl, q0, q1⟩ := hrel
    by_cases hlt : k < len
    · obtain ⟨b, o, z, rfl, _, hc, z0, z1⟩ := unhide hr' k hlt
      go_wp2
      go_round
      case rel => exact ⟨k + 1, _, by omega, by go_num, rfl, by omega, by omega⟩
      case measure => simp [intOf]; omega
    · go_wp2
      go_ret
      exact ⟨_, rfl, Int.emod_nonneg _ (by omega), Int.emod_lt_of_pos _ hm, rfl⟩

/-- what the law asks of the numbers, at x -/
def xc (x : Nat) : Bool :=
  let q := nv .mul x x
  let y := Op.negFloat .f64 x
  floatBits .mul .f64 x x == some q && !(Ieee.double.read q).isNaN && nv .mul y y == q && FloatKind.f64.format.order q q == some .eq &&
  meanV [q, q] == q && loudV [q, q] 0 4602678819172646912 == q && loudV [q, q] q 4602678819172646912 == 0 && loudV [q, q] 0 4607182418800017408 == 0


end Go.Proofs.Ytdemcjppokhonaa
