/-
  For every rate and every text ReadList of the program answers as its model does, and the law's arguments read behind the call as they read before; where the library's variables lie as its text lays them.
-/
import Derived.Test.YthjggjnkhhoigaaGreatDoorIRw
import Derived.Test.YthjggjnkhhoigaaGreatDoorSRl
namespace Go.Proofs.YthjggjnkhhoigaaGreatDoor
open Go.RowKit
set_option linter.unusedVariables false
set_option linter.unusedSimpArgs false

set_option maxHeartbeats 1000000 in
theorem eqlf_any (a b : Int) (w : World) : Calls Tryz.prog 8 #[.agg #[.int .i64 a, .int .i64 b], .agg #[.int .i64 a, .int .i64 b]] w fun e w' => e = .returned (.bool true) ∧ Below w.heap.size w w' := by
  have gA : (a != a) = false := by simp
  have gB : (b != b) = false := by simp
  go_enter Tryz.func8, Tryz.ntmps8
  go_wp2
  go_ret
  exact ⟨rfl, ((Below.refl _ _).alloc (Nat.le_refl _) _).alloc (by simp) _⟩
theorem keep_g {X Y : World} {g k : Nat} {o : Obj} (h : X.grownBy Y (some g)) (hk : X.heap[k]? = some o) (hne : k ≠ g) : Y.heap[k]? = some o := (h.block k (Array.getElem?_eq_some_iff.1 hk).1 (fun e => by injection e with e; exact hne e)).trans hk

set_option maxRecDepth 100000 in
set_option maxHeartbeats 3200000 in
theorem lawRl {W : World} (n d : Int) (dr : Bool) (s : ByteArray) (hsm : s.size ≤ maxLen) (hM : MaxL W) (ht : Tab W) (hE : Sent W) (hT : ErrT W) :
    Calls Tryz.prog 3 #[.agg #[.int .i64 n, .int .i64 d, .bool dr], .string s] W fun e w' => e = .returned (.bool true) ∧ Below W.heap.size W w' := by
  obtain ⟨R, hR⟩ : ∃ R, rdO n d dr s.data.toList = R := ⟨_, rfl⟩
  have hRl : R.1.length ≤ 300 := by rw [← hR]; exact rd_len
  have cs := hide (fun (w : World) => sread_any n d dr s w hsm)
  have ci := hide (fun (w : World) (h : Below W.heap.size W w) => irdl_any n d dr s w hsm (hM.below h) (ht.below h) (hE.below h) (errT_below hT h))
  rw [hR] at cs ci
  obtain ⟨T, fa, fb⟩ := R
  clear hR hM ht hE hT
  simp only at hRl
  unfold maxLen at hsm
  have kb : Below W.heap.size W (W.alloc (.cells #[.int .i64 n, .int .i64 d, .bool dr] 23)) := (Below.refl _ _).alloc (Nat.le_refl _) _
  have R0 := hide (alloc_new W (.cells #[.int .i64 n, .int .i64 d, .bool dr] 23))
  have H0 := hide kb
  clear kb
  by_cases hsz : (1048576 : Int) < s.size
  · have g0 : decide ((1048576 : Int) < s.size) = true := decide_eq_true hsz
    go_enter Tryz.func3, Tryz.ntmps3
    go_wp2
    go_ret
    exact ⟨rfl, unhide H0⟩
  have g0 : decide ((1048576 : Int) < s.size) = false := decide_eq_false hsz
  clear hsz
  go_enter Tryz.func3, Tryz.ntmps3
  obtain ⟨r0, r1, r2⟩ := blk3r' (unhide R0)
  have rl := lt_blkf (unhide R0)
  go_wp2_with fail
  generalize W.alloc (.cells #[.int .i64 n, .int .i64 d, .bool dr] 23) = V at *
  have zV := lt_blkf (unhide R0)
  obtain ⟨q, hq⟩ : ∃ q, (1 : Int) + (T.length : Int) * 3 = q := ⟨_, rfl⟩
  have gq : decide (q < 0) = false := decide_eq_false (by omega)
  have gr : (q != q) = false := by simp
  refine (to_any n d dr _).mono ?_
  rintro e w1 ⟨rfl, k⟩
  have zw1 := k.size
  replace R0 := hide ((k.block _ (lt_blkf (unhide R0))).trans (unhide R0))
  replace H0 := hide (laterB (unhide H0) k)
  clear k r0 r1 r2 rl
  go_wp2_with fail
  refine (unhide cs _).mono ?_
  rintro e w2 ⟨g1, c1, rfl, qg1, X1, k⟩
  have zw2 := k.size
  replace R0 := hide ((k.block _ (lt_blkf (unhide R0))).trans (unhide R0))
  replace H0 := hide (laterB (unhide H0) k)
  have X := hide (own_mono X1 (Nat.zero_le _))
  have lg1 := own_lt X1
  clear k X1
  obtain ⟨r0, r1, r2⟩ := blk3r' (unhide R0)
  have rl := lt_blkf (unhide R0)
  go_wp2_with fail
  have k : Below w2.heap.size w2 (w2.alloc (.cells #[.int .i64 fa, .int .i64 fb] 26)) := (Below.refl _ _).alloc (Nat.le_refl _) _
  have fn := alloc_new w2 (.cells #[.int .i64 fa, .int .i64 fb] 26)
  replace R0 := hide ((k.block _ (lt_blkf (unhide R0))).trans (unhide R0))
  replace X := hide (ownsRow_below (unhide X) k)
  replace H0 := hide (laterB (unhide H0) k)
  have FA := hide fn
  clear fn k
  generalize w2.alloc (.cells #[.int .i64 fa, .int .i64 fb] 26) = v3 at *
  have zv3 := lt_blkf (unhide FA)
  refine (to_any n d dr _).mono ?_
  rintro e w4 ⟨rfl, k⟩
  have zw4 := k.size
  replace R0 := hide ((k.block _ (lt_blkf (unhide R0))).trans (unhide R0))
  replace X := hide (ownsRow_below (unhide X) k)
  replace FA := hide ((k.block _ (lt_blkf (unhide FA))).trans (unhide FA))
  replace H0 := hide (laterB (unhide H0) k)
  clear k r0 r1 r2 rl
  go_wp2_with fail
  refine (unhide ci _ (unhide H0)).mono ?_
  rintro e w5 ⟨g2, c2, rfl, qg2, X1, k⟩
  have zw5 := k.size
  replace R0 := hide ((k.block _ (lt_blkf (unhide R0))).trans (unhide R0))
  replace X := hide (ownsRow_below (unhide X) k)
  replace FA := hide ((k.block _ (lt_blkf (unhide FA))).trans (unhide FA))
  replace H0 := hide (laterB (unhide H0) k)
  have Y := hide (own_mono X1 (Nat.zero_le _))
  have lg2 := own_lt X1
  clear k X1
  go_wp2_with fail
  have k : Below w5.heap.size w5 (w5.alloc (.cells #[.int .i64 fa, .int .i64 fb] 26)) := (Below.refl _ _).alloc (Nat.le_refl _) _
  have fn := alloc_new w5 (.cells #[.int .i64 fa, .int .i64 fb] 26)
  replace R0 := hide ((k.block _ (lt_blkf (unhide R0))).trans (unhide R0))
  replace X := hide (ownsRow_below (unhide X) k)
  replace FA := hide ((k.block _ (lt_blkf (unhide FA))).trans (unhide FA))
  replace Y := hide (ownsRow_below (unhide Y) k)
  replace H0 := hide (laterB (unhide H0) k)
  have FB := hide fn
  clear fn k
  generalize w5.alloc (.cells #[.int .i64 fa, .int .i64 fb] 26) = v6 at *
  have zv6 := lt_blkf (unhide FB)
  refine (eqks_any (some ⟨g2, 0, none⟩) (some ⟨g1, 0, none⟩) c2 c1 T _ (by omega) (kls_own (unhide Y)) (kls_own (unhide X))).mono ?_
  rintro e w7 ⟨rfl, k⟩
  have zw7 := k.size
  replace R0 := hide ((k.block _ (lt_blkf (unhide R0))).trans (unhide R0))
  replace X := hide (ownsRow_below (unhide X) k)
  replace FA := hide ((k.block _ (lt_blkf (unhide FA))).trans (unhide FA))
  replace Y := hide (ownsRow_below (unhide Y) k)
  replace FB := hide ((k.block _ (lt_blkf (unhide FB))).trans (unhide FB))
  replace H0 := hide (laterB (unhide H0) k)
  clear k
  obtain ⟨a0, a1⟩ := blk2 (unhide FA)
  obtain ⟨b0, b1⟩ := blk2 (unhide FB)
  go_wp2_with fail
  refine (eqlf_any fa fb _).mono ?_
  rintro e w8 ⟨rfl, k⟩
  have zw8 := k.size
  replace R0 := hide ((k.block _ (lt_blkf (unhide R0))).trans (unhide R0))
  replace X := hide (ownsRow_below (unhide X) k)
  replace FA := hide ((k.block _ (lt_blkf (unhide FA))).trans (unhide FA))
  replace Y := hide (ownsRow_below (unhide Y) k)
  replace FB := hide ((k.block _ (lt_blkf (unhide FB))).trans (unhide FB))
  replace H0 := hide (laterB (unhide H0) k)
  clear k a0 a1 b0 b1
  have hWg : W.heap.size ≤ g2 := by have := lt_blkf (unhide R0); omega
  go_wp2_with fail
  refine (markk_any 0 g2 T.length c2 1 _ _ (by omega) (by omega) (by omega) (unhide Y)).mono ?_
  rintro e w9 ⟨rfl, ⟨ys, hY, hMk⟩, hg⟩
  rw [hq]
  replace R0 := hide (keep_g hg (unhide R0) (by omega))
  replace FA := hide (keep_g hg (unhide FA) (by omega))
  replace X := hide (own_kept (unhide X) hg (by omega))
  replace H0 := hide (below_grown (unhide H0) hg hWg)
  replace Y := hide hY
  have hMk' := hide hMk
  clear hY hMk hg FB
  go_wp2_with fail
  refine (heldk_any 0 g2 T.length c2 1 ys _ (by omega) (by omega) (by omega) (unhide Y) (unhide hMk')).mono ?_
  rintro e wx ⟨rfl, hwx⟩
  replace hwx := hwx.symm
  subst hwx
  rw [hq]
  obtain ⟨r0, r1, r2⟩ := blk3r' (unhide R0)
  have rl := lt_blkf (unhide R0)
  go_wp2_with fail
  refine (to_any n d dr _).mono ?_
  rintro e w10 ⟨rfl, k⟩
  have zw10 := k.size
  replace R0 := hide ((k.block _ (lt_blkf (unhide R0))).trans (unhide R0))
  replace X := hide (ownsRow_below (unhide X) k)
  replace FA := hide ((k.block _ (lt_blkf (unhide FA))).trans (unhide FA))
  replace Y := hide (ownsRow_below (unhide Y) k)
  replace H0 := hide (laterB (unhide H0) k)
  clear k r0 r1 r2 rl
  go_wp2_with fail
  refine (unhide ci _ (unhide H0)).mono ?_
  rintro e w11 ⟨g3, c3, rfl, qg3, X1, k⟩
  have zw11 := k.size
  replace R0 := hide ((k.block _ (lt_blkf (unhide R0))).trans (unhide R0))
  replace X := hide (ownsRow_below (unhide X) k)
  replace FA := hide ((k.block _ (lt_blkf (unhide FA))).trans (unhide FA))
  replace Y := hide (ownsRow_below (unhide Y) k)
  replace H0 := hide (laterB (unhide H0) k)
  have Z := hide (own_mono X1 (Nat.zero_le _))
  have lg3 := own_lt X1
  clear k X1
  go_wp2_with fail
  have k : Below w11.heap.size w11 (w11.alloc (.cells #[.int .i64 fa, .int .i64 fb] 26)) := (Below.refl _ _).alloc (Nat.le_refl _) _
  have fn := alloc_new w11 (.cells #[.int .i64 fa, .int .i64 fb] 26)
  replace R0 := hide ((k.block _ (lt_blkf (unhide R0))).trans (unhide R0))
  replace X := hide (ownsRow_below (unhide X) k)
  replace FA := hide ((k.block _ (lt_blkf (unhide FA))).trans (unhide FA))
  replace Y := hide (ownsRow_below (unhide Y) k)
  replace Z := hide (ownsRow_below (unhide Z) k)
  replace H0 := hide (laterB (unhide H0) k)
  have FC := hide fn
  clear fn k
  generalize w11.alloc (.cells #[.int .i64 fa, .int .i64 fb] 26) = v12 at *
  have zv12 := lt_blkf (unhide FC)
  refine (eqks_any (some ⟨g3, 0, none⟩) (some ⟨g1, 0, none⟩) c3 c1 T _ (by omega) (kls_own (unhide Z)) (kls_own (unhide X))).mono ?_
  rintro e w13 ⟨rfl, k⟩
  have zw13 := k.size
  replace R0 := hide ((k.block _ (lt_blkf (unhide R0))).trans (unhide R0))
  replace X := hide (ownsRow_below (unhide X) k)
  replace FA := hide ((k.block _ (lt_blkf (unhide FA))).trans (unhide FA))
  replace Y := hide (ownsRow_below (unhide Y) k)
  replace Z := hide (ownsRow_below (unhide Z) k)
  replace FC := hide ((k.block _ (lt_blkf (unhide FC))).trans (unhide FC))
  replace H0 := hide (laterB (unhide H0) k)
  clear k
  obtain ⟨a0, a1⟩ := blk2 (unhide FA)
  obtain ⟨b0, b1⟩ := blk2 (unhide FC)
  go_wp2_with fail
  refine (eqlf_any fa fb _).mono ?_
  rintro e w14 ⟨rfl, k⟩
  have zw14 := k.size
  replace R0 := hide ((k.block _ (lt_blkf (unhide R0))).trans (unhide R0))
  replace X := hide (ownsRow_below (unhide X) k)
  replace FA := hide ((k.block _ (lt_blkf (unhide FA))).trans (unhide FA))
  replace Y := hide (ownsRow_below (unhide Y) k)
  replace Z := hide (ownsRow_below (unhide Z) k)
  replace FC := hide ((k.block _ (lt_blkf (unhide FC))).trans (unhide FC))
  replace H0 := hide (laterB (unhide H0) k)
  clear k a0 a1 b0 b1
  go_wp2_with fail
  refine (heldk_any 0 g2 T.length c2 1 ys _ (by omega) (by omega) (by omega) (unhide Y) (unhide hMk')).mono ?_
  rintro e wx ⟨rfl, hwx⟩
  replace hwx := hwx.symm
  subst hwx
  rw [hq]
  go_wp2
  go_ret
  exact ⟨rfl, unhide H0⟩
end Go.Proofs.YthjggjnkhhoigaaGreatDoor
