/-
  For every rate and every list of clips ShowList of the program answers as its model does, and the law's arguments read behind the call as they read before; where the library's table of powers of ten lies as its text lays it.
-/
import Derived.Test.YthjggjnkhhoigaaDoorILs
namespace Go.Proofs.YthjggjnkhhoigaaDoor
open Go.RowKit
set_option linter.unusedVariables false
set_option linter.unusedSimpArgs false

set_option maxRecDepth 100000 in
set_option maxHeartbeats 1600000 in
theorem lawLs {W : World} (n d : Int) (dr : Bool) (a : Option Addr) (ca : Nat) (l : List Kl) (hl0 : l.length ≤ maxLen) (ha : Kls W a l) (ht : Tab W) :
    Calls Tryd.prog 3 #[.agg #[.int .i64 n, .int .i64 d, .bool dr], .slice a l.length ca] W fun e w' => e = .returned (.bool true) ∧ Below W.heap.size W w' := by
  have ha' := hide ha
  have ht' := hide ht
  clear ha ht
  have kb : Below W.heap.size W (W.alloc (.cells #[.int .i64 n, .int .i64 d, .bool dr] 23)) := (Below.refl _ _).alloc (Nat.le_refl _) _
  have R0 := alloc_new W (.cells #[.int .i64 n, .int .i64 d, .bool dr] 23)
  go_enter Tryd.func3, Tryd.ntmps3
  go_wp2_with fail
  generalize W.alloc (.cells #[.int .i64 n, .int .i64 d, .bool dr] 23) = V at *
  generalize hRb : W.heap.size = Rb at *
  refine (szk_any a l.length ca V hl0).mono ?_
  rintro e w0 ⟨r, rfl, hr, hw0⟩
  have hw1 := hw0.symm
  subst hw1
  rcases hr with rfl | ⟨hr0, hl⟩
  · go_wp2
    go_ret
    exact ⟨rfl, by rw [hRb]; exact kb⟩
  have hr1 : decide (r < 0) = false := by simp; omega
  have H0 := hide kb
  have hKV : ∀ X, Below Rb W X → Kls X a l := fun X h => (unhide ha').below (by rw [hRb]; exact h)
  have hKV' := hide hKV
  have hTV' := hide (show ∀ X, Below Rb W X → Tab X from fun X h => (unhide ht').below (by rw [hRb]; exact h))
  have hRz := kb.size
  clear kb hKV
  obtain ⟨v, hv⟩ : ∃ v, (⟨(showOf n d dr l).toArray⟩ : ByteArray) = v := ⟨_, rfl⟩
  have cs := hide (fun (a : Option Addr) (cap : Nat) (w : World) (h : Kls w a l) => sshow_any n d dr a cap l w hl0 h)
  have ci := hide (fun (a : Option Addr) (cap : Nat) (w : World) (h : Kls w a l) (ht : Tab w) => ishow_any n d dr a cap l w hl0 h ht)
  rw [hv] at cs ci
  clear hv
  have hVz : V.heap.size ≤ V.heap.size := Nat.le_refl _
  obtain ⟨r0, r1, r2⟩ := blk3 R0
  go_wp2_with fail
  refine (to_any n d dr _).mono ?_
  rintro e w1 ⟨rfl, k1⟩
  have H1 := hide ((unhide H0).trans (k1.mono (by omega)))
  have R1 := blk_below R0 k1
  have z1 := (unhide H1).size
  have y1 := k1.size
  clear k1 H0 r0 r1 r2 R0
  go_wp2_with fail
  refine (tok_any a ca l _ hl (unhide hKV' _ (unhide H1))).mono ?_
  rintro e w2 ⟨B1, rfl, q1, n1, k2⟩
  have H2 := hide ((unhide H1).trans (k2.mono (by omega)))
  have R2 := blk_below R1 k2
  have z2 := k2.size
  clear k2 H1 R1 q1
  go_wp2_with fail
  refine (unhide cs _ _ _ (kls_own n1)).mono ?_
  rintro e w3 ⟨rfl, k3⟩
  have H3 := hide ((unhide H2).trans (k3.mono (by omega)))
  have R3 := blk_below R2 k3
  have z3 := k3.size
  clear k3 H2 R2 n1
  go_wp2_with fail
  refine (tok_any a ca l _ hl (unhide hKV' _ (unhide H3))).mono ?_
  rintro e w4 ⟨B4, rfl, q4, n4, k4⟩
  have ox := hide (own_mono n4 (Nat.zero_le _))
  have H4 := hide ((unhide H3).trans (k4.mono (by omega)))
  have R4 := blk_below R3 k4
  have z4 := k4.size
  clear k4 H3 R3 n4 q4
  obtain ⟨r0, r1, r2⟩ := blk3 R4
  go_wp2_with fail
  refine (to_any n d dr _).mono ?_
  rintro e w5 ⟨rfl, k5⟩
  have ox := hide (ownsRow_below (unhide ox) k5)
  have H5 := hide ((unhide H4).trans (k5.mono (by omega)))
  have z5 := k5.size
  clear k5 H4 R4 r0 r1 r2
  go_wp2_with fail
  refine (unhide ci _ _ _ (kls_own (unhide ox)) (unhide hTV' _ (unhide H5))).mono ?_
  rintro e w6 ⟨rfl, k6⟩
  have ox := hide (ownsRow_below (unhide ox) k6)
  have H6 := hide ((unhide H5).trans (k6.mono (by omega)))
  have z6 := k6.size
  clear k6 H5
  go_wp2_with fail
  refine (tok_any a ca l _ hl (unhide hKV' _ (unhide H6))).mono ?_
  rintro e w7 ⟨B7, rfl, q7, n7, k7⟩
  have ox := hide (ownsRow_below (unhide ox) k7)
  have o7 := hide (own_mono n7 (Nat.zero_le _))
  have H7 := hide ((unhide H6).trans (k7.mono (by omega)))
  have z7 := k7.size
  clear k7 H6 n7 q7
  go_wp2_with fail
  refine (eqks_any _ _ _ _ l _ hl (kls_own (unhide ox)) (kls_own (unhide o7))).mono ?_
  rintro e w8 ⟨rfl, k8⟩
  go_wp2
  go_ret
  exact ⟨rfl, by rw [hRb]; exact (unhide H7).trans (k8.mono (by omega))⟩

end Go.Proofs.YthjggjnkhhoigaaDoor
