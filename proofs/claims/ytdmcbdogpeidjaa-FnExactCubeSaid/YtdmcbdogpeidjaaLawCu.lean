/-
  For every number, every list of colours and every colour Cube of the program answers as its model does, and the list reads behind the call as it read before; no conditions.
-/
import Derived.Test.YtdmcbdogpeidjaaSCu2
import Derived.Test.YtdmcbdogpeidjaaTh3
namespace Go.Proofs.Ytdmcbdogpeidjaa
open Go.RowKit
set_option linter.unusedVariables false
set_option linter.unusedSimpArgs false

set_option maxHeartbeats 1600000 in
theorem lawCu {W : World} (n : Int) (a : Option Addr) (ca : Nat) (l : List Kl) (hl0 : l.length ≤ maxLen) (ha : Kls W a l) (x y z : Int) :
    Calls Try.prog 8 #[.int .i64 n, .slice a l.length ca, ag3 x y z] W fun e w' => e = .returned (.bool true) ∧ Below W.heap.size W w' := by
  have ha' := hide ha
  have hl1 := hide hl0
  clear ha
  obtain ⟨V0, V1, V2, hV⟩ : ∃ V0 V1 V2, cubOf n l (x, y, z) = (V0, V1, V2) := ⟨_, _, _, rfl⟩
  have hV' := hide hV
  clear hV
  go_enter Try.func8, Try.ntmps8
  go_wp2_with fail
  refine (szk_any a l.length ca _ hl0).mono ?_
  rintro e w0 ⟨rr, rfl, hr, hw0⟩
  have hw1 := hw0.symm
  subst hw1
  rcases hr with rfl | ⟨hr0, hl⟩
  · go_wp2
    go_ret
    exact ⟨rfl, (Below.refl _ _).alloc (Nat.le_refl _) _⟩
  have hr1 : decide (rr < 0) = false := by simp; omega
  clear hl0
  go_upto_region 5 with fail
  go_cut [8] from 16 (fun s wx => ∃ g, s = .pointer (some ⟨g, 0, none⟩) ∧ Bx wx g V0 V1 V2 ∧ Th W x y z wx)
  case first =>
    go_region_held3 (fun w' => w'.cell? ⟨W.heap.size, 0, none⟩ = some (.int .i64 x) ∧ w'.cell? ⟨W.heap.size, 1, none⟩ = some (.int .i64 y) ∧ w'.cell? ⟨W.heap.size, 2, none⟩ = some (.int .i64 z) ∧ Below W.heap.size W w')
      (first | (with_reducible refine th_keep ?_ hb; with_reducible assumption) | (with_reducible exact th_drew th_start) | (with_reducible refine th_set3 ?_ (by first | omega | (simp; omega) | simp); with_reducible assumption) | (with_reducible refine th_swap (o := .cells #[.int .i64 0, .int .i64 0, .int .i64 0] 26) ?_ hs; with_reducible assumption) | (with_reducible refine th_allocd ?_; with_reducible assumption) | (with_reducible refine th_alloc ?_; with_reducible assumption))
      (first
        | (go_at_call 31; refine (tok_any a ca l _ hl ((unhide ha').below (th_bel ‹_›))).mono ?_; rintro e w1 ⟨B0, rfl, q0, n0, hb⟩; have hs := th_lt (th_keep ‹_› hb); have oa := hide n0; clear n0 q0; (first | (with_reducible have nb := Bx.below (bx_drew (Bx.new _ 26 0 0 0)) hb; (try simp only [sz_alloc] at nb); have ⟨n1, n2, n3, n4, n5, n6⟩ := nb) | (with_reducible have nb := Bx.below (Bx.new _ 26 0 0 0) hb; have ⟨n1, n2, n3, n4, n5, n6⟩ := nb) | skip))
        | (go_at_call 24; refine (tok1_any _ _ _ _).mono ?_; rintro e w1 ⟨rfl, hb⟩; have hs := th_lt (th_keep ‹_› hb); (first | (with_reducible have ob := hide (ownsRow_below (unhide oa) hb)) | (with_reducible have ob := hide (ownsRow_below (ownsRow_below (unhide oa) ((Below.refl _ _).alloc (Nat.le_refl _) _)) hb))); clear oa; have oa := ob; clear ob; (first | (with_reducible have nb := Bx.below nb hb; have ⟨n1, n2, n3, n4, n5, n6⟩ := nb) | (with_reducible have nb := Bx.below (Bx.new _ 26 0 0 0) hb; have ⟨n1, n2, n3, n4, n5, n6⟩ := nb) | skip))
        | (go_at_call 14; refine (scub_any n (some ⟨B0, 0, none⟩) _ l x y z _ (unhide hl1) ?_).mono ?_; (first | with_reducible exact kls_own (unhide oa) | with_reducible exact kls_own (ownsRow_below (unhide oa) ((Below.refl _ _).alloc (Nat.le_refl _) _))); rintro e w1 ⟨rfl, hb⟩; have hs := th_lt (th_keep ‹_› hb); rw [unhide hV']; (first | (with_reducible have nb := Bx.below nb hb; have ⟨n1, n2, n3, n4, n5, n6⟩ := nb) | (with_reducible have nb := Bx.below (Bx.new _ 26 0 0 0) hb; have ⟨n1, n2, n3, n4, n5, n6⟩ := nb) | skip)))
    all_goals
      have hH : Th W x y z _ := ‹_›
      go_wp2
      go_meet
      first | exact ⟨_, rfl, Bx.new _ 26 V0 V1 V2, hH⟩ | exact ⟨_, rfl, bx_set3 nb, hH⟩
  case rest =>
    obtain ⟨g, h5, hat, hth⟩ := hcut
    subst h5
    obtain ⟨b0, b1, b2, hbel⟩ := hth
    have O1 := hide hat
    have T1 : Hid (Th W x y z wc) := hide ⟨b0, b1, b2, hbel⟩
    clear hat hbel b0 b1 b2
    go_wp2_with fail
    refine (tok_any a ca l _ hl ((unhide ha').below (unhide T1).2.2.2)).mono ?_
    rintro e w1 ⟨B0, rfl, q0, n0, hb⟩
    have ox := hide n0
    have O2 := hide ((unhide O1).below hb)
    have T2 := hide (th_keep (unhide T1) hb)
    have hs2 : Hid (g < w1.heap.size) := hide (unhide O2).lt
    obtain ⟨c0, c1, c2, _⟩ := unhide T2
    clear n0 q0 hb O1 T1
    go_wp2_with fail
    refine (tok1_any x y z _).mono ?_
    rintro e w2 ⟨rfl, hb⟩
    have ox3 := hide (ownsRow_below (unhide ox) hb)
    have O3 := hide ((unhide O2).below hb)
    have T3 := hide (th_keep (unhide T2) hb)
    clear hb O2 T2 c0 c1 c2 ox hs2
    go_wp2_with fail
    refine (icub_any n (some ⟨B0, 0, none⟩) _ l x y z _ (unhide hl1) (kls_own (unhide ox3))).mono ?_
    rintro e w3 ⟨rfl, hb⟩
    rw [unhide hV']
    have ox4 := hide (ownsRow_below (unhide ox3) hb)
    have O4 := hide ((unhide O3).below hb)
    have T4 := hide (th_keep (unhide T3) hb)
    clear hb O3 T3 ox3
    have hal : Hid (Below w3.heap.size w3 (w3.alloc (.cells #[.int .i64 V0, .int .i64 V1, .int .i64 V2] 26))) := hide ((Below.refl _ _).alloc (Nat.le_refl _) _)
    have ox5 := hide (ownsRow_below (unhide ox4) (unhide hal))
    have T5 := hide (th_keep (unhide T4) (unhide hal))
    obtain ⟨d0, d1, d2, _, _, _⟩ := (unhide O4).below (unhide hal)
    have hgl : g < w3.heap.size := (unhide O4).lt
    clear ox4 O4 T4 hal
    go_wp2_with fail
    refine (eqk_any V0 V1 V2 V0 V1 V2 _ rfl).mono ?_
    rintro e w5 ⟨rfl, hb⟩
    have ox6 := hide (ownsRow_below (unhide ox5) hb)
    have T6 := hide (th_keep (unhide T5) hb)
    clear hb ox5 T5 d0 d1 d2
    go_wp2_with fail
    refine (tok_any a ca l _ hl ((unhide ha').below (unhide T6).2.2.2)).mono ?_
    rintro e w7 ⟨B7, rfl, q7, n7, hb⟩
    have ox7 := hide (ownsRow_below (unhide ox6) hb)
    have od := hide n7
    have T7 := hide (th_keep (unhide T6) hb)
    clear hb n7 q7 ox6 T6
    go_wp2_with fail
    refine (eqks_any _ _ _ _ l _ hl (kls_own (unhide ox7)) (kls_own (unhide od))).mono ?_
    rintro e w8 ⟨rfl, hb⟩
    have T8 := hide (th_keep (unhide T7) hb)
    clear hb T7
    go_wp2
    go_ret
    exact ⟨rfl, (unhide T8).2.2.2⟩
end Go.Proofs.Ytdmcbdogpeidjaa
