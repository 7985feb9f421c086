/-
  For every two pixels Added of the program answers as its model does; no conditions.
-/
import Derived.Test.YteabmbggljpmoaaPad
import Derived.Test.YteabmbggljpmoaaPae
import Derived.Test.YteabmbggljpmoaaLwX
namespace Go.Proofs.Yteabmbggljpmoaa
open Go.RowKit
set_option linter.unusedVariables false
set_option linter.unusedSimpArgs false

set_option maxHeartbeats 3200000 in
theorem lawAdded {W : World} (r g b a r' g' b' a' : Int) :
    Calls Try.prog 10 #[ag4 r g b a, ag4 r' g' b' a'] W fun e w' => e = .returned (.bool true) ∧ Below W.heap.size W w' := by
  obtain ⟨V0, V1, V2, V3, hV⟩ : ∃ V0 V1 V2 V3, addedOf (r, g, b, a) (r', g', b', a') = (V0, V1, V2, V3) := ⟨_, _, _, _, rfl⟩
  have hV' := hide hV
  clear hV
  go_enter Try.func10, Try.ntmps10
  go_upto_region 1 with fail
  go_cut [5] from 12 (fun s wx => ∃ q, s = .pointer (some ⟨q, 0, none⟩) ∧ Hid (T2x W r g b a r' g' b' a' q V0 V1 V2 V3 wx))
  case first =>
    go_region_held3 (fun w' => w'.cell? ⟨W.heap.size, 0, none⟩ = some (.int .i64 r) ∧ w'.cell? ⟨W.heap.size, 1, none⟩ = some (.int .i64 g) ∧ w'.cell? ⟨W.heap.size, 2, none⟩ = some (.int .i64 b) ∧ w'.cell? ⟨W.heap.size, 3, none⟩ = some (.int .i64 a) ∧ w'.cell? ⟨W.heap.size + 1, 0, none⟩ = some (.int .i64 r') ∧ w'.cell? ⟨W.heap.size + 1, 1, none⟩ = some (.int .i64 g') ∧ w'.cell? ⟨W.heap.size + 1, 2, none⟩ = some (.int .i64 b') ∧ w'.cell? ⟨W.heap.size + 1, 3, none⟩ = some (.int .i64 a') ∧ Below W.heap.size W w')
      (first | (with_reducible refine t2_keep ?_ hb; with_reducible assumption) | (with_reducible exact t2_drew t2_start) | (with_reducible refine t2_set4 ?_ (by first | omega | (simp; omega) | simp); with_reducible assumption) | (with_reducible refine t2_swap (o := .cells #[.int .i64 0, .int .i64 0, .int .i64 0, .int .i64 0] 25) ?_ hs; with_reducible assumption) | (with_reducible refine t2_allocd ?_; with_reducible assumption) | (with_reducible refine t2_alloc ?_; with_reducible assumption))
      (first
        | (go_at_call 34; refine (tok1_any _ _ _ _ _).mono ?_; rintro e w1 ⟨rfl, hb⟩; have hs := t2_lt (t2_keep ‹_› hb); (first | (with_reducible have nb := Bx.below (Bx.drew (Bx.new _ 25 0 0 0 0)) hb; (try simp only [sz_alloc] at nb); have ⟨n1, n2, n3, n4, n5, n6, n7, n8⟩ := nb) | (with_reducible have nb := Bx.below nb hb; have ⟨n1, n2, n3, n4, n5, n6, n7, n8⟩ := nb) | (with_reducible have nb := Bx.below (Bx.new _ 25 0 0 0 0) hb; (try simp only [sz_alloc] at nb); have ⟨n1, n2, n3, n4, n5, n6, n7, n8⟩ := nb) | skip))
        | (go_at_call 23; refine (sad_any r g b a r' g' b' a' V0 V1 V2 V3 _ (unhide hV')).mono ?_; rintro e w1 ⟨rfl, hb⟩; have hs := t2_lt (t2_keep ‹_› hb); (first | (with_reducible have nb := Bx.below (Bx.drew (Bx.new _ 25 0 0 0 0)) hb; (try simp only [sz_alloc] at nb); have ⟨n1, n2, n3, n4, n5, n6, n7, n8⟩ := nb) | (with_reducible have nb := Bx.below nb hb; have ⟨n1, n2, n3, n4, n5, n6, n7, n8⟩ := nb) | (with_reducible have nb := Bx.below (Bx.new _ 25 0 0 0 0) hb; (try simp only [sz_alloc] at nb); have ⟨n1, n2, n3, n4, n5, n6, n7, n8⟩ := nb) | skip)))
    all_goals
      have hH : T2 W r g b a r' g' b' a' _ := ‹_›
      go_wp2
      go_meet
      first | exact ⟨_, rfl, hide (t2x_of hH (Bx.new _ 25 V0 V1 V2 V3))⟩ | exact ⟨_, rfl, hide (t2x_of hH (bx_set4 nb))⟩
  case rest =>
    obtain ⟨q, h5, hth⟩ := hcut
    subst h5
    have hs0 := (t2x_lt (unhide hth)).1
    have hq0 := (t2x_lt (unhide hth)).2
    go_upto_region 2 with fail
    go_cut [6] from 17 (fun s wx => ∃ p, s = .pointer (some ⟨p, 0, none⟩) ∧ p ≠ q ∧ Bx wx p V0 V1 V2 V3 ∧ Bx wx q V0 V1 V2 V3 ∧ Below W.heap.size W wx)
    case first =>
      go_region_held3 (fun w' => w'.cell? ⟨W.heap.size, 0, none⟩ = some (.int .i64 r) ∧ w'.cell? ⟨W.heap.size, 1, none⟩ = some (.int .i64 g) ∧ w'.cell? ⟨W.heap.size, 2, none⟩ = some (.int .i64 b) ∧ w'.cell? ⟨W.heap.size, 3, none⟩ = some (.int .i64 a) ∧ w'.cell? ⟨W.heap.size + 1, 0, none⟩ = some (.int .i64 r') ∧ w'.cell? ⟨W.heap.size + 1, 1, none⟩ = some (.int .i64 g') ∧ w'.cell? ⟨W.heap.size + 1, 2, none⟩ = some (.int .i64 b') ∧ w'.cell? ⟨W.heap.size + 1, 3, none⟩ = some (.int .i64 a') ∧ Below W.heap.size W w' ∧ Bx w' q V0 V1 V2 V3)
        (first | (with_reducible refine t2x_keep ?_ hb; with_reducible assumption) | (with_reducible exact t2x_drew (unhide hth)) | (with_reducible refine t2x_set4 ?_ (by first | omega | (simp; omega) | simp) (by first | omega | (simp; omega)); with_reducible assumption) | (with_reducible refine t2x_swap (o := .cells #[.int .i64 0, .int .i64 0, .int .i64 0, .int .i64 0] 25) ?_ hs hq; with_reducible assumption) | (with_reducible refine t2x_allocd ?_; with_reducible assumption) | (with_reducible refine t2x_alloc ?_; with_reducible assumption))
        (first
          | (go_at_call 34; refine (tok1_any _ _ _ _ _).mono ?_; rintro e w1 ⟨rfl, hb⟩; have hs := (t2x_lt (t2x_keep ‹_› hb)).1; have hq := (t2x_lt (t2x_keep ‹_› hb)).2; (first | (with_reducible have nb := Bx.below (Bx.drew (Bx.new _ 25 0 0 0 0)) hb; (try simp only [sz_alloc] at nb); have ⟨n1, n2, n3, n4, n5, n6, n7, n8⟩ := nb) | (with_reducible have nb := Bx.below nb hb; have ⟨n1, n2, n3, n4, n5, n6, n7, n8⟩ := nb) | (with_reducible have nb := Bx.below (Bx.new _ 25 0 0 0 0) hb; (try simp only [sz_alloc] at nb); have ⟨n1, n2, n3, n4, n5, n6, n7, n8⟩ := nb) | skip))
          | (go_at_call 19; refine (iad_any r g b a r' g' b' a' V0 V1 V2 V3 _ (unhide hV')).mono ?_; rintro e w1 ⟨rfl, hb⟩; have hs := (t2x_lt (t2x_keep ‹_› hb)).1; have hq := (t2x_lt (t2x_keep ‹_› hb)).2; (first | (with_reducible have nb := Bx.below (Bx.drew (Bx.new _ 25 0 0 0 0)) hb; (try simp only [sz_alloc] at nb); have ⟨n1, n2, n3, n4, n5, n6, n7, n8⟩ := nb) | (with_reducible have nb := Bx.below nb hb; have ⟨n1, n2, n3, n4, n5, n6, n7, n8⟩ := nb) | (with_reducible have nb := Bx.below (Bx.new _ 25 0 0 0 0) hb; (try simp only [sz_alloc] at nb); have ⟨n1, n2, n3, n4, n5, n6, n7, n8⟩ := nb) | skip)))
      all_goals
        have hH : T2x W r g b a r' g' b' a' q V0 V1 V2 V3 _ := ‹_›
        have hH1 := hide (t2x_to hH).1
        have hH2 := hide (t2x_to hH).2
        clear hH
        go_wp2
        go_meet
        first | exact ⟨_, rfl, (by first | omega | (simp; omega)), Bx.new _ 25 V0 V1 V2 V3, unhide hH2, (unhide hH1).2.2.2.2.2.2.2.2⟩ | exact ⟨_, rfl, (by first | omega | (simp; omega)), bx_set4 nb, unhide hH2, (unhide hH1).2.2.2.2.2.2.2.2⟩
    case rest =>
      obtain ⟨p, h6, hpq, hp, hq, hbel⟩ := hcut
      subst h6
      obtain ⟨c0, c1, c2, c3, _, _, _, _⟩ := hp
      obtain ⟨d0, d1, d2, d3, _, _, _, _⟩ := hq
      have hbel' := hide hbel
      clear hbel hth hpq
      go_wp2_with fail
      refine (eqk_any V0 V1 V2 V3 _).mono ?_
      rintro e w5 ⟨rfl, hb⟩
      have hE := hide (laterB (unhide hbel') hb)
      clear hb
      go_wp2
      go_ret
      exact ⟨rfl, unhide hE⟩

end Go.Proofs.Yteabmbggljpmoaa
