/-
  For every list of bytes that came in the law of Plain answers true: what is made plain and premultiplied again is the pixel; nothing that was there is written; no conditions.
-/
import Derived.Test.YteabmbggljpmoaaDrY
import Derived.Test.YteabmbggljpmoaaPpP
import Derived.Test.YteabmbggljpmoaaPpl
import Derived.Test.YteabmbggljpmoaaPpk
import Derived.Test.YteabmbggljpmoaaPpm
import Derived.Test.YteabmbggljpmoaaLawFMv
namespace Go.Proofs.Yteabmbggljpmoaa
open Go.RowKit
set_option linter.unusedVariables false
set_option linter.unusedSimpArgs false

theorem dpm2_any {W : World} (a : Option Addr) (len cap : Nat) (hl : len ≤ 4096) (w : World) (hr : RdB w W.heap.size a len) (hW : W.heap.size ≤ w.heap.size) : Calls Try.prog 30 #[.slice a len cap] w fun e w' => ∃ x y z u, e = .returned (ag4 x y z u) ∧ Below w.heap.size w w' :=
  dpm_any a len cap hl (hr.up hW)
theorem ipr2_any (x y z u : Int) (w : World) : Calls Try.prog 29 #[ag4 x y z u] w fun e w' => ∃ t0 t1 t2 t3, e = .returned (ag4 t0 t1 t2 t3) ∧ decide (Pix (t0, t1, t2, t3)) = true ∧ Below w.heap.size w w' := by
  obtain ⟨t0, t1, t2, t3, hT⟩ : ∃ t0 t1 t2 t3, premulOf (x, y, z, u) = (t0, t1, t2, t3) := ⟨_, _, _, _, rfl⟩
  refine (ipr_any x y z u t0 t1 t2 t3 w hT).mono ?_
  rintro e w1 ⟨rfl, hb⟩
  exact ⟨t0, t1, t2, t3, rfl, by rw [← hT]; simpa using premul_pix _, hb⟩
/-- two boxes with pixels, and all that was there -/
def Pq (W : World) (bp bq : Nat) (x y z u q0 q1 q2 q3 : Int) (w' : World) : Prop := w'.cell? ⟨bp, 0, none⟩ = some (.int .i64 x) ∧ w'.cell? ⟨bp, 1, none⟩ = some (.int .i64 y) ∧ w'.cell? ⟨bp, 2, none⟩ = some (.int .i64 z) ∧ w'.cell? ⟨bp, 3, none⟩ = some (.int .i64 u) ∧ w'.cell? ⟨bq, 0, none⟩ = some (.int .i64 q0) ∧ w'.cell? ⟨bq, 1, none⟩ = some (.int .i64 q1) ∧ w'.cell? ⟨bq, 2, none⟩ = some (.int .i64 q2) ∧ w'.cell? ⟨bq, 3, none⟩ = some (.int .i64 q3) ∧ Below W.heap.size W w'
theorem pq_bel {W w' : World} {bp bq : Nat} {x y z u q0 q1 q2 q3 : Int} (h : w'.cell? ⟨bp, 0, none⟩ = some (.int .i64 x) ∧ w'.cell? ⟨bp, 1, none⟩ = some (.int .i64 y) ∧ w'.cell? ⟨bp, 2, none⟩ = some (.int .i64 z) ∧ w'.cell? ⟨bp, 3, none⟩ = some (.int .i64 u) ∧ w'.cell? ⟨bq, 0, none⟩ = some (.int .i64 q0) ∧ w'.cell? ⟨bq, 1, none⟩ = some (.int .i64 q1) ∧ w'.cell? ⟨bq, 2, none⟩ = some (.int .i64 q2) ∧ w'.cell? ⟨bq, 3, none⟩ = some (.int .i64 q3) ∧ Below W.heap.size W w') : Below W.heap.size W w' := h.2.2.2.2.2.2.2.2
set_option maxHeartbeats 6400000 in
theorem lawFPlain {W : World} (a : Option Addr) (len cap : Nat) (hr : RdB W W.heap.size a len) :
    Calls Try.prog 4 #[.slice a len cap] W fun e w' => e = .returned (.bool true) ∧ Below W.heap.size W w' := by
  have hr' := hide hr
  clear hr
  by_cases hbig : 4096 < len
  · have hbd : Hid (decide ((4096 : Int) < len) = true) := hide (by simp; omega)
    go_enter Try.func4, Try.ntmps4
    go_wp2_with fail
    refine (big_any a len cap true _ (unhide hbd)).mono ?_
    rintro e w1 ⟨rfl, rfl⟩
    go_wp2
    go_ret
    exact ⟨rfl, Below.refl _ _⟩
  have hbd : Hid (decide ((4096 : Int) < len) = false) := hide (by simp; omega)
  have hl : len ≤ 4096 := by omega
  clear hbig
  go_enter Try.func4, Try.ntmps4
  go_wp2_with fail
  refine (big_any a len cap false _ (unhide hbd)).mono ?_
  rintro e w9 ⟨rfl, hw0⟩
  have hw1 := hw0.symm
  subst hw1
  go_wp2_with fail
  refine (dpl_any a len cap hl (unhide hr')).mono ?_
  rintro e w1 ⟨x, y, z, u, rfl, hb⟩
  have H1 := hide hb
  clear hb
  have hal : Below w1.heap.size w1 (w1.alloc (.cells #[.int .i64 x, .int .i64 y, .int .i64 z, .int .i64 u] 25)) := (Below.refl _ _).alloc (Nat.le_refl _) _
  have H2 := hide (laterB (unhide H1) hal)
  have P2 : Hid (Bx (w1.alloc (.cells #[.int .i64 x, .int .i64 y, .int .i64 z, .int .i64 u] 25)) w1.heap.size x y z u) := hide (Bx.new _ _ _ _ _ _)
  clear hal H1
  obtain ⟨q0, q1, q2, q3, hQ⟩ : ∃ q0 q1 q2 q3, plainOf (x, y, z, u) = (q0, q1, q2, q3) := ⟨_, _, _, _, rfl⟩
  have hQ' := hide hQ
  clear hQ
  go_wp2_with fail
  refine (ipl_any x y z u q0 q1 q2 q3 _ (unhide hQ')).mono ?_
  rintro e w2 ⟨rfl, hb⟩
  have P3 := hide ((unhide P2).below hb)
  have H3 := hide (laterB (unhide H2) hb)
  clear P2 H2 hb
  have hal : Below w2.heap.size w2 (w2.alloc (.cells #[.int .i64 q0, .int .i64 q1, .int .i64 q2, .int .i64 q3] 25)) := (Below.refl _ _).alloc (Nat.le_refl _) _
  have hbp : w1.heap.size < w2.heap.size := (unhide P3).lt
  have A4 : Hid (Pq W w1.heap.size w2.heap.size x y z u q0 q1 q2 q3 (w2.alloc (.cells #[.int .i64 q0, .int .i64 q1, .int .i64 q2, .int .i64 q3] 25))) := hide (by
    obtain ⟨c0, c1, c2, c3, _, _, _, _⟩ := (unhide P3).below hal
    obtain ⟨d0, d1, d2, d3, _, _, _, _⟩ := Bx.new w2 25 q0 q1 q2 q3
    exact ⟨c0, c1, c2, c3, d0, d1, d2, d3, laterB (unhide H3) hal⟩)
  clear hal P3 H3
  go_upto_region 5 with fail
  generalize w1.heap.size = bp at *
  generalize w2.heap.size = bq at *
  generalize w2.alloc (.cells #[.int .i64 q0, .int .i64 q1, .int .i64 q2, .int .i64 q3] 25) = w3 at *
  have hall : Hid (w3.cell? ⟨bp, 0, none⟩ = some (.int .i64 x) ∧ w3.cell? ⟨bp, 1, none⟩ = some (.int .i64 y) ∧ w3.cell? ⟨bp, 2, none⟩ = some (.int .i64 z) ∧ w3.cell? ⟨bp, 3, none⟩ = some (.int .i64 u) ∧ w3.cell? ⟨bq, 0, none⟩ = some (.int .i64 q0) ∧ w3.cell? ⟨bq, 1, none⟩ = some (.int .i64 q1) ∧ w3.cell? ⟨bq, 2, none⟩ = some (.int .i64 q2) ∧ w3.cell? ⟨bq, 3, none⟩ = some (.int .i64 q3) ∧ Below W.heap.size W w3) := hide (unhide A4)
  clear A4 hbp
  have tq : ∀ v : Int, (v != v) = false := fun v => by simp
  go_cut [14] from 15 (fun s wx => s = .bool false ∧ Hid (Pq W bp bq x y z u q0 q1 q2 q3 wx))
  case first =>
    go_region_held3 (fun w' => w'.cell? ⟨bp, 0, none⟩ = some (.int .i64 x) ∧ w'.cell? ⟨bp, 1, none⟩ = some (.int .i64 y) ∧ w'.cell? ⟨bp, 2, none⟩ = some (.int .i64 z) ∧ w'.cell? ⟨bp, 3, none⟩ = some (.int .i64 u) ∧ w'.cell? ⟨bq, 0, none⟩ = some (.int .i64 q0) ∧ w'.cell? ⟨bq, 1, none⟩ = some (.int .i64 q1) ∧ w'.cell? ⟨bq, 2, none⟩ = some (.int .i64 q2) ∧ w'.cell? ⟨bq, 3, none⟩ = some (.int .i64 q3) ∧ Below W.heap.size W w')
      (first | (with_reducible refine keepN ?_ hb; with_reducible assumption) | (with_reducible exact keepNd (unhide hall)))
      ((go_at_call 28; refine (spl_any x y z u q0 q1 q2 q3 _ (unhide hQ')).mono ?_; rintro e w4 ⟨rfl, hb⟩))
    all_goals
      rename_i hH
      have hH' := hide hH
      clear hH
      go_wp2
      go_meet
      exact ⟨by simp, hide (unhide hH')⟩
  case rest =>
    obtain ⟨h14, A5⟩ := hcut
    subst h14
    clear hall
    obtain ⟨c0, c1, c2, c3, d0, d1, d2, d3, hE⟩ := unhide A5
    clear hE
    by_cases hpix : Pix (x, y, z, u)
    · have hS : Hid (decide (Pix (x, y, z, u)) = true) := hide (by simpa using hpix)
      have hback : Hid (premulOf (q0, q1, q2, q3) = (x, y, z, u)) := hide (by rw [← unhide hQ']; exact premul_plain hpix)
      clear hpix
      go_wp2_with fail
      refine (spx_any x y z u true _ (unhide hS)).mono ?_
      rintro e w5 ⟨rfl, hb⟩
      have hall : Hid (w5.cell? ⟨bp, 0, none⟩ = some (.int .i64 x) ∧ w5.cell? ⟨bp, 1, none⟩ = some (.int .i64 y) ∧ w5.cell? ⟨bp, 2, none⟩ = some (.int .i64 z) ∧ w5.cell? ⟨bp, 3, none⟩ = some (.int .i64 u) ∧ w5.cell? ⟨bq, 0, none⟩ = some (.int .i64 q0) ∧ w5.cell? ⟨bq, 1, none⟩ = some (.int .i64 q1) ∧ w5.cell? ⟨bq, 2, none⟩ = some (.int .i64 q2) ∧ w5.cell? ⟨bq, 3, none⟩ = some (.int .i64 q3) ∧ Below W.heap.size W w5) := hide (by obtain ⟨a0, a1, a2, a3, b0, b1, b2, b3, hE⟩ := unhide A5; exact ⟨cell_later hb a0, cell_later hb a1, cell_later hb a2, cell_later hb a3, cell_later hb b0, cell_later hb b1, cell_later hb b2, cell_later hb b3, laterB hE hb⟩)
      clear hb A5 c0 c1 c2 c3 d0 d1 d2 d3
      go_wp2_with fail
      go_region_held3 (fun w' => w'.cell? ⟨bp, 0, none⟩ = some (.int .i64 x) ∧ w'.cell? ⟨bp, 1, none⟩ = some (.int .i64 y) ∧ w'.cell? ⟨bp, 2, none⟩ = some (.int .i64 z) ∧ w'.cell? ⟨bp, 3, none⟩ = some (.int .i64 u) ∧ w'.cell? ⟨bq, 0, none⟩ = some (.int .i64 q0) ∧ w'.cell? ⟨bq, 1, none⟩ = some (.int .i64 q1) ∧ w'.cell? ⟨bq, 2, none⟩ = some (.int .i64 q2) ∧ w'.cell? ⟨bq, 3, none⟩ = some (.int .i64 q3) ∧ Below W.heap.size W w')
        (first | (with_reducible refine keepN ?_ hb; with_reducible assumption) | (with_reducible exact keepNd (unhide hall)))
        (first
          | (go_at_call 29; refine (ipr2_any s0 s1 s2 s3 _).mono ?_; rintro e w8 ⟨t0, t1, t2, t3, rfl, hpx, hb⟩)
          | (go_at_call 29; refine (ipr_any q0 q1 q2 q3 x y z u _ (unhide hback)).mono ?_; rintro e w6 ⟨rfl, hb⟩)
          | (go_at_call 30; refine (dpm2_any (W := W) a len cap hl _ ((unhide hr').belowB (pq_bel (bp := bp) (bq := bq) (x := x) (y := y) (z := z) (u := u) (q0 := q0) (q1 := q1) (q2 := q2) (q3 := q3) ‹_›) (Nat.le_refl _)) (Below.size (pq_bel (bp := bp) (bq := bq) (x := x) (y := y) (z := z) (u := u) (q0 := q0) (q1 := q1) (q2 := q2) (q3 := q3) ‹_›))).mono ?_; rintro e w7 ⟨s0, s1, s2, s3, rfl, hb⟩)
          | (go_at_call 25; refine (ipx_any t0 t1 t2 t3 true _ hpx).mono ?_; rintro e w9 ⟨rfl, hb⟩))
      all_goals
        rename_i hH
        have hE := hide hH.2.2.2.2.2.2.2.2
        clear hH
        go_wp2
        go_ret
        exact ⟨rfl, unhide hE⟩
    · have hS : Hid (decide (Pix (x, y, z, u)) = false) := hide (by simpa using hpix)
      have hz : q0 = 0 ∧ q1 = 0 ∧ q2 = 0 ∧ q3 = 0 := by have h1 := unhide hQ'; rw [plain_no hpix] at h1; cases h1; exact ⟨rfl, rfl, rfl, rfl⟩
      obtain ⟨rfl, rfl, rfl, rfl⟩ := hz
      clear hpix
      go_wp2_with fail
      refine (spx_any x y z u false _ (unhide hS)).mono ?_
      rintro e w5 ⟨rfl, hb⟩
      obtain ⟨_, _, _, _, b0, b1, b2, b3, hE⟩ := unhide A5
      have e0 := cell_later hb b0
      have e1 := cell_later hb b1
      have e2 := cell_later hb b2
      have e3 := cell_later hb b3
      have hE2 := hide (laterB hE hb)
      clear hb hE b0 b1 b2 b3 c0 c1 c2 c3 d0 d1 d2 d3 A5
      go_wp2
      go_ret
      exact ⟨by simp, unhide hE2⟩

end Go.Proofs.Yteabmbggljpmoaa
