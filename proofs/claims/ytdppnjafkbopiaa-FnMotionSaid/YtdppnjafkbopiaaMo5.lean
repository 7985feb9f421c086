/-
  Contracts of two pictures of one size and of Motion, the model's and the program's; nothing that was there is written.
-/
import Derived.Test.YtdppnjafkbopiaaSmo
namespace Go.Proofs.Ytdppnjafkbopiaa
open Go.RowKit
set_option linter.unusedVariables false
set_option linter.unusedSimpArgs false

/-- two pictures of one size -/
def TwoOk (W H U V : Int) (l m : List Int) : Prop := PcOk W H l ∧ PcOk U V m ∧ W = U ∧ H = V
theorem bool_of (p : Prop) : ∃ v : Bool, v = true ↔ p := by
  by_cases h : p
  · exact ⟨true, ⟨fun _ => h, fun _ => rfl⟩⟩
  · exact ⟨false, ⟨(fun k => by cases k), fun k => absurd k h⟩⟩
set_option maxHeartbeats 1600000 in
theorem itwo_any (W H U V : Int) (a b : Option Addr) (ca cb : Nat) (l m : List Int) (v : Bool) (w : World) (hl : l.length ≤ maxLen) (hm : m.length ≤ maxLen) (ha : Ins w a l) (hb : Ins w b m) (hv : v = true ↔ TwoOk W H U V l m) :
    Calls Try.prog 12 #[pcv W H a l.length ca, pcv U V b m.length cb] w fun e w' => e = .returned (.bool v) ∧ Below w.heap.size w w' := by
  have ha' := hide ha
  have hb' := hide hb
  have hl1 := hide hl
  have hm1 := hide hm
  have hv' := hide hv
  have no' := hide (show (¬ TwoOk W H U V l m) → v = false from fun h => by cases v with | false => rfl | true => exact absurd ((unhide hv').1 rfl) h)
  have b1 : Below w.heap.size w (w.alloc (.cells #[.int .i64 W, .int .i64 H, .slice a l.length ca] 26)) := (Below.refl _ _).alloc (Nat.le_refl _) _
  have p1 := P3.new w 26 W H (.slice a l.length ca)
  have z1 := Deep.nblk_alloc w (.cells #[.int .i64 W, .int .i64 H, .slice a l.length ca] 26)
  clear ha hb hl hm hv
  by_cases hA : PcOk W H l
  rotate_left
  · have hz := hide (unhide no' (fun h => hA h.1))
    have hA' := hide hA
    clear hA
    go_enter Try.func12, Try.ntmps12
    go_wp2_with fail
    generalize w.alloc (.cells #[.int .i64 W, .int .i64 H, .slice a l.length ca] 26) = w1 at *
    have b2 := laterB b1 ((Below.refl w1.heap.size w1).alloc (Nat.le_refl _) (.cells #[.int .i64 U, .int .i64 V, .slice b m.length cb] 26))
    have p2 := p1.later ((Below.refl w1.heap.size w1).alloc (Nat.le_refl _) (.cells #[.int .i64 U, .int .i64 V, .slice b m.length cb] 26))
    have q2 := P3.new w1 26 U V (.slice b m.length cb)
    rw [z1] at q2
    generalize w1.alloc (.cells #[.int .i64 U, .int .i64 V, .slice b m.length cb] 26) = w2 at *
    have P := hide p2
    have Q := hide q2
    have Bw := hide b2
    clear b1 p1 z1 b2 p2 q2 w1
    refine (ipic_any W H a ca l false _ (unhide hl1) ((unhide ha').below (unhide Bw)) ⟨(fun k => by cases k), fun k => absurd k (unhide hA')⟩).mono ?_
    rintro e w3 ⟨rfl, k3⟩
    have P := hide ((unhide P).later k3)
    have Q := hide ((unhide Q).later k3)
    have Bw := hide (laterB (unhide Bw) k3)
    clear k3
    go_wp2
    go_ret
    exact ⟨ret_bool (unhide hz).symm, unhide Bw⟩
  have hA' := hide hA
  by_cases hB : PcOk U V m
  rotate_left
  · have hz := hide (unhide no' (fun h => hB h.2.1))
    have hB' := hide hB
    clear hA hB
    go_enter Try.func12, Try.ntmps12
    go_wp2_with fail
    generalize w.alloc (.cells #[.int .i64 W, .int .i64 H, .slice a l.length ca] 26) = w1 at *
    have b2 := laterB b1 ((Below.refl w1.heap.size w1).alloc (Nat.le_refl _) (.cells #[.int .i64 U, .int .i64 V, .slice b m.length cb] 26))
    have p2 := p1.later ((Below.refl w1.heap.size w1).alloc (Nat.le_refl _) (.cells #[.int .i64 U, .int .i64 V, .slice b m.length cb] 26))
    have q2 := P3.new w1 26 U V (.slice b m.length cb)
    rw [z1] at q2
    generalize w1.alloc (.cells #[.int .i64 U, .int .i64 V, .slice b m.length cb] 26) = w2 at *
    have P := hide p2
    have Q := hide q2
    have Bw := hide b2
    clear b1 p1 z1 b2 p2 q2 w1
    refine (ipic_any W H a ca l true _ (unhide hl1) ((unhide ha').below (unhide Bw)) ⟨fun _ => unhide hA', fun _ => rfl⟩).mono ?_
    rintro e w3 ⟨rfl, k3⟩
    have P := hide ((unhide P).later k3)
    have Q := hide ((unhide Q).later k3)
    have Bw := hide (laterB (unhide Bw) k3)
    clear k3
    obtain ⟨c0, c1, c2⟩ := (unhide P).cells
    obtain ⟨d0, d1, d2⟩ := (unhide Q).cells
    go_wp2_with fail
    refine (ipic_any U V b cb m false _ (unhide hm1) ((unhide hb').below (unhide Bw)) ⟨(fun k => by cases k), fun k => absurd k (unhide hB')⟩).mono ?_
    rintro e w4 ⟨rfl, k4⟩
    have P := hide ((unhide P).later k4)
    have Q := hide ((unhide Q).later k4)
    have Bw := hide (laterB (unhide Bw) k4)
    clear k4 c0 c1 c2 d0 d1 d2
    obtain ⟨c0, c1, c2⟩ := (unhide P).cells
    obtain ⟨d0, d1, d2⟩ := (unhide Q).cells
    go_wp2
    go_ret
    exact ⟨ret_bool (unhide hz).symm, unhide Bw⟩
  have hB' := hide hB
  by_cases hC : W = U
  rotate_left
  · have hz := hide (unhide no' (fun h => hC h.2.2.1))
    have hC2 : (W == U) = false := by simpa using hC
    clear hA hB hC
    go_enter Try.func12, Try.ntmps12
    go_wp2_with fail
    generalize w.alloc (.cells #[.int .i64 W, .int .i64 H, .slice a l.length ca] 26) = w1 at *
    have b2 := laterB b1 ((Below.refl w1.heap.size w1).alloc (Nat.le_refl _) (.cells #[.int .i64 U, .int .i64 V, .slice b m.length cb] 26))
    have p2 := p1.later ((Below.refl w1.heap.size w1).alloc (Nat.le_refl _) (.cells #[.int .i64 U, .int .i64 V, .slice b m.length cb] 26))
    have q2 := P3.new w1 26 U V (.slice b m.length cb)
    rw [z1] at q2
    generalize w1.alloc (.cells #[.int .i64 U, .int .i64 V, .slice b m.length cb] 26) = w2 at *
    have P := hide p2
    have Q := hide q2
    have Bw := hide b2
    clear b1 p1 z1 b2 p2 q2 w1
    refine (ipic_any W H a ca l true _ (unhide hl1) ((unhide ha').below (unhide Bw)) ⟨fun _ => unhide hA', fun _ => rfl⟩).mono ?_
    rintro e w3 ⟨rfl, k3⟩
    have P := hide ((unhide P).later k3)
    have Q := hide ((unhide Q).later k3)
    have Bw := hide (laterB (unhide Bw) k3)
    clear k3
    obtain ⟨c0, c1, c2⟩ := (unhide P).cells
    obtain ⟨d0, d1, d2⟩ := (unhide Q).cells
    go_wp2_with fail
    refine (ipic_any U V b cb m true _ (unhide hm1) ((unhide hb').below (unhide Bw)) ⟨fun _ => unhide hB', fun _ => rfl⟩).mono ?_
    rintro e w4 ⟨rfl, k4⟩
    have P := hide ((unhide P).later k4)
    have Q := hide ((unhide Q).later k4)
    have Bw := hide (laterB (unhide Bw) k4)
    clear k4 c0 c1 c2 d0 d1 d2
    obtain ⟨c0, c1, c2⟩ := (unhide P).cells
    obtain ⟨d0, d1, d2⟩ := (unhide Q).cells
    go_wp2
    go_ret
    exact ⟨ret_bool (unhide hz).symm, unhide Bw⟩
  have hC2 : (W == U) = true := by simpa using hC
  have hD : (H == V) = v := by
    rw [Bool.eq_iff_iff, unhide hv']
    simp only [beq_iff_eq]
    exact ⟨fun h => ⟨hA, hB, hC, h⟩, fun h => h.2.2.2⟩
  clear hA hB hC
  go_enter Try.func12, Try.ntmps12
  go_wp2_with fail
  generalize w.alloc (.cells #[.int .i64 W, .int .i64 H, .slice a l.length ca] 26) = w1 at *
  have b2 := laterB b1 ((Below.refl w1.heap.size w1).alloc (Nat.le_refl _) (.cells #[.int .i64 U, .int .i64 V, .slice b m.length cb] 26))
  have p2 := p1.later ((Below.refl w1.heap.size w1).alloc (Nat.le_refl _) (.cells #[.int .i64 U, .int .i64 V, .slice b m.length cb] 26))
  have q2 := P3.new w1 26 U V (.slice b m.length cb)
  rw [z1] at q2
  generalize w1.alloc (.cells #[.int .i64 U, .int .i64 V, .slice b m.length cb] 26) = w2 at *
  have P := hide p2
  have Q := hide q2
  have Bw := hide b2
  clear b1 p1 z1 b2 p2 q2 w1
  refine (ipic_any W H a ca l true _ (unhide hl1) ((unhide ha').below (unhide Bw)) ⟨fun _ => unhide hA', fun _ => rfl⟩).mono ?_
  rintro e w3 ⟨rfl, k3⟩
  have P := hide ((unhide P).later k3)
  have Q := hide ((unhide Q).later k3)
  have Bw := hide (laterB (unhide Bw) k3)
  clear k3
  obtain ⟨c0, c1, c2⟩ := (unhide P).cells
  obtain ⟨d0, d1, d2⟩ := (unhide Q).cells
  go_wp2_with fail
  refine (ipic_any U V b cb m true _ (unhide hm1) ((unhide hb').below (unhide Bw)) ⟨fun _ => unhide hB', fun _ => rfl⟩).mono ?_
  rintro e w4 ⟨rfl, k4⟩
  have P := hide ((unhide P).later k4)
  have Q := hide ((unhide Q).later k4)
  have Bw := hide (laterB (unhide Bw) k4)
  clear k4 c0 c1 c2 d0 d1 d2
  obtain ⟨c0, c1, c2⟩ := (unhide P).cells
  obtain ⟨d0, d1, d2⟩ := (unhide Q).cells
  go_wp2
  go_ret
  exact ⟨by first | rfl | exact ret_bool hD, unhide Bw⟩
set_option maxHeartbeats 1600000 in
theorem stwo_any (W H U V : Int) (a b : Option Addr) (ca cb : Nat) (l m : List Int) (v : Bool) (w : World) (hl : l.length ≤ maxLen) (hm : m.length ≤ maxLen) (ha : Ins w a l) (hb : Ins w b m) (hv : v = true ↔ TwoOk W H U V l m) :
    Calls Try.prog 16 #[pcv W H a l.length ca, pcv U V b m.length cb] w fun e w' => e = .returned (.bool v) ∧ Below w.heap.size w w' := by
  have ha' := hide ha
  have hb' := hide hb
  have hl1 := hide hl
  have hm1 := hide hm
  have hv' := hide hv
  have no' := hide (show (¬ TwoOk W H U V l m) → v = false from fun h => by cases v with | false => rfl | true => exact absurd ((unhide hv').1 rfl) h)
  have b1 : Below w.heap.size w (w.alloc (.cells #[.int .i64 W, .int .i64 H, .slice a l.length ca] 26)) := (Below.refl _ _).alloc (Nat.le_refl _) _
  have p1 := P3.new w 26 W H (.slice a l.length ca)
  have z1 := Deep.nblk_alloc w (.cells #[.int .i64 W, .int .i64 H, .slice a l.length ca] 26)
  clear ha hb hl hm hv
  by_cases hA : PcOk W H l
  rotate_left
  · have hz := hide (unhide no' (fun h => hA h.1))
    have hA' := hide hA
    clear hA
    go_enter Try.func16, Try.ntmps16
    go_wp2_with fail
    generalize w.alloc (.cells #[.int .i64 W, .int .i64 H, .slice a l.length ca] 26) = w1 at *
    have b2 := laterB b1 ((Below.refl w1.heap.size w1).alloc (Nat.le_refl _) (.cells #[.int .i64 U, .int .i64 V, .slice b m.length cb] 26))
    have p2 := p1.later ((Below.refl w1.heap.size w1).alloc (Nat.le_refl _) (.cells #[.int .i64 U, .int .i64 V, .slice b m.length cb] 26))
    have q2 := P3.new w1 26 U V (.slice b m.length cb)
    rw [z1] at q2
    generalize w1.alloc (.cells #[.int .i64 U, .int .i64 V, .slice b m.length cb] 26) = w2 at *
    have P := hide p2
    have Q := hide q2
    have Bw := hide b2
    clear b1 p1 z1 b2 p2 q2 w1
    refine (spic_any W H a ca l false _ (unhide hl1) ((unhide ha').below (unhide Bw)) ⟨(fun k => by cases k), fun k => absurd k (unhide hA')⟩).mono ?_
    rintro e w3 ⟨rfl, k3⟩
    have P := hide ((unhide P).later k3)
    have Q := hide ((unhide Q).later k3)
    have Bw := hide (laterB (unhide Bw) k3)
    clear k3
    go_wp2
    go_ret
    exact ⟨ret_bool (unhide hz).symm, unhide Bw⟩
  have hA' := hide hA
  by_cases hB : PcOk U V m
  rotate_left
  · have hz := hide (unhide no' (fun h => hB h.2.1))
    have hB' := hide hB
    clear hA hB
    go_enter Try.func16, Try.ntmps16
    go_wp2_with fail
    generalize w.alloc (.cells #[.int .i64 W, .int .i64 H, .slice a l.length ca] 26) = w1 at *
    have b2 := laterB b1 ((Below.refl w1.heap.size w1).alloc (Nat.le_refl _) (.cells #[.int .i64 U, .int .i64 V, .slice b m.length cb] 26))
    have p2 := p1.later ((Below.refl w1.heap.size w1).alloc (Nat.le_refl _) (.cells #[.int .i64 U, .int .i64 V, .slice b m.length cb] 26))
    have q2 := P3.new w1 26 U V (.slice b m.length cb)
    rw [z1] at q2
    generalize w1.alloc (.cells #[.int .i64 U, .int .i64 V, .slice b m.length cb] 26) = w2 at *
    have P := hide p2
    have Q := hide q2
    have Bw := hide b2
    clear b1 p1 z1 b2 p2 q2 w1
    refine (spic_any W H a ca l true _ (unhide hl1) ((unhide ha').below (unhide Bw)) ⟨fun _ => unhide hA', fun _ => rfl⟩).mono ?_
    rintro e w3 ⟨rfl, k3⟩
    have P := hide ((unhide P).later k3)
    have Q := hide ((unhide Q).later k3)
    have Bw := hide (laterB (unhide Bw) k3)
    clear k3
    obtain ⟨c0, c1, c2⟩ := (unhide P).cells
    obtain ⟨d0, d1, d2⟩ := (unhide Q).cells
    go_wp2_with fail
    refine (spic_any U V b cb m false _ (unhide hm1) ((unhide hb').below (unhide Bw)) ⟨(fun k => by cases k), fun k => absurd k (unhide hB')⟩).mono ?_
    rintro e w4 ⟨rfl, k4⟩
    have P := hide ((unhide P).later k4)
    have Q := hide ((unhide Q).later k4)
    have Bw := hide (laterB (unhide Bw) k4)
    clear k4 c0 c1 c2 d0 d1 d2
    obtain ⟨c0, c1, c2⟩ := (unhide P).cells
    obtain ⟨d0, d1, d2⟩ := (unhide Q).cells
    go_wp2
    go_ret
    exact ⟨ret_bool (unhide hz).symm, unhide Bw⟩
  have hB' := hide hB
  by_cases hC : W = U
  rotate_left
  · have hz := hide (unhide no' (fun h => hC h.2.2.1))
    have hC2 : (W == U) = false := by simpa using hC
    clear hA hB hC
    go_enter Try.func16, Try.ntmps16
    go_wp2_with fail
    generalize w.alloc (.cells #[.int .i64 W, .int .i64 H, .slice a l.length ca] 26) = w1 at *
    have b2 := laterB b1 ((Below.refl w1.heap.size w1).alloc (Nat.le_refl _) (.cells #[.int .i64 U, .int .i64 V, .slice b m.length cb] 26))
    have p2 := p1.later ((Below.refl w1.heap.size w1).alloc (Nat.le_refl _) (.cells #[.int .i64 U, .int .i64 V, .slice b m.length cb] 26))
    have q2 := P3.new w1 26 U V (.slice b m.length cb)
    rw [z1] at q2
    generalize w1.alloc (.cells #[.int .i64 U, .int .i64 V, .slice b m.length cb] 26) = w2 at *
    have P := hide p2
    have Q := hide q2
    have Bw := hide b2
    clear b1 p1 z1 b2 p2 q2 w1
    refine (spic_any W H a ca l true _ (unhide hl1) ((unhide ha').below (unhide Bw)) ⟨fun _ => unhide hA', fun _ => rfl⟩).mono ?_
    rintro e w3 ⟨rfl, k3⟩
    have P := hide ((unhide P).later k3)
    have Q := hide ((unhide Q).later k3)
    have Bw := hide (laterB (unhide Bw) k3)
    clear k3
    obtain ⟨c0, c1, c2⟩ := (unhide P).cells
    obtain ⟨d0, d1, d2⟩ := (unhide Q).cells
    go_wp2_with fail
    refine (spic_any U V b cb m true _ (unhide hm1) ((unhide hb').below (unhide Bw)) ⟨fun _ => unhide hB', fun _ => rfl⟩).mono ?_
    rintro e w4 ⟨rfl, k4⟩
    have P := hide ((unhide P).later k4)
    have Q := hide ((unhide Q).later k4)
    have Bw := hide (laterB (unhide Bw) k4)
    clear k4 c0 c1 c2 d0 d1 d2
    obtain ⟨c0, c1, c2⟩ := (unhide P).cells
    obtain ⟨d0, d1, d2⟩ := (unhide Q).cells
    go_wp2
    go_ret
    exact ⟨ret_bool (unhide hz).symm, unhide Bw⟩
  have hC2 : (W == U) = true := by simpa using hC
  have hD : (H == V) = v := by
    rw [Bool.eq_iff_iff, unhide hv']
    simp only [beq_iff_eq]
    exact ⟨fun h => ⟨hA, hB, hC, h⟩, fun h => h.2.2.2⟩
  clear hA hB hC
  go_enter Try.func16, Try.ntmps16
  go_wp2_with fail
  generalize w.alloc (.cells #[.int .i64 W, .int .i64 H, .slice a l.length ca] 26) = w1 at *
  have b2 := laterB b1 ((Below.refl w1.heap.size w1).alloc (Nat.le_refl _) (.cells #[.int .i64 U, .int .i64 V, .slice b m.length cb] 26))
  have p2 := p1.later ((Below.refl w1.heap.size w1).alloc (Nat.le_refl _) (.cells #[.int .i64 U, .int .i64 V, .slice b m.length cb] 26))
  have q2 := P3.new w1 26 U V (.slice b m.length cb)
  rw [z1] at q2
  generalize w1.alloc (.cells #[.int .i64 U, .int .i64 V, .slice b m.length cb] 26) = w2 at *
  have P := hide p2
  have Q := hide q2
  have Bw := hide b2
  clear b1 p1 z1 b2 p2 q2 w1
  refine (spic_any W H a ca l true _ (unhide hl1) ((unhide ha').below (unhide Bw)) ⟨fun _ => unhide hA', fun _ => rfl⟩).mono ?_
  rintro e w3 ⟨rfl, k3⟩
  have P := hide ((unhide P).later k3)
  have Q := hide ((unhide Q).later k3)
  have Bw := hide (laterB (unhide Bw) k3)
  clear k3
  obtain ⟨c0, c1, c2⟩ := (unhide P).cells
  obtain ⟨d0, d1, d2⟩ := (unhide Q).cells
  go_wp2_with fail
  refine (spic_any U V b cb m true _ (unhide hm1) ((unhide hb').below (unhide Bw)) ⟨fun _ => unhide hB', fun _ => rfl⟩).mono ?_
  rintro e w4 ⟨rfl, k4⟩
  have P := hide ((unhide P).later k4)
  have Q := hide ((unhide Q).later k4)
  have Bw := hide (laterB (unhide Bw) k4)
  clear k4 c0 c1 c2 d0 d1 d2
  obtain ⟨c0, c1, c2⟩ := (unhide P).cells
  obtain ⟨d0, d1, d2⟩ := (unhide Q).cells
  go_wp2
  go_ret
  exact ⟨by first | rfl | exact ret_bool hD, unhide Bw⟩
/-- what Motion answers -/
def MoAns (W H U V : Int) (l m : List Int) (n p q : Int) : Prop :=
  ((TwoOk W H U V l m ∧ 0 ≤ n ∧ n < nBl W H) → Best (mdif W H l m n) p q) ∧ (¬ (TwoOk W H U V l m ∧ 0 ≤ n ∧ n < nBl W H) → p = 0 ∧ q = 0)
theorem MoAns.no {W H U V : Int} {l m : List Int} {n : Int} (h : ¬ (TwoOk W H U V l m ∧ 0 ≤ n ∧ n < nBl W H)) : MoAns W H U V l m n 0 0 := ⟨fun k => absurd k h, fun _ => ⟨rfl, rfl⟩⟩
theorem MoAns.yes {W H U V : Int} {l m : List Int} {n p q : Int} (h : TwoOk W H U V l m ∧ 0 ≤ n ∧ n < nBl W H) (hb : Best (mdif W H l m n) p q) : MoAns W H U V l m n p q := ⟨fun _ => hb, fun k => absurd h k⟩
theorem MoAns.uniq {W H U V : Int} {l m : List Int} {n p q r s : Int} (h : MoAns W H U V l m n p q) (g : MoAns W H U V l m n r s) : p = r ∧ q = s := by
  by_cases c : TwoOk W H U V l m ∧ 0 ≤ n ∧ n < nBl W H
  · exact (h.1 c).uniq (g.1 c)
  · obtain ⟨h1, h2⟩ := h.2 c
    obtain ⟨g1, g2⟩ := g.2 c
    exact ⟨h1.trans g1.symm, h2.trans g2.symm⟩
set_option maxHeartbeats 3200000 in
theorem smotion_any (W H U V : Int) (a b : Option Addr) (ca cb : Nat) (l m : List Int) (n : Int) (w : World) (hl : l.length ≤ maxLen) (hm : m.length ≤ maxLen) (ha : Ins w a l) (hb : Ins w b m) :
    Calls Try.prog 7 #[pcv W H a l.length ca, pcv U V b m.length cb, .int .i64 n] w fun e w' => ∃ p q, e = .returned (.tuple #[.int .i64 p, .int .i64 q]) ∧ MoAns W H U V l m n p q ∧ Below w.heap.size w w' := by
  have ha' := hide ha
  have hb' := hide hb
  have hl1 := hide hl
  have hm1 := hide hm
  have b1 : Below w.heap.size w (w.alloc (.cells #[.int .i64 W, .int .i64 H, .slice a l.length ca] 26)) := (Below.refl _ _).alloc (Nat.le_refl _) _
  have p1 := P3.new w 26 W H (.slice a l.length ca)
  have z1 := Deep.nblk_alloc w (.cells #[.int .i64 W, .int .i64 H, .slice a l.length ca] 26)
  clear ha hb hl hm
  by_cases hT : TwoOk W H U V l m
  rotate_left
  · have hT' := hide hT
    have hz := hide (MoAns.no (n := n) (fun h => hT h.1))
    clear hT
    go_enter Try.func7, Try.ntmps7
    go_wp2_with fail
    generalize w.alloc (.cells #[.int .i64 W, .int .i64 H, .slice a l.length ca] 26) = w1 at *
    have b2 := laterB b1 ((Below.refl w1.heap.size w1).alloc (Nat.le_refl _) (.cells #[.int .i64 U, .int .i64 V, .slice b m.length cb] 26))
    have p2 := p1.later ((Below.refl w1.heap.size w1).alloc (Nat.le_refl _) (.cells #[.int .i64 U, .int .i64 V, .slice b m.length cb] 26))
    have q2 := P3.new w1 26 U V (.slice b m.length cb)
    rw [z1] at q2
    generalize w1.alloc (.cells #[.int .i64 U, .int .i64 V, .slice b m.length cb] 26) = w2 at *
    have P := hide p2
    have Q := hide q2
    have Bw := hide b2
    clear b1 p1 z1 b2 p2 q2 w1
    refine (stwo_any W H U V a b ca cb l m false _ (unhide hl1) (unhide hm1) ((unhide ha').below (unhide Bw)) ((unhide hb').below (unhide Bw)) ⟨(fun k => by cases k), fun k => absurd k (unhide hT')⟩).mono ?_
    rintro e w3 ⟨rfl, k3⟩
    have P := hide ((unhide P).later k3)
    have Q := hide ((unhide Q).later k3)
    have Bw := hide (laterB (unhide Bw) k3)
    clear k3
    obtain ⟨c0, c1, c2⟩ := (unhide P).cells
    obtain ⟨d0, d1, d2⟩ := (unhide Q).cells
    go_wp2
    go_ret2
    exact ⟨0, 0, rfl, unhide hz, unhide Bw⟩
  have hT' := hide hT
  by_cases hn0 : n < 0
  · have hz := hide (MoAns.no (W := W) (H := H) (U := U) (V := V) (l := l) (m := m) (n := n) (fun h => by omega))
    have hd1 : decide (n < 0) = true := decide_eq_true hn0
    clear hT
    go_enter Try.func7, Try.ntmps7
    go_wp2_with fail
    generalize w.alloc (.cells #[.int .i64 W, .int .i64 H, .slice a l.length ca] 26) = w1 at *
    have b2 := laterB b1 ((Below.refl w1.heap.size w1).alloc (Nat.le_refl _) (.cells #[.int .i64 U, .int .i64 V, .slice b m.length cb] 26))
    have p2 := p1.later ((Below.refl w1.heap.size w1).alloc (Nat.le_refl _) (.cells #[.int .i64 U, .int .i64 V, .slice b m.length cb] 26))
    have q2 := P3.new w1 26 U V (.slice b m.length cb)
    rw [z1] at q2
    generalize w1.alloc (.cells #[.int .i64 U, .int .i64 V, .slice b m.length cb] 26) = w2 at *
    have P := hide p2
    have Q := hide q2
    have Bw := hide b2
    clear b1 p1 z1 b2 p2 q2 w1
    refine (stwo_any W H U V a b ca cb l m true _ (unhide hl1) (unhide hm1) ((unhide ha').below (unhide Bw)) ((unhide hb').below (unhide Bw)) ⟨fun _ => unhide hT', fun _ => rfl⟩).mono ?_
    rintro e w3 ⟨rfl, k3⟩
    have P := hide ((unhide P).later k3)
    have Q := hide ((unhide Q).later k3)
    have Bw := hide (laterB (unhide Bw) k3)
    clear k3
    obtain ⟨c0, c1, c2⟩ := (unhide P).cells
    obtain ⟨d0, d1, d2⟩ := (unhide Q).cells
    go_wp2
    go_ret2
    exact ⟨0, 0, rfl, unhide hz, unhide Bw⟩
  have hd1 : decide (n < 0) = false := decide_eq_false hn0
  by_cases hn1 : nBl U V ≤ n
  · have hz := hide (MoAns.no (W := W) (H := H) (U := U) (V := V) (l := l) (m := m) (n := n) (fun h => by have := h.2.2; rw [hT.2.2.1, hT.2.2.2] at this; omega))
    have hd2 : decide (nBl U V ≤ n) = true := decide_eq_true hn1
    clear hT
    go_enter Try.func7, Try.ntmps7
    go_wp2_with fail
    generalize w.alloc (.cells #[.int .i64 W, .int .i64 H, .slice a l.length ca] 26) = w1 at *
    have b2 := laterB b1 ((Below.refl w1.heap.size w1).alloc (Nat.le_refl _) (.cells #[.int .i64 U, .int .i64 V, .slice b m.length cb] 26))
    have p2 := p1.later ((Below.refl w1.heap.size w1).alloc (Nat.le_refl _) (.cells #[.int .i64 U, .int .i64 V, .slice b m.length cb] 26))
    have q2 := P3.new w1 26 U V (.slice b m.length cb)
    rw [z1] at q2
    generalize w1.alloc (.cells #[.int .i64 U, .int .i64 V, .slice b m.length cb] 26) = w2 at *
    have P := hide p2
    have Q := hide q2
    have Bw := hide b2
    clear b1 p1 z1 b2 p2 q2 w1
    refine (stwo_any W H U V a b ca cb l m true _ (unhide hl1) (unhide hm1) ((unhide ha').below (unhide Bw)) ((unhide hb').below (unhide Bw)) ⟨fun _ => unhide hT', fun _ => rfl⟩).mono ?_
    rintro e w3 ⟨rfl, k3⟩
    have P := hide ((unhide P).later k3)
    have Q := hide ((unhide Q).later k3)
    have Bw := hide (laterB (unhide Bw) k3)
    clear k3
    obtain ⟨c0, c1, c2⟩ := (unhide P).cells
    obtain ⟨d0, d1, d2⟩ := (unhide Q).cells
    go_wp2_with fail
    refine (sblocks_any U V b m.length cb _ (unhide hT').2.1.1 (unhide hT').2.1.2.1).mono ?_
    rintro e w4 ⟨rfl, k4⟩
    have P := hide ((unhide P).later k4)
    have Q := hide ((unhide Q).later k4)
    have Bw := hide (laterB (unhide Bw) k4)
    clear k4 c0 c1 c2 d0 d1 d2
    obtain ⟨c0, c1, c2⟩ := (unhide P).cells
    obtain ⟨d0, d1, d2⟩ := (unhide Q).cells
    go_wp2
    go_ret2
    exact ⟨0, 0, rfl, unhide hz, unhide Bw⟩
  have hd2 : decide (nBl U V ≤ n) = false := decide_eq_false hn1
  have hyes := hide (show ∀ p q, Best (mdif W H l m n) p q → MoAns W H U V l m n p q from fun p q h => MoAns.yes ⟨hT, by first | omega | exact hnn.1, by rw [hT.2.2.1, hT.2.2.2]; first | omega | exact hnn.2⟩ h)
  have cm := hide (show ∀ w', Below w.heap.size w w' → Calls Try.prog 18 #[pcv W H a l.length ca, pcv U V b m.length cb, .int .i64 n] w' (fun e w'' => ∃ p q, e = .returned (.tuple #[.int .i64 p, .int .i64 q]) ∧ Best (mdif W H l m n) p q ∧ Below w'.heap.size w' w'') from fun w' h => by
    have h1 := hT.2.2.1
    have h2 := hT.2.2.2
    subst h1 h2
    exact smo_any W H a b ca cb l m n w' hT.1 hT.2.1 ((unhide ha').below h) ((unhide hb').below h) (by first | omega | exact hnn.1) (by first | omega | exact hnn.2))
  clear hT
  go_enter Try.func7, Try.ntmps7
  go_wp2_with fail
  generalize w.alloc (.cells #[.int .i64 W, .int .i64 H, .slice a l.length ca] 26) = w1 at *
  have b2 := laterB b1 ((Below.refl w1.heap.size w1).alloc (Nat.le_refl _) (.cells #[.int .i64 U, .int .i64 V, .slice b m.length cb] 26))
  have p2 := p1.later ((Below.refl w1.heap.size w1).alloc (Nat.le_refl _) (.cells #[.int .i64 U, .int .i64 V, .slice b m.length cb] 26))
  have q2 := P3.new w1 26 U V (.slice b m.length cb)
  rw [z1] at q2
  generalize w1.alloc (.cells #[.int .i64 U, .int .i64 V, .slice b m.length cb] 26) = w2 at *
  have P := hide p2
  have Q := hide q2
  have Bw := hide b2
  clear b1 p1 z1 b2 p2 q2 w1
  refine (stwo_any W H U V a b ca cb l m true _ (unhide hl1) (unhide hm1) ((unhide ha').below (unhide Bw)) ((unhide hb').below (unhide Bw)) ⟨fun _ => unhide hT', fun _ => rfl⟩).mono ?_
  rintro e w3 ⟨rfl, k3⟩
  have P := hide ((unhide P).later k3)
  have Q := hide ((unhide Q).later k3)
  have Bw := hide (laterB (unhide Bw) k3)
  clear k3
  obtain ⟨c0, c1, c2⟩ := (unhide P).cells
  obtain ⟨d0, d1, d2⟩ := (unhide Q).cells
  go_wp2_with fail
  refine (sblocks_any U V b m.length cb _ (unhide hT').2.1.1 (unhide hT').2.1.2.1).mono ?_
  rintro e w4 ⟨rfl, k4⟩
  have P := hide ((unhide P).later k4)
  have Q := hide ((unhide Q).later k4)
  have Bw := hide (laterB (unhide Bw) k4)
  clear k4 c0 c1 c2 d0 d1 d2
  obtain ⟨c0, c1, c2⟩ := (unhide P).cells
  obtain ⟨d0, d1, d2⟩ := (unhide Q).cells
  go_wp2_with fail
  refine (unhide cm _ (unhide Bw)).mono ?_
  rintro e w6 ⟨p, q, rfl, hbest, k6⟩
  have hA := hide (unhide hyes p q hbest)
  have Bw := hide (laterB (unhide Bw) k6)
  clear k6 hbest c0 c1 c2 d0 d1 d2
  go_wp2
  go_ret2
  exact ⟨p, q, rfl, unhide hA, unhide Bw⟩
set_option maxHeartbeats 3200000 in
theorem imotion_any (W H U V : Int) (a b : Option Addr) (ca cb : Nat) (l m : List Int) (n : Int) (w : World) (hl : l.length ≤ maxLen) (hm : m.length ≤ maxLen) (ha : Ins w a l) (hb : Ins w b m) :
    Calls Try.prog 6 #[pcv W H a l.length ca, pcv U V b m.length cb, .int .i64 n] w fun e w' => ∃ p q, e = .returned (.tuple #[.int .i64 p, .int .i64 q]) ∧ MoAns W H U V l m n p q ∧ Below w.heap.size w w' := by
  have ha' := hide ha
  have hb' := hide hb
  have hl1 := hide hl
  have hm1 := hide hm
  have b1 : Below w.heap.size w (w.alloc (.cells #[.int .i64 W, .int .i64 H, .slice a l.length ca] 26)) := (Below.refl _ _).alloc (Nat.le_refl _) _
  have p1 := P3.new w 26 W H (.slice a l.length ca)
  have z1 := Deep.nblk_alloc w (.cells #[.int .i64 W, .int .i64 H, .slice a l.length ca] 26)
  clear ha hb hl hm
  by_cases hT : TwoOk W H U V l m
  rotate_left
  · have hT' := hide hT
    have hz := hide (MoAns.no (n := n) (fun h => hT h.1))
    clear hT
    go_enter Try.func6, Try.ntmps6
    go_wp2_with fail
    generalize w.alloc (.cells #[.int .i64 W, .int .i64 H, .slice a l.length ca] 26) = w1 at *
    have b2 := laterB b1 ((Below.refl w1.heap.size w1).alloc (Nat.le_refl _) (.cells #[.int .i64 U, .int .i64 V, .slice b m.length cb] 26))
    have p2 := p1.later ((Below.refl w1.heap.size w1).alloc (Nat.le_refl _) (.cells #[.int .i64 U, .int .i64 V, .slice b m.length cb] 26))
    have q2 := P3.new w1 26 U V (.slice b m.length cb)
    rw [z1] at q2
    generalize w1.alloc (.cells #[.int .i64 U, .int .i64 V, .slice b m.length cb] 26) = w2 at *
    have P := hide p2
    have Q := hide q2
    have Bw := hide b2
    clear b1 p1 z1 b2 p2 q2 w1
    refine (itwo_any W H U V a b ca cb l m false _ (unhide hl1) (unhide hm1) ((unhide ha').below (unhide Bw)) ((unhide hb').below (unhide Bw)) ⟨(fun k => by cases k), fun k => absurd k (unhide hT')⟩).mono ?_
    rintro e w3 ⟨rfl, k3⟩
    have P := hide ((unhide P).later k3)
    have Q := hide ((unhide Q).later k3)
    have Bw := hide (laterB (unhide Bw) k3)
    clear k3
    obtain ⟨c0, c1, c2⟩ := (unhide P).cells
    obtain ⟨d0, d1, d2⟩ := (unhide Q).cells
    go_wp2
    go_ret2
    exact ⟨0, 0, rfl, unhide hz, unhide Bw⟩
  have hT' := hide hT
  by_cases hnn : 0 ≤ n ∧ n < nBl U V
  rotate_left
  · have hz := hide (MoAns.no (W := W) (H := H) (U := U) (V := V) (l := l) (m := m) (n := n) (fun h => hnn (by have := h.2; rw [hT.2.2.1, hT.2.2.2] at this; exact this)))
    have hw := hide (show (decide (0 ≤ n) && decide (n < nBl U V)) = false by simp; intro h; have := fun k => hnn ⟨h, k⟩; omega)
    clear hT hnn
    go_enter Try.func6, Try.ntmps6
    go_wp2_with fail
    generalize w.alloc (.cells #[.int .i64 W, .int .i64 H, .slice a l.length ca] 26) = w1 at *
    have b2 := laterB b1 ((Below.refl w1.heap.size w1).alloc (Nat.le_refl _) (.cells #[.int .i64 U, .int .i64 V, .slice b m.length cb] 26))
    have p2 := p1.later ((Below.refl w1.heap.size w1).alloc (Nat.le_refl _) (.cells #[.int .i64 U, .int .i64 V, .slice b m.length cb] 26))
    have q2 := P3.new w1 26 U V (.slice b m.length cb)
    rw [z1] at q2
    generalize w1.alloc (.cells #[.int .i64 U, .int .i64 V, .slice b m.length cb] 26) = w2 at *
    have P := hide p2
    have Q := hide q2
    have Bw := hide b2
    clear b1 p1 z1 b2 p2 q2 w1
    refine (itwo_any W H U V a b ca cb l m true _ (unhide hl1) (unhide hm1) ((unhide ha').below (unhide Bw)) ((unhide hb').below (unhide Bw)) ⟨fun _ => unhide hT', fun _ => rfl⟩).mono ?_
    rintro e w3 ⟨rfl, k3⟩
    have P := hide ((unhide P).later k3)
    have Q := hide ((unhide Q).later k3)
    have Bw := hide (laterB (unhide Bw) k3)
    clear k3
    obtain ⟨c0, c1, c2⟩ := (unhide P).cells
    obtain ⟨d0, d1, d2⟩ := (unhide Q).cells
    go_wp2_with fail
    refine (iblocks_any U V b m.length cb _ (unhide hT').2.1.1 (unhide hT').2.1.2.1).mono ?_
    rintro e w4 ⟨rfl, k4⟩
    have P := hide ((unhide P).later k4)
    have Q := hide ((unhide Q).later k4)
    have Bw := hide (laterB (unhide Bw) k4)
    clear k4 c0 c1 c2 d0 d1 d2
    obtain ⟨c0, c1, c2⟩ := (unhide P).cells
    obtain ⟨d0, d1, d2⟩ := (unhide Q).cells
    go_wp2_with fail
    refine (iwi_any n (nBl U V) false _ (unhide hw)).mono ?_
    rintro e w5 ⟨rfl, hw0⟩
    have hw1 := hw0.symm
    subst hw1
    go_wp2
    go_ret2
    exact ⟨0, 0, rfl, unhide hz, unhide Bw⟩
  have hw := hide (show (decide (0 ≤ n) && decide (n < nBl U V)) = true by simp; exact hnn)
  have hyes := hide (show ∀ p q, Best (mdif W H l m n) p q → MoAns W H U V l m n p q from fun p q h => MoAns.yes ⟨hT, by first | omega | exact hnn.1, by rw [hT.2.2.1, hT.2.2.2]; first | omega | exact hnn.2⟩ h)
  have cm := hide (show ∀ w', Below w.heap.size w w' → Calls Try.prog 15 #[pcv W H a l.length ca, pcv U V b m.length cb, .int .i64 n] w' (fun e w'' => ∃ p q, e = .returned (mvv p q) ∧ Best (mdif W H l m n) p q ∧ Below w'.heap.size w' w'') from fun w' h => by
    have h1 := hT.2.2.1
    have h2 := hT.2.2.2
    subst h1 h2
    exact imo_any W H a b ca cb l m n w' hT.1 hT.2.1 ((unhide ha').below h) ((unhide hb').below h) (by first | omega | exact hnn.1) (by first | omega | exact hnn.2))
  clear hT hnn
  go_enter Try.func6, Try.ntmps6
  go_wp2_with fail
  generalize w.alloc (.cells #[.int .i64 W, .int .i64 H, .slice a l.length ca] 26) = w1 at *
  have b2 := laterB b1 ((Below.refl w1.heap.size w1).alloc (Nat.le_refl _) (.cells #[.int .i64 U, .int .i64 V, .slice b m.length cb] 26))
  have p2 := p1.later ((Below.refl w1.heap.size w1).alloc (Nat.le_refl _) (.cells #[.int .i64 U, .int .i64 V, .slice b m.length cb] 26))
  have q2 := P3.new w1 26 U V (.slice b m.length cb)
  rw [z1] at q2
  generalize w1.alloc (.cells #[.int .i64 U, .int .i64 V, .slice b m.length cb] 26) = w2 at *
  have P := hide p2
  have Q := hide q2
  have Bw := hide b2
  clear b1 p1 z1 b2 p2 q2 w1
  refine (itwo_any W H U V a b ca cb l m true _ (unhide hl1) (unhide hm1) ((unhide ha').below (unhide Bw)) ((unhide hb').below (unhide Bw)) ⟨fun _ => unhide hT', fun _ => rfl⟩).mono ?_
  rintro e w3 ⟨rfl, k3⟩
  have P := hide ((unhide P).later k3)
  have Q := hide ((unhide Q).later k3)
  have Bw := hide (laterB (unhide Bw) k3)
  clear k3
  obtain ⟨c0, c1, c2⟩ := (unhide P).cells
  obtain ⟨d0, d1, d2⟩ := (unhide Q).cells
  go_wp2_with fail
  refine (iblocks_any U V b m.length cb _ (unhide hT').2.1.1 (unhide hT').2.1.2.1).mono ?_
  rintro e w4 ⟨rfl, k4⟩
  have P := hide ((unhide P).later k4)
  have Q := hide ((unhide Q).later k4)
  have Bw := hide (laterB (unhide Bw) k4)
  clear k4 c0 c1 c2 d0 d1 d2
  obtain ⟨c0, c1, c2⟩ := (unhide P).cells
  obtain ⟨d0, d1, d2⟩ := (unhide Q).cells
  go_wp2_with fail
  refine (iwi_any n (nBl U V) true _ (unhide hw)).mono ?_
  rintro e w5 ⟨rfl, hw0⟩
  have hw1 := hw0.symm
  subst hw1
  go_wp2_with fail
  refine (unhide cm _ (unhide Bw)).mono ?_
  rintro e w6 ⟨p, q, rfl, hbest, k6⟩
  have hA := hide (unhide hyes p q hbest)
  have Bw := hide (laterB (unhide Bw) k6)
  clear k6 hbest c0 c1 c2 d0 d1 d2
  go_wp2_with fail
  go_quiet (fail)
  go_wp2
  go_ret2
  exact ⟨p, q, rfl, unhide hA, below_drewN (laterB (unhide Bw) ((Below.refl _ _).alloc (Nat.le_refl _) _)) _⟩

end Go.Proofs.Ytdppnjafkbopiaa
