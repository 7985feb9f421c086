/-
  Contract of the model's drawn frame: it answers, and writes into the cursor and what it makes alone.
-/
import Derived.Test.YtffibbcombjkcaaDraw2
import Derived.Deep.DeepCutAuto
import Derived.Deep.RegionHeld3
namespace Go.Proofs.Ytffibbcombjkcaa
open Go.RowKit
set_option linter.unusedVariables false

/-- what a drawing function leaves -/
def Dr (B g : Nat) (a : Option Addr) (len cap : Nat) (w w' : World) : Prop := CurAt w' g a len cap ∧ RdB w' B a len ∧ w.grownBy w' (some g)
theorem Dr.next {B g : Nat} {a : Option Addr} {len cap : Nat} {w w1 w2 : World} (h : Dr B g a len cap w w1) (hB : B ≤ g) (k : CurAt w2 g a len cap) (hg : w1.grownBy w2 (some g)) : Dr B g a len cap w w2 :=
  ⟨k, h.2.1.grown hg hB, grown_trans h.2.2 hg⟩
theorem Dr.below {B g : Nat} {a : Option Addr} {len cap : Nat} {w w1 w2 : World} (h : Dr B g a len cap w w1) (hB : B ≤ g) (hb : Below w1.heap.size w1 w2) : Dr B g a len cap w w2 :=
  h.next hB (h.1.below hb) (grown_below hb)

theorem dr_drew {B g : Nat} {a : Option Addr} {len cap : Nat} {w w1 : World} (hB : B ≤ g) (h : Hid (Dr B g a len cap w w1)) : Hid (Dr B g a len cap w w1.drew) := Dr.below h hB ((Below.refl _ _).drew)
theorem dr_alloc {B g : Nat} {a : Option Addr} {len cap : Nat} {w w1 : World} {o : Obj} (hB : B ≤ g) (h : Hid (Dr B g a len cap w w1)) : Hid (Dr B g a len cap w (w1.alloc o)) := Dr.below h hB (below1 w1 o)
/-- what a call over the cursor leaves of other blocks -/
def Oth (g : Nat) (w w' : World) : Prop := (∀ b o, b < w.heap.size → b ≠ g → w'.cell? ⟨b, o, none⟩ = w.cell? ⟨b, o, none⟩) ∧ (∀ b, b < w.heap.size → b < w'.heap.size) ∧ w'.heap.size ≠ g
theorem oth_of {g : Nat} {w w' : World} (h : w.grownBy w' (some g)) (hg : g < w.heap.size) : Oth g w w' :=
  ⟨(gcell h).1, fun b hb => Nat.lt_of_lt_of_le hb h.size, by have := h.size; omega⟩
theorem below_dr {B g : Nat} {a : Option Addr} {len cap : Nat} {w wX : World} (n : Int) (hB : B ≤ g) (hl : len ≤ 9223372036854775807) (n0 : 0 < n) (h : Hid (Dr B g a len cap w wX)) :
    Calls Try.prog 44 #[.pointer (some ⟨g, 0, none⟩), .int .i64 n] wX fun e w' => ∃ m : Nat, e = .returned (.int .i64 m) ∧ (m : Int) < n ∧ Hid (Dr B g a len cap w w') ∧ Oth g wX w' :=
  (below_any B g a len cap n wX hB hl h.1 h.2.1 n0).mono fun e w' ⟨x, he, x0, x1, k, gr⟩ => ⟨x.toNat, by rw [he, Int.toNat_of_nonneg x0], by omega, Dr.next h hB k gr, oth_of gr h.1.lt⟩
theorem below7 {B g : Nat} {a : Option Addr} {len cap : Nat} {w wX : World} (hB : B ≤ g) (hl : len ≤ 9223372036854775807) (h : Hid (Dr B g a len cap w wX)) :
    Calls Try.prog 44 #[.pointer (some ⟨g, 0, none⟩), .int .i64 7] wX fun e w' => ∃ m : Nat, e = .returned (.int .i64 m) ∧ m < 7 ∧ (m : Int) < 7 ∧ Hid (Dr B g a len cap w w') ∧ Oth g wX w' :=
  (below_dr 7 hB hl (by omega) h).mono fun e w' ⟨m, h1, h2, h3, h4⟩ => ⟨m, h1, by omega, h2, h3, h4⟩
theorem below3 {B g : Nat} {a : Option Addr} {len cap : Nat} {w wX : World} (hB : B ≤ g) (hl : len ≤ 9223372036854775807) (h : Hid (Dr B g a len cap w wX)) :
    Calls Try.prog 44 #[.pointer (some ⟨g, 0, none⟩), .int .i64 3] wX fun e w' => ∃ m : Nat, e = .returned (.int .i64 m) ∧ (m : Int) < 3 ∧ Hid (Dr B g a len cap w w') ∧ Oth g wX w' :=
  below_dr 3 hB hl (by omega) h
theorem from3 {B g : Nat} {a : Option Addr} {len cap : Nat} {w wX : World} (hB : B ≤ g) (hl : len ≤ 9223372036854775807) (h : Hid (Dr B g a len cap w wX)) :
    Calls Try.prog 47 #[.pointer (some ⟨g, 0, none⟩), .int .i64 (-3), .int .i64 3] wX fun e w' => ∃ x, e = .returned (.int .i64 x) ∧ -3 ≤ x ∧ x ≤ 3 ∧ Hid (Dr B g a len cap w w') ∧ Oth g wX w' :=
  (from_any B g a len cap (-3) 3 wX hB hl h.1 h.2.1 (by omega) (by omega) (by omega)).mono fun e w' ⟨x, he, x0, x1, k, gr⟩ => ⟨x, he, x0, x1, Dr.next h hB k gr, oth_of gr h.1.lt⟩
theorem from_dr {B g : Nat} {a : Option Addr} {len cap : Nat} {w wX : World} (lo hi : Int) (hB : B ≤ g) (hl : len ≤ 9223372036854775807) (h0 : -1000000000 ≤ lo) (h1 : lo ≤ hi) (h2 : hi ≤ 1000000000) (h : Hid (Dr B g a len cap w wX)) :
    Calls Try.prog 47 #[.pointer (some ⟨g, 0, none⟩), .int .i64 lo, .int .i64 hi] wX fun e w' => ∃ x, e = .returned (.int .i64 x) ∧ lo ≤ x ∧ x ≤ hi ∧ Hid (Dr B g a len cap w w') ∧ Oth g wX w' :=
  (from_any B g a len cap lo hi wX hB hl h.1 h.2.1 h0 h1 h2).mono fun e w' ⟨x, he, x0, x1, k, gr⟩ => ⟨x, he, x0, x1, Dr.next h hB k gr, oth_of gr h.1.lt⟩
theorem once_dr {B g : Nat} {a : Option Addr} {len cap : Nat} {w wX : World} (n : Int) (hB : B ≤ g) (hl : len ≤ 9223372036854775807) (n0 : 0 < n) (h : Hid (Dr B g a len cap w wX)) :
    Calls Try.prog 45 #[.pointer (some ⟨g, 0, none⟩), .int .i64 n] wX fun e w' => ∃ v, e = .returned (.bool v) ∧ Hid (Dr B g a len cap w w') ∧ Oth g wX w' :=
  (once_any B g a len cap n wX hB hl h.1 h.2.1 n0).mono fun e w' ⟨x, he, k, gr⟩ => ⟨x, he, Dr.next h hB k gr, oth_of gr h.1.lt⟩
theorem base_lim (n d : Int) (dr : Bool) : 0 ≤ Pl.base n d dr ∧ Pl.base n d dr ≤ 120 := by
  cases h : Pl.rok n d dr
  · rw [show Pl.base n d dr = 0 from by simp [Pl.base, h]]; omega
  · obtain ⟨h1, h2, h3, h4, h5⟩ := Pl.rok_bd h
    rw [show Pl.base n d dr = (n + d - 1) / d from by simp [Pl.base, h]]
    exact ⟨Int.ediv_nonneg (by omega) (by omega), by have := (Int.ediv_lt_iff_lt_mul (a := n + d - 1) (b := 121) (show 0 < d by omega)).2 (by omega); omega⟩

set_option maxRecDepth 100000 in
set_option maxHeartbeats 4000000 in
theorem dframe_any (B g : Nat) (a : Option Addr) (len cap : Nat) (n d : Int) (dr : Bool) (w : World) (hB : B ≤ g) (hl : len ≤ 9223372036854775807) (hc : CurAt w g a len cap) (hr : RdB w B a len) :
    Calls Try.prog 29 #[.pointer (some ⟨g, 0, none⟩), .agg #[.int .i64 n, .int .i64 d, .bool dr]] w fun e w' => ∃ f, e = .returned (.int .i64 f) ∧ CurAt w' g a len cap ∧ w.grownBy w' (some g) := by
  have hgw := hide hc.lt
  have h0 : Hid (Dr B g a len cap w (w.alloc (.cells #[.int .i64 n, .int .i64 d, .bool dr] 25))) := hide (Dr.below ⟨hc, hr, World.grownBy.refl _ _⟩ hB (below1 w _))
  clear hc hr
  go_enter Try.func29, Try.ntmps29
  go_wp2_with fail
  refine (below_dr 2000 hB hl (by omega) h0).mono ?_
  rintro e w1 ⟨m1, rfl, l1, h1, p1, s1, n1⟩
  go_wp2_with fail
  refine (once_dr 3 hB hl (by omega) h1).mono ?_
  rintro e w2 ⟨v, rfl, h2, p2, s2, n2⟩
  have nw : w.heap.size ≠ g := by have := unhide hgw; omega
  go_upto_if 10 with fail
  go_cut [5] (fun s5 wx => ∃ f, s5 = .int .i64 f ∧ Hid (Dr B g a len cap w wx))
  case first =>
    cases v
    · go_wp2
      go_meet
      case rel => exact ⟨m1, rfl, h2⟩
    · go_wp2_with fail
      refine (sbase_any n d dr _).mono ?_
      rintro e w3 ⟨rfl, hb3⟩
      have h3 : Hid (Dr B g a len cap w w3) := Dr.below h2 hB hb3
      have n3 : w3.heap.size ≠ g := by have := h2.1.lt; have := hb3.size; omega
      obtain ⟨b0, b1⟩ := base_lim n d dr
      generalize Pl.base n d dr = b at *
      go_wp2_with fail
      refine (max_any 1 b _).mono ?_
      rintro e w4 ⟨rfl, rfl⟩
      obtain ⟨M, hM, M0, M1⟩ : ∃ M : Int, (if b < 1 then 1 else b) = M ∧ 1 ≤ M ∧ M ≤ 120 := ⟨_, rfl, by split <;> omega, by split <;> omega⟩
      rw [hM]
      clear hM p1 p2 s1 s2 n1 n2 hb3
      obtain ⟨lk, hlk⟩ : ∃ lk : Nat → Int, ∀ (m : Nat) (h : m < ([.int .i64 (IntKind.i64.wrap (60 * M)), .int .i64 (IntKind.i64.wrap (600 * M)), .int .i64 (IntKind.i64.wrap (3600 * M)), .int .i64 17982, .int .i64 1798, .int .i64 107892, .int .i64 35964] : List Value).length), ([.int .i64 (IntKind.i64.wrap (60 * M)), .int .i64 (IntKind.i64.wrap (600 * M)), .int .i64 (IntKind.i64.wrap (3600 * M)), .int .i64 17982, .int .i64 1798, .int .i64 107892, .int .i64 35964] : List Value)[m]'h = .int .i64 (lk m) :=
        ⟨fun m => match m with | 0 => IntKind.i64.wrap (60 * M) | 1 => IntKind.i64.wrap (600 * M) | 2 => IntKind.i64.wrap (3600 * M) | 3 => 17982 | 4 => 1798 | 5 => 107892 | _ => 35964, by
          intro m hm
          obtain rfl | rfl | rfl | rfl | rfl | rfl | rfl : m = 0 ∨ m = 1 ∨ m = 2 ∨ m = 3 ∨ m = 4 ∨ m = 5 ∨ m = 6 := by simp at hm; omega
          all_goals rfl⟩
      go_wp2_with fail
      go_region_with (first | (go_at_call_of 44 (Value.int IntKind.i64 7); refine (below7 (a := a) (cap := cap) (w := w) hB hl ?_).mono ?_; (first | assumption | (refine dr_drew hB ?_; assumption) | (refine dr_alloc hB ?_; assumption) | (refine dr_drew hB (dr_alloc hB ?_); assumption)); rintro e wA ⟨mA, rfl, lA, lA', hA, pA, sA, nA⟩) | (go_at_call_of 44 (Value.int IntKind.i64 3); refine (below3 (a := a) (cap := cap) (w := w) hB hl ?_).mono ?_; (first | assumption | (refine dr_drew hB ?_; assumption) | (refine dr_alloc hB ?_; assumption) | (refine dr_drew hB (dr_alloc hB ?_); assumption)); rintro e wB ⟨mB, rfl, lB, hB', pB, sB, nB⟩; (try have sAB := fun b h => sB b (sA b h))) | (go_at_call 47; refine (from3 (a := a) (cap := cap) (w := w) hB hl ?_).mono ?_; (first | assumption | (refine dr_drew hB ?_; assumption) | (refine dr_alloc hB ?_; assumption) | (refine dr_drew hB (dr_alloc hB ?_); assumption)); rintro e wC ⟨xC, rfl, lC0, lC1, hC, pC, sC, nC⟩))
      all_goals
        go_wp2_with fail
        go_meet
        case rel => first | exact ⟨_, rfl, hC⟩ | exact ⟨_, rfl, dr_alloc hB hC⟩
  case rest =>
    obtain ⟨f, rfl, h5⟩ := hcut
    clear p1 p2 s1 s2 n1 n2 h2 h1 h0
    go_wp2_with fail
    refine (once_dr 8 hB hl (by omega) h5).mono ?_
    rintro e w6 ⟨v6, rfl, h6, p6, s6, n6⟩
    clear p6 s6 n6
    cases v6
    · go_wp2_with fail
      refine (once_dr 16 hB hl (by omega) h6).mono ?_
      rintro e w7 ⟨v7, rfl, h7, p7, s7, n7⟩
      cases v7
      · go_wp2
        go_ret
        exact ⟨f, rfl, h7.1, h7.2.2⟩
      · go_wp2_with fail
        refine (below_dr 5 hB hl (by omega) (dr_alloc hB h7)).mono ?_
        rintro e w8 ⟨m8, rfl, l8, h8, p8, s8, n8⟩
        obtain ⟨c, hcq⟩ : ∃ c, w8.cell? ⟨w7.heap.size, m8, none⟩ = some (.int .i64 c) := by
          have e := fun j => p8 w7.heap.size j (by simp) n7
          obtain rfl | rfl | rfl | rfl | rfl : m8 = 0 ∨ m8 = 1 ∨ m8 = 2 ∨ m8 = 3 ∨ m8 = 4 := by omega
          all_goals exact ⟨_, by rw [e]; simp; rfl⟩
        clear p8 p7 s7 n7 s8 n8
        go_wp2
        go_ret
        exact ⟨c, rfl, h8.1, h8.2.2⟩
    · go_wp2_with fail
      refine (below_dr 10000000 hB hl (by omega) h6).mono ?_
      rintro e w6a ⟨m6, rfl, l6, h6a, p6a, s6a, n6a⟩
      clear p6a s6a n6a
      go_wp2_with fail
      refine (once_dr 16 hB hl (by omega) h6a).mono ?_
      rintro e w7 ⟨v7, rfl, h7, p7, s7, n7⟩
      cases v7
      · go_wp2
        go_ret
        exact ⟨_, rfl, h7.1, h7.2.2⟩
      · go_wp2_with fail
        refine (below_dr 5 hB hl (by omega) (dr_alloc hB h7)).mono ?_
        rintro e w8 ⟨m8, rfl, l8, h8, p8, s8, n8⟩
        obtain ⟨c, hcq⟩ : ∃ c, w8.cell? ⟨w7.heap.size, m8, none⟩ = some (.int .i64 c) := by
          have e := fun j => p8 w7.heap.size j (by simp) n7
          obtain rfl | rfl | rfl | rfl | rfl : m8 = 0 ∨ m8 = 1 ∨ m8 = 2 ∨ m8 = 3 ∨ m8 = 4 := by omega
          all_goals exact ⟨_, by rw [e]; simp; rfl⟩
        clear p8 p7 s7 n7 s8 n8
        go_wp2
        go_ret
        exact ⟨c, rfl, h8.1, h8.2.2⟩

end Go.Proofs.Ytffibbcombjkcaa
