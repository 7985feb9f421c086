/-
  Numbers as words, and words read as numbers, by the program: contracts; what was there stays.
-/
import Derived.Test.YtioaehjppiodfaaGreatDoorGShelf
import Derived.Test.YtioaehjppiodfaaGreatDoorGBy
import Derived.Lib.ItoaLen
import Derived.Maps.OwnSet
import Derived.WalkArith
import Derived.LaidMore
import Derived.Lib.SmallJoins
namespace Go.Proofs.YtioaehjppiodfaaGreatDoor
open Go.RowKit
set_option linter.unusedVariables false
set_option linter.unusedSimpArgs false

/-- the library's table of powers of ten lies as its text lays it -/
abbrev Tab (w : World) : Prop := Lib.TabIs Tryz.prog w "internal/strconv.uint64pow10" .u64 Lib.pow10Tab
theorem tab_g : Tryz.prog.globalNamed "internal/strconv.uint64pow10" = some 1 := by kernel_rfl
/-- the library's two errors lie somewhere -/
def Sent (w : World) : Prop := (∃ tp p, w.var? Tryz.prog "strconv.ErrSyntax" = some #[.iface tp p]) ∧ ∃ tp p, w.var? Tryz.prog "strconv.ErrRange" = some #[.iface tp p]
theorem gSyn : Tryz.prog.globalNamed "strconv.ErrSyntax" = some 4 := by kernel_rfl
theorem gRan : Tryz.prog.globalNamed "strconv.ErrRange" = some 5 := by kernel_rfl
/-- some whole number lies in the library's variable -/
def MaxL (w : World) : Prop := ∃ m, w.cell? ⟨0, 0, none⟩ = some (.int .i64 m)
/-- the library's variables -/
structure Gv (w : World) : Prop where
  z : 8 ≤ w.heap.size
  m : MaxL w
  t : Tab w
  s : Sent w
theorem Gv.below {w w' : World} (h : Gv w) (hb : Below w.heap.size w w') : Gv w' := by
  refine ⟨Nat.le_trans h.z hb.size, ?_, Joins.tab_stays tab_g h.t hb (Nat.le_refl _), ?_⟩
  · obtain ⟨m, hm⟩ := h.m; exact ⟨m, cell_later hb hm⟩
  · obtain ⟨⟨t1, p1, h1⟩, t2, p2, h2⟩ := h.s
    exact ⟨⟨t1, p1, Joins.var_stays gSyn h1 hb (Nat.le_refl _)⟩, t2, p2, Joins.var_stays gRan h2 hb (Nat.le_refl _)⟩
theorem bw_below (w : World) (t : ByteArray) : Below w.heap.size w (Lib.bytesWorld w 5 t) :=
  Lib.below_freeze ((Below.drew (Below.refl _ w)).alloc (Nat.le_refl _) _) (p := ⟨w.heap.size, _, none⟩) (Nat.le_refl _) _
theorem grow_belowN (w : World) (k : Nat) (os : Array Obj) : Below w.heap.size w (Sort.grow (w.drewN k) os) := by
  refine ⟨rfl, rfl, rfl, by simp [Sort.grow], fun b hb => ?_⟩
  simp [Sort.grow, World.drewN, Array.getElem?_append, hb]

/-- a number as a word -/
def nt (n : Int) : ByteArray := ⟨(Lib.itoa n).toArray⟩
theorem nt_data (n : Int) : (nt n).data.toList = Lib.itoa n := rfl
theorem nt_size {n : Int} (h0 : -9223372036854775808 ≤ n) (h1 : n ≤ 9223372036854775807) : (nt n).size ≤ 21 := by
  rw [Lib.size_eq]; exact Lib.itoa_length_le n h0 h1

set_option maxHeartbeats 400000 in
theorem ntext_any (n : Int) (w : World) (h0 : -9223372036854775808 ≤ n) (h1 : n ≤ 9223372036854775807) (ht : Gv w) :
    Calls Tryz.prog 49 #[.int .i64 n] w fun e w' => e = .returned (.string (nt n)) ∧ Below w.heap.size w w' := by
  have cF := hide (Tryz.strconv_FormatInt_10 n h0 h1 w ht.t)
  obtain ⟨s, hs⟩ : ∃ s, (⟨(Lib.itoa n).toArray⟩ : ByteArray) = s := ⟨_, rfl⟩
  rw [hs] at cF
  have e9 : nt n = s := hs
  rw [e9]
  clear ht hs e9
  go_enter Tryz.func49, Tryz.ntmps49
  go_wp2_with fail
  refine (unhide cF).mono ?_
  rintro e w1 ⟨rfl, k, os, rfl⟩
  have hb := grow_belowN w k os
  generalize Sort.grow (w.drewN k) os = w1 at *
  go_wp2
  go_ret
  exact ⟨rfl, hb⟩

/-- what a word is read as -/
def numOf (s : ByteArray) : Option Int :=
  match Lib.parseIntB 64 s.data.toList with
  | .ok v => if (-999999999 ≤ v ∧ v ≤ 999999999) ∧ nt v = s then some v else none
  | _ => none
theorem numOf_bd {s : ByteArray} {v : Int} (h : numOf s = some v) : -999999999 ≤ v ∧ v ≤ 999999999 := by
  unfold numOf at h
  split at h
  · split at h
    · rename_i hh; injection h with h; rw [← h]; exact hh.1
    · cases h
  · cases h
/-- the two answers -/
def nv (r : Option Int) : Value := .tuple #[.int .i64 (r.getD 0), .bool r.isSome]
theorem beq_bytes (a b : ByteArray) : (a.toList == b.toList) = decide (a = b) := by
  by_cases h : a = b
  · subst h; simp
  · rw [decide_eq_false h, beq_eq_false_iff_ne]
    intro e
    apply h
    rw [Lib.toList_data, Lib.toList_data] at e
    exact ByteArray.ext (Array.toList_inj.1 e)

set_option maxRecDepth 100000 in
set_option maxHeartbeats 1600000 in
theorem number_any (s : ByteArray) (w : World) (hs : s.size ≤ 20000) (hG : Gv w) :
    Calls Tryz.prog 86 #[.string s] w fun e w' => e = .returned (nv (numOf s)) ∧ Below w.heap.size w w' := by
  obtain ⟨R, hR⟩ : ∃ R, numOf s = R := ⟨_, rfl⟩
  have hR2 := hR
  unfold numOf at hR2
  rw [hR]
  clear hR
  cases hp : Lib.parseIntB 64 s.data.toList with
  | ok v =>
    rw [hp] at hR2
    dsimp only at hR2
    have hbd := Lib.parseIntB_bounds hp
    have cP := hide (fun w => Tryz.strconv_ParseInt_10_at64_ok s (by omega) v hp w)
    have hv0 : -9223372036854775808 ≤ v := hbd.1
    have hv1 : v ≤ 9223372036854775807 := by have := hbd.2; have e : ((2 ^ (64 - 1) : Nat) : Int) = 9223372036854775808 := by decide
                                             omega
    clear hbd hp
    by_cases g0 : v < -999999999
    · rw [if_neg (fun h => by omega)] at hR2
      have g0' : decide (v < -999999999) = true := by simpa using g0
      subst hR2
      clear hG
      go_enter Tryz.func86, Tryz.ntmps86
      go_wp2_with fail
      refine (unhide cP _).mono ?_
      rintro e w2 ⟨rfl, hw2⟩
      have k2 : Below w.heap.size w w2 := by
        rcases hw2 with rfl | ⟨t, rfl⟩
        · exact Below.refl _ _
        · exact bw_below w t
      clear hw2
      go_wp2
      exact bodyPost_ret (v := nv none) (by simp [results, Tryz.results86, go_sem, nv]) rfl ⟨rfl, k2⟩
    have g0' : decide (v < -999999999) = false := by simpa using g0
    by_cases g1 : 999999999 < v
    · rw [if_neg (fun h => by omega)] at hR2
      have g1' : decide (999999999 < v) = true := by simpa using g1
      subst hR2
      clear hG
      go_enter Tryz.func86, Tryz.ntmps86
      go_wp2_with fail
      refine (unhide cP _).mono ?_
      rintro e w2 ⟨rfl, hw2⟩
      have k2 : Below w.heap.size w w2 := by
        rcases hw2 with rfl | ⟨t, rfl⟩
        · exact Below.refl _ _
        · exact bw_below w t
      clear hw2
      go_wp2
      exact bodyPost_ret (v := nv none) (by simp [results, Tryz.results86, go_sem, nv]) rfl ⟨rfl, k2⟩
    have g1' : decide (999999999 < v) = false := by simpa using g1
    have cN := hide (fun w (h : Gv w) => ntext_any v w hv0 hv1 h)
    obtain ⟨n, hn⟩ : ∃ n, nt v = n := ⟨_, rfl⟩
    rw [hn] at cN hR2
    clear hn
    have hG' := hide hG
    by_cases he : n = s
    · rw [if_pos ⟨⟨by omega, by omega⟩, he⟩] at hR2
      have he' : (n.toList == s.toList) = true := by rw [beq_bytes]; simpa using he
      subst hR2
      clear he hG
      go_enter Tryz.func86, Tryz.ntmps86
      go_wp2_with fail
      refine (unhide cP _).mono ?_
      rintro e w2 ⟨rfl, hw2⟩
      have k2 : Below w.heap.size w w2 := by
        rcases hw2 with rfl | ⟨t, rfl⟩
        · exact Below.refl _ _
        · exact bw_below w t
      clear hw2
      go_wp2_with fail
      refine (unhide cN _ ((unhide hG').below k2)).mono ?_
      rintro e w3 ⟨rfl, k3⟩
      have k5 := laterB k2 k3
      clear k2 k3 cN
      go_wp2
      exact bodyPost_ret (v := nv (some v)) (by simp [results, Tryz.results86, go_sem, nv]) rfl ⟨rfl, k5⟩
    · rw [if_neg (fun h => he h.2)] at hR2
      have he' : (n.toList == s.toList) = false := by rw [beq_bytes]; simpa using he
      subst hR2
      clear he hG
      go_enter Tryz.func86, Tryz.ntmps86
      go_wp2_with fail
      refine (unhide cP _).mono ?_
      rintro e w2 ⟨rfl, hw2⟩
      have k2 : Below w.heap.size w w2 := by
        rcases hw2 with rfl | ⟨t, rfl⟩
        · exact Below.refl _ _
        · exact bw_below w t
      clear hw2
      go_wp2_with fail
      refine (unhide cN _ ((unhide hG').below k2)).mono ?_
      rintro e w3 ⟨rfl, k3⟩
      have k5 := laterB k2 k3
      clear k2 k3 cN
      go_wp2
      exact bodyPost_ret (v := nv none) (by simp [results, Tryz.results86, go_sem, nv]) rfl ⟨rfl, k5⟩
  | «syntax» =>
    rw [hp] at hR2
    dsimp only at hR2
    subst hR2
    obtain ⟨⟨t1, p1, h1⟩, t2, p2, h2⟩ := hG.s
    have cP := hide (Tryz.strconv_ParseInt_10_at64_syntax_var s (by omega) hp t1 p1 w h1)
    clear h1 h2 hp hG
    go_enter Tryz.func86, Tryz.ntmps86
    go_wp2_with fail
    refine (unhide cP).mono ?_
    rintro e w2 ⟨N, rfl, _, _, k2⟩
    clear cP
    go_wp2
    exact bodyPost_ret (v := nv none) (by simp [results, Tryz.results86, go_sem, nv]) rfl ⟨rfl, k2⟩
  | range =>
    rw [hp] at hR2
    dsimp only at hR2
    subst hR2
    obtain ⟨⟨t1, p1, h1⟩, t2, p2, h2⟩ := hG.s
    have cP := hide (Tryz.strconv_ParseInt_10_at64_range_var s (by omega) hp t2 p2 w h2)
    clear h1 h2 hp hG
    go_enter Tryz.func86, Tryz.ntmps86
    go_wp2_with fail
    refine (unhide cP).mono ?_
    rintro e w2 ⟨N, rfl, _, _, k2⟩
    clear cP
    go_wp2
    exact bodyPost_ret (v := nv none) (by simp [results, Tryz.results86, go_sem, nv]) rfl ⟨rfl, k2⟩
end Go.Proofs.YtioaehjppiodfaaGreatDoor
