/-
  Contracts of the functions, the model's and the program's, that tell whether something is a clip or a track, and how long a track is; nothing that was there is written.
  Contracts of the functions, the model's and the program's, that tell whether a list is a track, and how long it is; nothing that was there is written.
  Lists of numbers in memory: owned rows and lists that are read, and contracts of the law's functions that copy them, hold them against each other, write marks into them and look for these again.
  Numbers as words, and words read as numbers, by the program: contracts; what was there stays.
-/
import Derived.Test.YtioaehjppiodfaaGreatDoorG03
import Derived.WalkKit
import Derived.WalkSpells
import Derived.WalkLawsBesides
import Derived.Deep.QuietTactic
import Derived.BigQuiet
import Derived.Deep.RegionHeld3
import Derived.Outline
import Derived.Deep.AppendLies
import Derived.Lib.MinMax
import Derived.Test.YtioaehjppiodfaaGreatDoorGShelf
import Derived.Lib.ItoaLen
import Derived.Maps.OwnSet
import Derived.WalkArith
import Derived.LaidMore
import Derived.Lib.SmallJoins
namespace Go.Proofs.YtioaehjppiodfaaGreatDoor
open Go.RowKit
set_option linter.unusedVariables false
set_option linter.unusedSimpArgs false

theorem cok_dec (s i n : Int) : decide (COk (s, i, n)) = (decide (1 ≤ n) && decide (n ≤ 10000000) && (decide (0 ≤ i) && decide (i + n ≤ 10000000)) && ((decide (1 ≤ s) && decide (s ≤ 500)) || (decide (s = 0) && decide (i = 0)))) := by
  rw [Bool.eq_iff_iff, decide_eq_true_iff]
  simp [COk, and_assoc]

set_option maxHeartbeats 400000 in
theorem gap_any (s i n : Int) (v : Bool) (w : World) (hv : decide (s = 0) = v) :
    Calls Tryz.prog 135 #[.agg #[.int .i64 s, .int .i64 i, .int .i64 n]] w fun e w' => e = .returned (.bool v) ∧ Below w.heap.size w w' := by
  subst hv
  go_enter Tryz.func135, Tryz.ntmps135
  go_wp2
  go_ret
  exact ⟨rfl, (Below.refl _ _).alloc (Nat.le_refl _) _⟩
set_option maxHeartbeats 400000 in
theorem isrc_any (x : Int) (v : Bool) (w : World) (hv : (decide (1 ≤ x) && decide (x ≤ 500)) = v) :
    Calls Tryz.prog 150 #[.int .i64 x] w fun e w' => e = .returned (.bool v) ∧ w' = w := by
  subst hv
  by_cases h1 : 1 ≤ x
  · by_cases h2 : x ≤ 500
    · go_enter Tryz.func150, Tryz.ntmps150
      go_wp2
      go_ret
      exact ⟨ret_bool (by simp [h1, h2]), rfl⟩
    · go_enter Tryz.func150, Tryz.ntmps150
      go_wp2
      go_ret
      exact ⟨ret_bool (by simp [h2]), rfl⟩
  · have hd : decide (1 ≤ x) = false := by simpa using h1
    go_enter Tryz.func150, Tryz.ntmps150
    go_wp2
    go_ret
    exact ⟨ret_bool (by simp), rfl⟩

set_option maxHeartbeats 1600000 in
theorem iclip_any (s i n : Int) (v : Bool) (w : World) (hv : decide (COk (s, i, n)) = v) :
    Calls Tryz.prog 129 #[.agg #[.int .i64 s, .int .i64 i, .int .i64 n]] w fun e w' => e = .returned (.bool v) ∧ Below w.heap.size w w' := by
  rw [cok_dec] at hv
  subst hv
  by_cases n0 : n < 1
  · have hn' : decide (1 ≤ n) = false := by simp; omega
    go_enter Tryz.func129, Tryz.ntmps129
    go_wp2
    go_ret
    exact ⟨ret_bool (by simp [hn']), (Below.refl _ _).alloc (Nat.le_refl _) _⟩
  have n0' : decide (n < 1) = false := by simpa using n0
  by_cases n1 : 10000000 < n
  · have hn' : decide (n ≤ 10000000) = false := by simp; omega
    go_enter Tryz.func129, Tryz.ntmps129
    go_wp2
    go_ret
    exact ⟨ret_bool (by simp [hn']), (Below.refl _ _).alloc (Nat.le_refl _) _⟩
  have n1' : decide (10000000 < n) = false := by simpa using n1
  by_cases h0 : s = 0
  · subst h0
    go_enter Tryz.func129, Tryz.ntmps129
    go_wp2_with fail
    refine (gap_any 0 i n true _ rfl).mono ?_
    rintro e w1 ⟨rfl, hb⟩
    obtain ⟨B1, B2⟩ := bcell hb
    go_wp2
    go_ret
    refine ⟨ret_bool ?_, ((Below.refl _ _).alloc (Nat.le_refl _) _).trans (hb.mono (by simp))⟩
    by_cases hi : i = 0
    · subst hi; simp; omega
    · simp [hi]
  have h0' : decide (s = 0) = false := by simpa using h0
  by_cases h1 : 1 ≤ s ∧ s ≤ 500
  · by_cases i0 : 0 ≤ i
    · go_enter Tryz.func129, Tryz.ntmps129
      go_wp2_with fail
      refine (gap_any s i n false _ h0').mono ?_
      rintro e w1 ⟨rfl, hb⟩
      obtain ⟨B1, B2⟩ := bcell hb
      go_wp2_with fail
      refine (isrc_any s true _ (by simp; omega)).mono ?_
      rintro e w1 ⟨rfl, rfl⟩
      go_wp2
      go_ret
      refine ⟨ret_bool ?_, ((Below.refl _ _).alloc (Nat.le_refl _) _).trans (hb.mono (by simp))⟩
      by_cases hs : i + n ≤ 10000000
      · have : i ≤ 10000000 - n := by omega
        simp [hs, this]; omega
      · have : ¬ i ≤ 10000000 - n := by omega
        simp [hs, this]
    · have i0' : decide (0 ≤ i) = false := by simpa using i0
      go_enter Tryz.func129, Tryz.ntmps129
      go_wp2_with fail
      refine (gap_any s i n false _ h0').mono ?_
      rintro e w1 ⟨rfl, hb⟩
      obtain ⟨B1, B2⟩ := bcell hb
      go_wp2_with fail
      refine (isrc_any s true _ (by simp; omega)).mono ?_
      rintro e w1 ⟨rfl, rfl⟩
      go_wp2
      go_ret
      exact ⟨ret_bool (by simp [i0']), ((Below.refl _ _).alloc (Nat.le_refl _) _).trans (hb.mono (by simp))⟩
  · have h1' : (decide (1 ≤ s) && decide (s ≤ 500)) = false := by simp; omega
    go_enter Tryz.func129, Tryz.ntmps129
    go_wp2_with fail
    refine (gap_any s i n false _ h0').mono ?_
    rintro e w1 ⟨rfl, hb⟩
    obtain ⟨B1, B2⟩ := bcell hb
    go_wp2_with fail
    refine (isrc_any s false _ h1').mono ?_
    rintro e w1 ⟨rfl, rfl⟩
    go_wp2
    go_ret
    exact ⟨ret_bool (by simp [h1', h0']), ((Below.refl _ _).alloc (Nat.le_refl _) _).trans (hb.mono (by simp))⟩

end Go.Proofs.YtioaehjppiodfaaGreatDoor

namespace Go.Proofs.YtioaehjppiodfaaGreatDoor
open Go.RowKit
set_option linter.unusedVariables false
set_option linter.unusedSimpArgs false

theorem kls_at {w wr : World} {a : Option Addr} {l : List Kl} {k : Nat} (h : Kls w a l) (hb : Below w.heap.size w wr) (hlt : k < l.length) :
    ∃ b o s i n, a = some ⟨b, o, none⟩ ∧ l[k]? = some (s, i, n) ∧ wr.cell? ⟨b, o + k * 3, none⟩ = some (.int .i64 s) ∧ wr.cell? ⟨b, o + k * 3 + 1, none⟩ = some (.int .i64 i) ∧ wr.cell? ⟨b, o + k * 3 + 2, none⟩ = some (.int .i64 n) := by
  obtain ⟨b, o, e, h1, c0, c1, c2⟩ := h k l[k] (List.getElem?_eq_getElem hlt)
  have C := fun o => (bcell hb).1 b o h1
  exact ⟨b, o, l[k].1, l[k].2.1, l[k].2.2, e, List.getElem?_eq_getElem hlt, (C _).trans c0, (C _).trans c1, (C _).trans c2⟩
theorem aok_take {l : List Kl} {k : Nat} {c : Kl} (h : AOk (l.take k)) (hx : l[k]? = some c) (hc : COk c) : AOk (l.take (k + 1)) := by
  rw [take_snocK hx]; exact h.append (AOk.cons hc AOk.nil)
theorem take_bd {l : List Kl} {k : Nat} (h : AOk (l.take k)) (hk : k ≤ l.length) : 0 ≤ clen (l.take k) ∧ clen (l.take k) ≤ k * 10000000 := by
  refine ⟨clen_nonneg h, ?_⟩
  have := clen_le h
  rw [List.length_take, Nat.min_eq_left hk] at this
  exact this
theorem not_tok {l : List Kl} {k : Nat} {c : Kl} (hx : l[k]? = some c) (hc : ¬ COk c) : ¬ TOk l := fun h => hc (h.2.1 c (List.mem_of_getElem? hx))

def lenOf (l : List Kl) : Int := if TOk l then clen l else -1
end Go.Proofs.YtioaehjppiodfaaGreatDoor

namespace Go.Proofs.YtioaehjppiodfaaGreatDoor
open Go.RowKit
set_option linter.unusedVariables false
set_option linter.unusedSimpArgs false

theorem infoI : (Tryz.prog.info? 2).map (fun i => (i.zero, i.size, i.bytes)) = some (some (.int .i64 0), 1, 8) := by kernel_rfl
/-- the numbers l behind the address a -/
def Ins (w : World) (a : Option Addr) (l : List Int) : Prop :=
  ∀ j x, l[j]? = some x → ∃ b o, a = some ⟨b, o, none⟩ ∧ b < w.heap.size ∧ w.cell? ⟨b, o + j, none⟩ = some (.int .i64 x)
theorem Ins.nil {w : World} {a : Option Addr} : Ins w a [] := by intro j z hz; simp at hz
theorem Ins.below {w w' : World} {a : Option Addr} {l : List Int} (h : Ins w a l) (s : Below w.heap.size w w') : Ins w' a l := by
  intro j x hx
  obtain ⟨b, o, e, h1, c0⟩ := h j x hx
  exact ⟨b, o, e, Nat.lt_of_lt_of_le h1 s.size, ((bcell s).1 b _ h1).trans c0⟩
theorem ins_at {w wr : World} {a : Option Addr} {l : List Int} {k : Nat} (h : Ins w a l) (hw : Below w.heap.size w wr) (hk : k < l.length) : ∃ b o x, a = some ⟨b, o, none⟩ ∧ l[k]? = some x ∧ b < w.heap.size ∧ wr.cell? ⟨b, o + k, none⟩ = some (.int .i64 x) := by
  obtain ⟨b, o, e, h1, c0⟩ := h k l[k] (List.getElem?_eq_getElem hk)
  exact ⟨b, o, _, e, List.getElem?_eq_getElem hk, h1, ((bcell hw).1 b _ h1).trans c0⟩
/-- an owned list of numbers -/
abbrev OwnI (w : World) (B g n cap : Nat) (l : List Int) : Prop := w.ownsRow B 2 1 (.slice (some ⟨g, 0, none⟩) n cap) n (l.map iv)
theorem ownI_len {w : World} {B g n cap : Nat} {l : List Int} (h : OwnI w B g n cap l) : l.length = n := by
  have hl : (l.map iv).length = n * 1 := h.1
  simpa using hl
theorem ownI_at {w : World} {B g n cap k : Nat} {l : List Int} {x : Int} (hk : l[k]? = some x) (h : OwnI w B g n cap l) : w.cell? ⟨g, k, none⟩ = some (.int .i64 x) := by
  have hl := ownI_len h
  have hj : k < l.length := (List.getElem?_eq_some_iff.1 hk).1
  have := h.cellAt k (by omega)
  rw [this, List.getElem?_map, hk]; rfl
theorem ownI_put {w : World} {B g n cap : Nat} {l : List Int} (k : Nat) (x : Int) (h : OwnI w B g n cap l) : OwnI (w.setCell ⟨g, k, none⟩ (.int .i64 x)) B g n cap (l.set k x) := by
  have h1 := (h.stored k (iv x)).1
  show World.ownsRow _ _ _ _ _ _ _
  rw [List.map_set]; exact h1
theorem ins_own {w : World} {B g n cap : Nat} {l : List Int} (h : OwnI w B g n cap l) : Ins w (some ⟨g, 0, none⟩) l := by
  intro j z hj
  exact ⟨g, 0, rfl, own_lt h, by rw [Nat.zero_add]; exact ownI_at hj h⟩
theorem ownI_lit0 (w : World) {B : Nat} (hB : B ≤ w.heap.size) : OwnI (w.alloc (.cells #[] 2)) B w.heap.size 0 0 [] := by
  have h := World.ownsRow_lit (base := B) (e := 2) (size := 1) w #[] 0 hB (by unfold maxLen; omega) rfl
  exact h
theorem ownI_lit3 (w : World) {B : Nat} (a b c : Int) (hB : B ≤ w.heap.size) : OwnI (w.alloc (.cells #[.int .i64 a, .int .i64 b, .int .i64 c] 2)) B w.heap.size 3 3 [a, b, c] := by
  have h := World.ownsRow_lit (base := B) (e := 2) (size := 1) w #[.int .i64 a, .int .i64 b, .int .i64 c] 3 hB (by unfold maxLen; omega) rfl
  exact h

/-- the copy's list as it stands -/
def midI (l : List Int) (n k : Nat) : List Int := l.take k ++ List.replicate (n - k) 0
theorem midI_len {l : List Int} {n k : Nat} (hl : l.length = n) (hk : k ≤ n) : (midI l n k).length = n := by simp [midI]; omega
theorem midI_set {l : List Int} {n k : Nat} {x : Int} (hl : l.length = n) (h : l[k]? = some x) : (midI l n k).set k x = midI l n (k + 1) := by
  have hk : k < l.length := (List.getElem?_eq_some_iff.1 h).1
  unfold midI
  rw [List.take_add_one, h, List.set_append_right _ _ (by simp; omega)]
  have e : n - k = (n - (k + 1)) + 1 := by omega
  rw [e, List.replicate_succ]
  have e2 : k - (l.take k).length = 0 := by simp; omega
  rw [e2]; simp
theorem made_I (n : Nat) : (madeCells #[.int .i64 0] n).toList = (List.replicate n (0 : Int)).map iv := by
  have := toList_madeCells_one (.int .i64 0) n
  simpa [iv] using this

end Go.Proofs.YtioaehjppiodfaaGreatDoor

namespace Go.Proofs.YtioaehjppiodfaaGreatDoor
open Go.RowKit
set_option linter.unusedVariables false
set_option linter.unusedSimpArgs false

/-- the library's table of powers of ten lies as its text lays it -/
abbrev Tab (w : World) : Prop := Lib.TabIs Tryz.prog w "internal/strconv.uint64pow10" .u64 Lib.pow10Tab
theorem tab_g : Tryz.prog.globalNamed "internal/strconv.uint64pow10" = some 1 := by kernel_rfl
/-- the library's two errors lie somewhere -/
def Sent (w : World) : Prop := (∃ tp p, w.var? Tryz.prog "strconv.ErrSyntax" = some #[.iface tp p]) ∧ ∃ tp p, w.var? Tryz.prog "strconv.ErrRange" = some #[.iface tp p]
theorem gSyn : Tryz.prog.globalNamed "strconv.ErrSyntax" = some 4 := by kernel_rfl
theorem gRan : Tryz.prog.globalNamed "strconv.ErrRange" = some 5 := by kernel_rfl
/-- some whole number lies in the library's variable -/
def MaxL (w : World) : Prop := ∃ m, w.cell? ⟨0, 0, none⟩ = some (.int .i64 m)
/-- the library's variables -/
structure Gv (w : World) : Prop where
  z : 8 ≤ w.heap.size
  m : MaxL w
  t : Tab w
  s : Sent w
theorem Gv.below {w w' : World} (h : Gv w) (hb : Below w.heap.size w w') : Gv w' := by
  refine ⟨Nat.le_trans h.z hb.size, ?_, Joins.tab_stays tab_g h.t hb (Nat.le_refl _), ?_⟩
  · obtain ⟨m, hm⟩ := h.m; exact ⟨m, cell_later hb hm⟩
  · obtain ⟨⟨t1, p1, h1⟩, t2, p2, h2⟩ := h.s
    exact ⟨⟨t1, p1, Joins.var_stays gSyn h1 hb (Nat.le_refl _)⟩, t2, p2, Joins.var_stays gRan h2 hb (Nat.le_refl _)⟩
theorem bw_below (w : World) (t : ByteArray) : Below w.heap.size w (Lib.bytesWorld w 5 t) :=
  Lib.below_freeze ((Below.drew (Below.refl _ w)).alloc (Nat.le_refl _) _) (p := ⟨w.heap.size, _, none⟩) (Nat.le_refl _) _
theorem grow_belowN (w : World) (k : Nat) (os : Array Obj) : Below w.heap.size w (Sort.grow (w.drewN k) os) := by
  refine ⟨rfl, rfl, rfl, by simp [Sort.grow], fun b hb => ?_⟩
  simp [Sort.grow, World.drewN, Array.getElem?_append, hb]

/-- a number as a word -/
def nt (n : Int) : ByteArray := ⟨(Lib.itoa n).toArray⟩
theorem nt_data (n : Int) : (nt n).data.toList = Lib.itoa n := rfl
theorem nt_size {n : Int} (h0 : -9223372036854775808 ≤ n) (h1 : n ≤ 9223372036854775807) : (nt n).size ≤ 21 := by
  rw [Lib.size_eq]; exact Lib.itoa_length_le n h0 h1

set_option maxHeartbeats 400000 in
theorem ntext_any (n : Int) (w : World) (h0 : -9223372036854775808 ≤ n) (h1 : n ≤ 9223372036854775807) (ht : Gv w) :
    Calls Tryz.prog 49 #[.int .i64 n] w fun e w' => e = .returned (.string (nt n)) ∧ Below w.heap.size w w' := by
  have cF := hide (Tryz.strconv_FormatInt_10 n h0 h1 w ht.t)
  obtain ⟨s, hs⟩ : ∃ s, (⟨(Lib.itoa n).toArray⟩ : ByteArray) = s := ⟨_, rfl⟩
  rw [hs] at cF
  have e9 : nt n = s := hs
  rw [e9]
  clear ht hs e9
  go_enter Tryz.func49, Tryz.ntmps49
  go_wp2_with fail
  refine (unhide cF).mono ?_
  rintro e w1 ⟨rfl, k, os, rfl⟩
  have hb := grow_belowN w k os
  generalize Sort.grow (w.drewN k) os = w1 at *
  go_wp2
  go_ret
  exact ⟨rfl, hb⟩

/-- what a word is read as -/
def numOf (s : ByteArray) : Option Int :=
  match Lib.parseIntB 64 s.data.toList with
  | .ok v => if (-999999999 ≤ v ∧ v ≤ 999999999) ∧ nt v = s then some v else none
  | _ => none
theorem numOf_bd {s : ByteArray} {v : Int} (h : numOf s = some v) : -999999999 ≤ v ∧ v ≤ 999999999 := by
  unfold numOf at h
  split at h
  · split at h
    · rename_i hh; injection h with h; rw [← h]; exact hh.1
    · cases h
  · cases h
/-- the two answers -/
def nv (r : Option Int) : Value := .tuple #[.int .i64 (r.getD 0), .bool r.isSome]
theorem beq_bytes (a b : ByteArray) : (a.toList == b.toList) = decide (a = b) := by
  by_cases h : a = b
  · subst h; simp
  · rw [decide_eq_false h, beq_eq_false_iff_ne]
    intro e
    apply h
    rw [Lib.toList_data, Lib.toList_data] at e
    exact ByteArray.ext (Array.toList_inj.1 e)

set_option maxRecDepth 100000 in
set_option maxHeartbeats 1600000 in
theorem number_any (s : ByteArray) (w : World) (hs : s.size ≤ 20000) (hG : Gv w) :
    Calls Tryz.prog 86 #[.string s] w fun e w' => e = .returned (nv (numOf s)) ∧ Below w.heap.size w w' := by
  obtain ⟨R, hR⟩ : ∃ R, numOf s = R := ⟨_, rfl⟩
  have hR2 := hR
  unfold numOf at hR2
  rw [hR]
  clear hR
  cases hp : Lib.parseIntB 64 s.data.toList with
  | ok v =>
    rw [hp] at hR2
    dsimp only at hR2
    have hbd := Lib.parseIntB_bounds hp
    have cP := hide (fun w => Tryz.strconv_ParseInt_10_at64_ok s (by omega) v hp w)
    have hv0 : -9223372036854775808 ≤ v := hbd.1
    have hv1 : v ≤ 9223372036854775807 := by have := hbd.2; have e : ((2 ^ (64 - 1) : Nat) : Int) = 9223372036854775808 := by decide
                                             omega
    clear hbd hp
    by_cases g0 : v < -999999999
    · rw [if_neg (fun h => by omega)] at hR2
      have g0' : decide (v < -999999999) = true := by simpa using g0
      subst hR2
      clear hG
      go_enter Tryz.func86, Tryz.ntmps86
      go_wp2_with fail
      refine (unhide cP _).mono ?_
      rintro e w2 ⟨rfl, hw2⟩
      have k2 : Below w.heap.size w w2 := by
        rcases hw2 with rfl | ⟨t, rfl⟩
        · exact Below.refl _ _
        · exact bw_below w t
      clear hw2
      go_wp2
      exact bodyPost_ret (v := nv none) (by simp [results, Tryz.results86, go_sem, nv]) rfl ⟨rfl, k2⟩
    have g0' : decide (v < -999999999) = false := by simpa using g0
    by_cases g1 : 999999999 < v
    · rw [if_neg (fun h => by omega)] at hR2
      have g1' : decide (999999999 < v) = true := by simpa using g1
      subst hR2
      clear hG
      go_enter Tryz.func86, Tryz.ntmps86
      go_wp2_with fail
      refine (unhide cP _).mono ?_
      rintro e w2 ⟨rfl, hw2⟩
      have k2 : Below w.heap.size w w2 := by
        rcases hw2 with rfl | ⟨t, rfl⟩
        · exact Below.refl _ _
        · exact bw_below w t
      clear hw2
      go_wp2
      exact bodyPost_ret (v := nv none) (by simp [results, Tryz.results86, go_sem, nv]) rfl ⟨rfl, k2⟩
    have g1' : decide (999999999 < v) = false := by simpa using g1
    have cN := hide (fun w (h : Gv w) => ntext_any v w hv0 hv1 h)
    obtain ⟨n, hn⟩ : ∃ n, nt v = n := ⟨_, rfl⟩
    rw [hn] at cN hR2
    clear hn
    have hG' := hide hG
    by_cases he : n = s
    · rw [if_pos ⟨⟨by omega, by omega⟩, he⟩] at hR2
      have he' : (n.toList == s.toList) = true := by rw [beq_bytes]; simpa using he
      subst hR2
      clear he hG
      go_enter Tryz.func86, Tryz.ntmps86
      go_wp2_with fail
      refine (unhide cP _).mono ?_
      rintro e w2 ⟨rfl, hw2⟩
      have k2 : Below w.heap.size w w2 := by
        rcases hw2 with rfl | ⟨t, rfl⟩
        · exact Below.refl _ _
        · exact bw_below w t
      clear hw2
      go_wp2_with fail
      refine (unhide cN _ ((unhide hG').below k2)).mono ?_
      rintro e w3 ⟨rfl, k3⟩
      have k5 := laterB k2 k3
      clear k2 k3 cN
      go_wp2
      exact bodyPost_ret (v := nv (some v)) (by simp [results, Tryz.results86, go_sem, nv]) rfl ⟨rfl, k5⟩
    · rw [if_neg (fun h => he h.2)] at hR2
      have he' : (n.toList == s.toList) = false := by rw [beq_bytes]; simpa using he
      subst hR2
      clear he hG
      go_enter Tryz.func86, Tryz.ntmps86
      go_wp2_with fail
      refine (unhide cP _).mono ?_
      rintro e w2 ⟨rfl, hw2⟩
      have k2 : Below w.heap.size w w2 := by
        rcases hw2 with rfl | ⟨t, rfl⟩
        · exact Below.refl _ _
        · exact bw_below w t
      clear hw2
      go_wp2_with fail
      refine (unhide cN _ ((unhide hG').below k2)).mono ?_
      rintro e w3 ⟨rfl, k3⟩
      have k5 := laterB k2 k3
      clear k2 k3 cN
      go_wp2
      exact bodyPost_ret (v := nv none) (by simp [results, Tryz.results86, go_sem, nv]) rfl ⟨rfl, k5⟩
  | «syntax» =>
    rw [hp] at hR2
    dsimp only at hR2
    subst hR2
    obtain ⟨⟨t1, p1, h1⟩, t2, p2, h2⟩ := hG.s
    have cP := hide (Tryz.strconv_ParseInt_10_at64_syntax_var s (by omega) hp t1 p1 w h1)
    clear h1 h2 hp hG
    go_enter Tryz.func86, Tryz.ntmps86
    go_wp2_with fail
    refine (unhide cP).mono ?_
    rintro e w2 ⟨N, rfl, _, _, k2⟩
    clear cP
    go_wp2
    exact bodyPost_ret (v := nv none) (by simp [results, Tryz.results86, go_sem, nv]) rfl ⟨rfl, k2⟩
  | range =>
    rw [hp] at hR2
    dsimp only at hR2
    subst hR2
    obtain ⟨⟨t1, p1, h1⟩, t2, p2, h2⟩ := hG.s
    have cP := hide (Tryz.strconv_ParseInt_10_at64_range_var s (by omega) hp t2 p2 w h2)
    clear h1 h2 hp hG
    go_enter Tryz.func86, Tryz.ntmps86
    go_wp2_with fail
    refine (unhide cP).mono ?_
    rintro e w2 ⟨N, rfl, _, _, k2⟩
    clear cP
    go_wp2
    exact bodyPost_ret (v := nv none) (by simp [results, Tryz.results86, go_sem, nv]) rfl ⟨rfl, k2⟩
end Go.Proofs.YtioaehjppiodfaaGreatDoor
