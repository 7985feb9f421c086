/-
  The program's source of a word: its contract.
-/
import Derived.Test.YtfhbmfndjbdhcaaGreatDoorINw
import Derived.Test.YtfhbmfndjbdhcaaGreatDoorLrQ
import Derived.Test.YtfhbmfndjbdhcaaGreatDoorTrk
namespace Go.Proofs.YtfhbmfndjbdhcaaGreatDoor
open Go.RowKit
set_option linter.unusedVariables false
set_option linter.unusedSimpArgs false

/-- the library's two errors lie somewhere -/
def Sent (w : World) : Prop := (∃ tp p, w.var? Tryz.prog "strconv.ErrSyntax" = some #[.iface tp p]) ∧ ∃ tp p, w.var? Tryz.prog "strconv.ErrRange" = some #[.iface tp p]
theorem gSyn : Tryz.prog.globalNamed "strconv.ErrSyntax" = some 3 := by kernel_rfl
theorem gRan : Tryz.prog.globalNamed "strconv.ErrRange" = some 4 := by kernel_rfl
theorem Sent.below {w w' : World} (h : Sent w) (hb : Below w.heap.size w w') : Sent w' := by
  obtain ⟨⟨t1, p1, h1⟩, t2, p2, h2⟩ := h
  exact ⟨⟨t1, p1, Joins.var_stays gSyn h1 hb (Nat.le_refl _)⟩, t2, p2, Joins.var_stays gRan h2 hb (Nat.le_refl _)⟩
theorem bw_below (w : World) (t : ByteArray) : Below w.heap.size w (Lib.bytesWorld w 5 t) :=
  Lib.below_freeze ((Below.drew (Below.refl _ w)).alloc (Nat.le_refl _) _) (p := ⟨w.heap.size, _, none⟩) (Nat.le_refl _) _
theorem trim_src (y : Int) : Lib.trimPrefix (82 :: Pl.dec y.toNat) [82] = Pl.dec y.toNat := by simp [Lib.trimPrefix, Lib.hasPrefix]
theorem src_parse {l : List UInt8} (h : l ≠ [66, 76]) {y : Int} (h0 : 0 ≤ y) (h5 : y ≤ 500) (e : l = srcW y) : 1 ≤ y ∧ Lib.parseIntB 64 (Lib.trimPrefix l [82]) = .ok y := by
  have hy : y ≠ 0 := by intro hz; rw [hz] at e; exact h e
  refine ⟨by omega, ?_⟩
  rw [e]
  unfold srcW
  rw [if_neg hy, trim_src, parse_dec _ (by omega)]
  congr 1
  omega
theorem iword_val (x : Int) (s : ByteArray) (hs : (⟨(srcW x).toArray⟩ : ByteArray) = s) (w : World) (h0 : 0 ≤ x) (h1 : x ≤ 500) (ht : Tab w) :
    Calls Tryz.prog 40 #[.int .i64 x] w fun e w' => e = .returned (.string s) ∧ Below w.heap.size w w' := by subst hs; exact iword_any x w h0 h1 ht

/-- what the source of a word is told as -/
def SrcP (s : ByteArray) (w : World) (e : Ending) (w' : World) : Prop := ∃ x ok, e = .returned (.tuple #[.int .i64 x, .bool ok]) ∧ SrcR s.data.toList x ok ∧ Below w.heap.size w w'
set_option maxRecDepth 100000 in
set_option maxHeartbeats 1000000 in
theorem isource_any (s : ByteArray) (w : World) (hs : s.size ≤ 20000) (ht : Tab w) (hE : Sent w) :
    Calls Tryz.prog 85 #[.string s] w (SrcP s w) := by
  by_cases hBL : s.data.toList = [66, 76]
  · have hb : (s.toList == [66, 76]) = true := by rw [Lib.toList_data, hBL]; rfl
    have hR : SrcR s.data.toList 0 true := .inl ⟨rfl, by omega, by omega, by rw [hBL]; rfl⟩
    have hR' := hide hR
    clear hR hBL ht hE
    go_enter Tryz.func85, Tryz.ntmps85
    go_wp2
    refine bodyPost_ret (v := .tuple #[.int .i64 0, .bool true]) (by simp [results, Tryz.results85, go_sem]) rfl ?_
    exact ⟨0, true, rfl, unhide hR', Below.refl _ _⟩
  · have hb : (s.toList == [66, 76]) = false := by
      rw [Lib.toList_data, beq_eq_false_iff_ne]; exact hBL
    obtain ⟨l9, hl9⟩ : ∃ l9, l9 = Lib.trimPrefix s.data.toList [82] := ⟨_, rfl⟩
    have hlen9 : l9.length ≤ 20000 := by rw [hl9]; have := Lib.trimPrefix_le s.data.toList [82]; rw [← Lib.size_eq] at this; omega
    have cT := hide (fun w => Tryz.strings_TrimPrefix s ⟨#[82]⟩ w)
    have hsp := hide (fun (y : Int) (h0 : 0 ≤ y) (h5 : y ≤ 500) (e : s.data.toList = srcW y) => src_parse hBL h0 h5 e)
    rw [show ((⟨#[82]⟩ : ByteArray).data.toList) = [82] from rfl, ← hl9] at cT
    rw [← hl9] at hsp
    clear hl9 hBL
    have hsz9 : (⟨l9.toArray⟩ : ByteArray).size ≤ 20000 := by rw [Lib.size_eq]; exact hlen9
    cases hp : Lib.parseIntB 64 l9 with
    | ok v =>
      have cP := hide (fun w => Tryz.strconv_ParseInt_10_at64_ok ⟨l9.toArray⟩ (by omega) v hp w)
      by_cases hv : 1 ≤ v ∧ v ≤ 500
      · have hv1 : (decide (1 ≤ v) && decide (v ≤ 500)) = true := by simp [hv]
        obtain ⟨sV, hsV⟩ : ∃ s', (⟨(srcW v).toArray⟩ : ByteArray) = s' := ⟨_, rfl⟩
        have hfin : Hid (if s.toList = sV.toList then SrcR s.data.toList v true else SrcR s.data.toList 0 false) := hide (by
          rw [← hsV, toList_mk, Lib.toList_data]
          split
          · rename_i e; exact .inl ⟨rfl, by omega, hv.2, e⟩
          · rename_i e
            refine .inr ⟨rfl, rfl, fun y h0 h5 e2 => ?_⟩
            have h9 := (unhide hsp y h0 h5 e2).2
            rw [hp] at h9
            injection h9 with h9
            rw [h9] at e
            exact e e2)
        have hsV' := hide hsV
        clear hsV hsp hp
        obtain ⟨hv0, hv5⟩ := hv
        go_enter Tryz.func85, Tryz.ntmps85
        go_wp2_with fail
        refine (unhide cT _).mono ?_
        rintro e w1 ⟨rfl, hw1⟩
        have hw1' := hw1.symm
        subst hw1'
        clear hw1
        go_wp2_with fail
        refine (unhide cP _).mono ?_
        rintro e w2 ⟨rfl, hw2⟩
        have k2 : Below w.heap.size w w2 := by
          rcases hw2 with rfl | ⟨t, rfl⟩
          · exact Below.refl _ _
          · exact bw_below w t
        clear hw2
        go_wp2_with fail
        refine (isrc_any v true w2 hv1).mono ?_
        rintro e w3 ⟨rfl, rfl⟩
        go_wp2_with fail
        refine (iword_val v sV (unhide hsV') _ (by omega) hv5 (ht.below k2)).mono ?_
        rintro e w4 ⟨rfl, k4⟩
        have k5 := laterB k2 k4
        clear k4 k2 ht hE
        by_cases heq : s.toList = sV.toList
        · have hR := unhide hfin
          rw [if_pos heq] at hR
          have hR' := hide hR
          have hbq : (sV.toList == s.toList) = true := by rw [heq]; simp
          clear hR hfin heq
          go_wp2
          refine bodyPost_ret (v := .tuple #[.int .i64 v, .bool true]) (by simp [results, Tryz.results85, go_sem]) rfl ?_
          exact ⟨v, true, rfl, unhide hR', k5⟩
        · have hR := unhide hfin
          rw [if_neg heq] at hR
          have hR' := hide hR
          have hbq : (sV.toList == s.toList) = false := by rw [beq_eq_false_iff_ne]; exact fun e => heq e.symm
          clear hR hfin heq
          go_wp2
          refine bodyPost_ret (v := .tuple #[.int .i64 0, .bool false]) (by simp [results, Tryz.results85, go_sem]) rfl ?_
          exact ⟨0, false, rfl, unhide hR', k5⟩
      · have hv1 : (decide (1 ≤ v) && decide (v ≤ 500)) = false := by
          rw [Bool.and_eq_false_iff]
          by_cases h1 : 1 ≤ v
          · right; simp; omega
          · left; simpa using h1
        have hR' := hide (show SrcR s.data.toList 0 false from .inr ⟨rfl, rfl, fun y h0 h5 e2 => by
          have h9 := unhide hsp y h0 h5 e2
          rw [hp] at h9
          obtain ⟨h8, h9⟩ := h9
          injection h9 with h9
          omega⟩)
        clear hsp hp hv ht hE
        go_enter Tryz.func85, Tryz.ntmps85
        go_wp2_with fail
        refine (unhide cT _).mono ?_
        rintro e w1 ⟨rfl, hw1⟩
        have hw1' := hw1.symm
        subst hw1'
        clear hw1
        go_wp2_with fail
        refine (unhide cP _).mono ?_
        rintro e w2 ⟨rfl, hw2⟩
        have k2 : Below w.heap.size w w2 := by
          rcases hw2 with rfl | ⟨t, rfl⟩
          · exact Below.refl _ _
          · exact bw_below w t
        clear hw2
        go_wp2_with fail
        refine (isrc_any v false w2 hv1).mono ?_
        rintro e w3 ⟨rfl, rfl⟩
        go_wp2
        refine bodyPost_ret (v := .tuple #[.int .i64 0, .bool false]) (by simp [results, Tryz.results85, go_sem]) rfl ?_
        exact ⟨0, false, rfl, unhide hR', k2⟩
    | «syntax» =>
      obtain ⟨tp, pp, hvar⟩ := hE.1
      have cP := hide (Tryz.strconv_ParseInt_10_at64_syntax_var ⟨l9.toArray⟩ (by omega) hp tp pp w hvar)
      have hR' := hide (show SrcR s.data.toList 0 false from .inr ⟨rfl, rfl, fun y h0 h5 e2 => by
        have h9 := (unhide hsp y h0 h5 e2).2
        rw [hp] at h9
        cases h9⟩)
      clear hsp hp ht hE hvar
      go_enter Tryz.func85, Tryz.ntmps85
      go_wp2_with fail
      refine (unhide cT _).mono ?_
      rintro e w1 ⟨rfl, hw1⟩
      have hw1' := hw1.symm
      subst hw1'
      clear hw1
      go_wp2_with fail
      refine (unhide cP).mono ?_
      rintro e w2 ⟨N, rfl, _, _, k2⟩
      go_wp2
      refine bodyPost_ret (v := .tuple #[.int .i64 0, .bool false]) (by simp [results, Tryz.results85, go_sem]) rfl ?_
      exact ⟨0, false, rfl, unhide hR', k2⟩
    | range =>
      obtain ⟨tp, pp, hvar⟩ := hE.2
      have cP := hide (Tryz.strconv_ParseInt_10_at64_range_var ⟨l9.toArray⟩ (by omega) hp tp pp w hvar)
      have hR' := hide (show SrcR s.data.toList 0 false from .inr ⟨rfl, rfl, fun y h0 h5 e2 => by
        have h9 := (unhide hsp y h0 h5 e2).2
        rw [hp] at h9
        cases h9⟩)
      clear hsp hp ht hE hvar
      go_enter Tryz.func85, Tryz.ntmps85
      go_wp2_with fail
      refine (unhide cT _).mono ?_
      rintro e w1 ⟨rfl, hw1⟩
      have hw1' := hw1.symm
      subst hw1'
      clear hw1
      go_wp2_with fail
      refine (unhide cP).mono ?_
      rintro e w2 ⟨N, rfl, _, _, k2⟩
      go_wp2
      refine bodyPost_ret (v := .tuple #[.int .i64 0, .bool false]) (by simp [results, Tryz.results85, go_sem]) rfl ?_
      exact ⟨0, false, rfl, unhide hR', k2⟩

end Go.Proofs.YtfhbmfndjbdhcaaGreatDoor
