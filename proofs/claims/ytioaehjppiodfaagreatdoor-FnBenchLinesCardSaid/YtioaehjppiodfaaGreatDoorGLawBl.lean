/-
  The model's bench where a text has more lines than it may: its contract.
  For every list of bytes the law of the bench by lines answers true, where the library's variables lie as its text lays them.
-/
import Derived.Test.YtioaehjppiodfaaGreatDoorGDbW
import Derived.Test.YtioaehjppiodfaaGreatDoorGDbQ
namespace Go.Proofs.YtioaehjppiodfaaGreatDoor
open Go.RowKit
set_option linter.unusedVariables false
set_option linter.unusedSimpArgs false

/-- the lines that are collected so far -/
def otC (l : List UInt8) (k : Nat) : List (List UInt8) := if k ≤ l.length then (fdC (l.take k)).1 else lnL l
theorem otC_0 (l : List UInt8) : otC l 0 = [] := by
  rw [show otC l 0 = (fdC (l.take 0)).1 from if_pos (Nat.zero_le _)]; rfl
theorem lnL_len (l : List UInt8) : (lnL l).length ≤ l.length + 1 := by
  rw [lnl, List.length_append]
  have h := (fdC_cur l l.length (Nat.le_refl _)).2.2
  rw [List.take_length] at h
  have : (tailC (fdC l).2).length ≤ 1 := by unfold tailC; split <;> simp
  omega
theorem otC_len (l : List UInt8) (k : Nat) : (otC l k).length ≤ l.length + 1 := by
  unfold otC
  split
  · rename_i h
    have := (fdC_cur l k h).2.2
    omega
  · exact lnL_len l

set_option maxRecDepth 100000 in
set_option maxHeartbeats 3200000 in
theorem sbench_any (t : ByteArray) (w : World) (hz : t.size ≤ 20000) (hmany : 200 < (lnL t.data.toList).length) :
    Calls Tryz.prog 12 #[.string t] w fun e w' => e = .returned (.string ⟨#[]⟩) ∧ Below w.heap.size w w' := by
  obtain ⟨l, hl⟩ : ∃ l, t.data.toList = l := ⟨_, rfl⟩
  have hsz : t.size = l.length := by rw [Lib.size_eq, hl]
  have hl' := hide hl
  rw [hl] at hmany
  have b0 := hide (show Below w.heap.size w (w.alloc (.cells #[] 9)) from (Below.refl _ _).alloc (Nat.le_refl _) _)
  have hmany' := hide hmany
  have gz : decide ((20000 : Int) < t.size) = false := by simp; omega
  clear hl hmany
  obtain ⟨gI, hgI0⟩ : ∃ gI, w.heap.size = gI := ⟨_, rfl⟩
  have hgI : w.heap.size ≤ gI := by omega
  have own0 : Hid ((w.alloc (.cells #[] 9)).ownsRow w.heap.size 9 1 (.slice (some ⟨gI, 0, none⟩) 0 0) 0 ((otC l 0).map fun x => Value.string (bsL x))) := hide (by rw [← hgI0, otC_0]; exact World.ownsRow_lit (base := w.heap.size) (e := 9) (size := 1) w #[] 0 (Nat.le_refl _) (by unfold maxLen; omega) rfl)
  go_enter Tryz.func12, Tryz.ntmps12
  go_wp2
  clear hgI0
  go_loopw [3, 4, 5] (fun s f i wr => ∃ (k n g c F : Nat), k ≤ l.length + 1 ∧ i = .int .i64 k ∧ f = .int .i64 F ∧ Hid (n = (otC l k).length) ∧ Hid (k ≤ l.length → F = k - (fdC (l.take k)).2.length) ∧ s = .slice (some ⟨g, 0, none⟩) n c ∧ w.heap.size ≤ g ∧ Hid (wr.ownsRow w.heap.size 9 1 (.slice (some ⟨g, 0, none⟩) n c) n ((otC l k).map fun x => Value.string (bsL x))) ∧ Hid (Below w.heap.size w wr)) (fun _ _ i _ => l.length + 1 - (intOf i).toNat)
  case atStart => exact ⟨0, 0, gI, 0, 0, by omega, rfl, rfl, hide (by rw [otC_0]; rfl), hide (fun _ => rfl), rfl, hgI, own0, b0⟩
  case round =>
    clear own0 b0
    obtain ⟨k, n, g, c, F, hk, rfl, rfl, hn', hF', rfl, hg, ho, hw⟩ := hrel
    have hsz2 := (unhide hw).size
    have q4 : n ≤ 1000000 := by have h1 := otC_len l k; rw [unhide hn']; omega
    by_cases hlt : k < l.length
    · obtain ⟨q1, q2, _⟩ := fdC_cur l k (by omega)
      have hF := unhide hF' (by omega)
      have hb := List.getElem?_eq_getElem hlt
      have hst := fdC_take hb
      have hbt : t[k]! = l[k] := by
        have : l[k] = t.data.toList[k]'(by rw [unhide hl']; exact hlt) := by congr 1; exact (unhide hl').symm
        rw [this]
        have hk2 : k < t.size := by omega
        rw [getElem!_pos t k hk2]
        rfl
      generalize l[k] = x at *
      have g0 : decide ((k : Int) ≤ t.size) = true := by rw [hsz]; simp; omega
      have g1 : decide ((k : Int) < t.size) = true := by rw [hsz]; simp; omega
      have g3 : ((k : Int) == t.size) = false := by rw [hsz, beq_eq_false_iff_ne]; omega
      have hk2 : k < t.size := by omega
      have hbt2 : t[k] = x := by rw [← hbt, getElem!_pos t k hk2]
      have hlen : (fdC (l.take (k + 1))).2.length = if x = 10 then 0 else (fdC (l.take k)).2.length + 1 := by rw [hst]; unfold stC; split <;> simp
      have hext : t.extract F k = bsL (fdC (l.take k)).2 := by
        rw [hF, Ln.ext_str (unhide hl') (by omega), q2]; rfl
      have ho1 : otC l k = (fdC (l.take k)).1 := if_pos (by omega)
      have ho2 : otC l (k + 1) = (fdC (l.take (k + 1))).1 := if_pos (by omega)
      have hnew : Hid (∀ (g' c' : Nat) (w' : World), w'.ownsRow w.heap.size 9 1 (.slice (some ⟨g', 0, none⟩) (n + 1) c') (n + 1) ((otC l k).map (fun x => Value.string (bsL x)) ++ [.string (bsL (fdC (l.take k)).2)]) → x = 10 → w'.ownsRow w.heap.size 9 1 (.slice (some ⟨g', 0, none⟩) (n + 1) c') (n + 1) ((otC l (k + 1)).map fun x => Value.string (bsL x)) ∧ n + 1 = (otC l (k + 1)).length) := hide (fun g' c' w' h1 h2 => by
        rw [ho1] at h1
        rw [ho2, hst]; unfold stC; rw [if_pos h2]; dsimp only; rw [List.map_append]
        exact ⟨h1, by rw [unhide hn', ho1]; simp⟩)
      have hsame : Hid (x ≠ 10 → otC l (k + 1) = otC l k) := hide (fun h2 => by rw [ho1, ho2, hst]; unfold stC; rw [if_neg h2])
      have hlen' := hide hlen
      have hq1 := hide q1
      have hF9 := hide hF
      clear hst hb hlen q2 ho1 ho2 hF hF'
      have hFk : F ≤ k := by have := unhide hF9; omega
      clear q1
      generalize hcur : (fdC (l.take k)).2 = cur at *
      clear hcur
      generalize otC l k = PL at *
      by_cases h10 : x = 10
      · have hcmp : (t[k].toNat : Int) = 10 := by rw [hbt2, h10]; rfl
        go_wp2_with (at_builtin; refine wpList_one Tryz.underlying26 infoS rfl (by decide) _ rfl _ _ rfl w.heap.size n (.slice (some ⟨g, 0, none⟩) n c) (PL.map fun x => Value.string (bsL x)) (.string (bsL cur)) rfl rfl (unhide ho) rfl (by omega) hsz2 ?_)
        intro g' cap' w3 own3 gr3 hg3 hg3' hb3
        obtain ⟨o3, n3⟩ := unhide hnew g' cap' w3 own3 h10
        have o3' := hide o3
        have n3' := hide n3
        have hw3 := hide ((unhide hw).trans hb3)
        clear own3 gr3 hg3 hb3 o3 n3 ho hw hnew
        go_wp2
        go_roundw
        case rel => exact ⟨k + 1, n + 1, g', cap', k + 1, by omega, by go_num, by go_num, n3', hide (fun _ => by rw [unhide hlen', if_pos h10]; omega), rfl, hg3', o3', hw3⟩
        case measure => simp [intOf]; omega
      · have hcmp : ¬ (t[k].toNat : Int) = 10 := by
          rw [hbt2]
          intro h9
          apply h10
          apply UInt8.toNat.inj
          have : x.toNat = 10 := by omega
          rw [this]; rfl
        have hx10 : ¬ (x.toNat : Int) = 10 := by rw [← hbt2]; exact hcmp
        have hc1 : ((x.toNat : Int) == 10) = false := by rw [beq_eq_false_iff_ne]; exact hx10
        have hc2 : ((t[k].toNat : Int) == 10) = false := by rw [beq_eq_false_iff_ne]; exact hcmp
        have hs2 := unhide hsame h10
        clear hcmp hx10
        have ho2 := hide (show wr.ownsRow w.heap.size 9 1 (.slice (some ⟨g, 0, none⟩) n c) n ((otC l (k + 1)).map fun x => Value.string (bsL x)) from by rw [hs2]; exact unhide ho)
        have hn2 := hide (show n = (otC l (k + 1)).length from by rw [hs2]; exact unhide hn')
        clear ho hs2 hnew hn'
        go_wp2
        go_roundw
        case rel => exact ⟨k + 1, n, g, c, F, by omega, by go_num, rfl, hn2, hide (fun _ => by rw [unhide hlen', if_neg h10, unhide hF9]; have := unhide hq1; omega), rfl, hg, ho2, hw⟩
        case measure => simp [intOf]; omega
    by_cases hle : k = l.length
    · subst hle
      obtain ⟨q1, q2, _⟩ := fdC_cur l l.length (Nat.le_refl _)
      have hF := unhide hF' (Nat.le_refl _)
      rw [List.take_length] at q1 q2 hF
      have g0 : decide ((l.length : Int) ≤ t.size) = true := by rw [hsz]; simp
      have g1 : decide ((l.length : Int) < t.size) = false := by rw [hsz]; simp
      have g3 : ((l.length : Int) == t.size) = true := by rw [hsz]; simp
      have hext : t.extract F l.length = bsL (fdC l).2 := by
        rw [hF, Ln.ext_str (unhide hl') (by omega), List.take_length, q2]; rfl
      have ho1 : otC l l.length = (fdC l).1 := by rw [show otC l l.length = (fdC (l.take l.length)).1 from if_pos (Nat.le_refl _), List.take_length]
      have ho2 : otC l (l.length + 1) = lnL l := if_neg (by omega)
      have hnew : Hid (∀ (g' c' : Nat) (w' : World), (fdC l).2 ≠ [] → w'.ownsRow w.heap.size 9 1 (.slice (some ⟨g', 0, none⟩) (n + 1) c') (n + 1) ((otC l l.length).map (fun x => Value.string (bsL x)) ++ [.string (bsL (fdC l).2)]) → w'.ownsRow w.heap.size 9 1 (.slice (some ⟨g', 0, none⟩) (n + 1) c') (n + 1) ((otC l (l.length + 1)).map fun x => Value.string (bsL x)) ∧ n + 1 = (otC l (l.length + 1)).length) := hide (fun g' c' w' h2 h1 => by
        rw [ho1] at h1
        rw [ho2, lnl]
        unfold tailC
        rw [if_neg h2, List.map_append]
        exact ⟨h1, by rw [unhide hn', ho1]; simp⟩)
      have hsame : Hid ((fdC l).2 = [] → otC l (l.length + 1) = otC l l.length) := hide (fun h2 => by
        rw [ho1, ho2, lnl, h2]
        simp [tailC])
      have hFl : F + (fdC l).2.length = l.length := by omega
      clear ho1 ho2 hF hF' q1 q2
      generalize (fdC l).2 = cur at *
      generalize otC l l.length = PL at *
      have hFk : F ≤ l.length := by omega
      have hFl' := hide hFl
      clear hFl
      by_cases hce : cur = []
      · obtain rfl : F = l.length := by have hFl := unhide hFl'; rw [hce] at hFl; simpa using hFl
        have hs2 := unhide hsame hce
        have ho2 := hide (show wr.ownsRow w.heap.size 9 1 (.slice (some ⟨g, 0, none⟩) n c) n ((otC l (l.length + 1)).map fun x => Value.string (bsL x)) from by rw [hs2]; exact unhide ho)
        have hn2 := hide (show n = (otC l (l.length + 1)).length from by rw [hs2]; exact unhide hn')
        clear ho hs2 hnew hn'
        go_wp2
        go_roundw
        case rel => exact ⟨l.length + 1, n, g, c, l.length, by omega, by go_num, rfl, hn2, hide (fun h => by omega), rfl, hg, ho2, hw⟩
        case measure => simp [intOf]
      · have hcl : 0 < cur.length := List.length_pos_iff.2 hce
        have g4 : decide ((F : Int) < t.size) = true := by rw [hsz]; have hFl := unhide hFl'; simp; omega
        have hFlt : F < l.length := by have hFl := unhide hFl'; omega
        have g5 : decide (F < l.length) = true := by simpa using hFlt
        go_wp2_with (at_builtin; refine wpList_one Tryz.underlying26 infoS rfl (by decide) _ rfl _ _ rfl w.heap.size n (.slice (some ⟨g, 0, none⟩) n c) (PL.map fun x => Value.string (bsL x)) (.string (bsL cur)) rfl rfl (unhide ho) rfl (by omega) hsz2 ?_)
        intro g' cap' w3 own3 gr3 hg3 hg3' hb3
        obtain ⟨o3, n3⟩ := unhide hnew g' cap' w3 hce own3
        have o3' := hide o3
        have n3' := hide n3
        have hw3 := hide ((unhide hw).trans hb3)
        clear own3 gr3 hg3 hb3 o3 n3 ho hw hnew
        go_wp2
        go_roundw
        case rel => exact ⟨l.length + 1, n + 1, g', cap', l.length + 1, by omega, by go_num, by go_num, n3', hide (fun h => by omega), rfl, hg3', o3', hw3⟩
        case measure => simp [intOf]
    · obtain rfl : k = l.length + 1 := by omega
      have g0 : decide (((l.length + 1 : Nat) : Int) ≤ t.size) = false := by rw [hsz]; exact decide_eq_false (by omega)
      have g0' : decide ((l.length : Int) + 1 ≤ t.size) = false := by rw [hsz]; exact decide_eq_false (by omega)
      have ho2 : otC l (l.length + 1) = lnL l := if_neg (by omega)
      have hn2 : n = (lnL l).length := by have := unhide hn'; rw [ho2] at this; exact this
      have own2 : Hid (wr.ownsRow w.heap.size 9 1 (.slice (some ⟨g, 0, none⟩) (lnL l).length c) (lnL l).length ((lnL l).map fun x => Value.string (bsL x))) := by
        have := unhide ho
        rw [ho2, hn2] at this
        exact hide this
      subst hn2
      clear ho hn' hF' ho2
      have hm2 := unhide hmany'
      have g5 : decide ((200 : Int) < ((lnL l).length : Int)) = true := by simp; omega
      go_wp2
      go_ret
      exact ⟨rfl, unhide hw⟩
end Go.Proofs.YtioaehjppiodfaaGreatDoor

namespace Go.Proofs.YtioaehjppiodfaaGreatDoor
open Go.RowKit
set_option linter.unusedVariables false
set_option linter.unusedSimpArgs false

/-- how many lines have a byte -/
def cnW (L : List (List UInt8)) : Nat := (L.filter (· ≠ [])).length
theorem cnW_snoc {L : List (List UInt8)} {j : Nat} {x : List UInt8} (h : L[j]? = some x) : cnW (L.take (j + 1)) = if x = [] then cnW (L.take j) else cnW (L.take j) + 1 := by
  unfold cnW
  rw [List.take_add_one, h]
  by_cases hx : x = []
  · rw [if_pos hx]; simp [hx]
  · rw [if_neg hx]; simp [hx]
theorem cnW_le (L : List (List UInt8)) : cnW L ≤ L.length := List.length_filter_le _ _
theorem flat_snoc {L : List (List UInt8)} {j : Nat} {x : List UInt8} (h : L[j]? = some x) : flat (L.take (j + 1)) = flat (L.take j) ++ (x ++ [10]) := by
  rw [List.take_add_one, h, flat_append]
  simp [flat]
theorem bsL_app (a b : List UInt8) : bsL (a ++ b) = bsL a ++ bsL b := (mk_app a b).symm
theorem bsL_size (a : List UInt8) : (bsL a).size = a.length := by show a.toArray.size = _; simp
theorem empty_no {x : List UInt8} (h : x ≠ []) : (bsL x).toList.isEmpty = false := by
  rw [Lib.toList_data]
  cases x with
  | nil => exact absurd rfl h
  | cons b x => rfl
theorem ext_prefix {a b : List UInt8} (h : a <+: b) : (bsL b).extract 0 (bsL a).size = bsL a := by
  rw [Ln.ext_str (l := b) (by simp [bsL]) (Nat.zero_le _), bsL_size]
  obtain ⟨r, rfl⟩ := h
  simp [bsL]
theorem undo_len (L : List (List UInt8)) (m : Nat) : (flat (L ++ List.replicate m undoL)).length = (flat L).length + 5 * m := by
  rw [flat_append, List.length_append]
  congr 1
  induction m with
  | zero => rfl
  | succ m ih => rw [List.replicate_succ, flat_cons, List.length_append, List.length_cons, ih]; show 4 + (5 * m + 1) = _; omega

set_option maxRecDepth 100000 in
set_option maxHeartbeats 12800000 in
theorem lawBl (ad : Option Addr) (cap : Nat) (zs : List Int) (W : World) (hm0 : zs.length ≤ maxLen) (hz0 : ad = none → cap = 0) (hr : Row false 0 W.heap.size W ad zs) (hG : Gv W) :
    Calls Tryz.prog 4 #[.slice ad zs.length cap] W fun e w' => e = .returned (.bool true) ∧ Below W.heap.size W w' := by
  have hB0 := hide (big_any ad zs.length cap W hm0)
  have hr' := hide hr
  have hG' := hide hG
  clear hr hz0 hG
  by_cases hbig : 4096 < zs.length
  · rw [decide_eq_true hbig] at hB0
    clear hr'
    generalize zs.length = len at *
    go_enter Tryz.func4, Tryz.ntmps4
    go_wp2_with fail
    refine (unhide hB0).mono ?_
    rintro e w0 ⟨rfl, rfl⟩
    clear hB0
    go_wp2
    go_ret
    exact ⟨rfl, Below.refl _ _⟩
  rw [decide_eq_false hbig] at hB0
  have hD := hide (dbench_any ad cap zs W (by omega) (unhide hr'))
  clear hr' hbig
  generalize zs.length = len at *
  go_enter Tryz.func4, Tryz.ntmps4
  go_wp2_with fail
  refine (unhide hB0).mono ?_
  rintro e w0 ⟨rfl, hw0⟩
  have hw1 := hw0.symm
  subst hw1
  clear hB0
  go_wp2_with fail
  refine (unhide hD).mono ?_
  rintro e w1 ⟨t, rfl, htx, b1⟩
  obtain ⟨l, hl⟩ : ∃ l, t.data.toList = l := ⟨_, rfl⟩
  have hsz : t.size = l.length := by rw [Lib.size_eq, hl]
  rw [hl] at htx
  have hz : t.size ≤ 20000 := by rw [hsz]; exact htx.1
  have hBt := hide (bench_any t w1 (by omega) ((unhide hG').below b1))
  rw [hl] at hBt
  have hBt2 : Hid (Calls Tryz.prog 10 #[.string t] w1 fun e w' => e = .returned (.string (bsL (benchL l))) ∧ Below w1.heap.size w1 w') := hBt
  have B1 := hide b1
  have htx' := hide htx
  have hl' := hide hl
  clear b1 htx hBt hD hl
  go_wp2_with fail
  refine (unhide hBt2).mono ?_
  rintro e w2 ⟨rfl, b2⟩
  have B2 := hide (laterB (unhide B1) b2)
  clear b2 B1 hBt2
  by_cases h4 : 4000 < l.length
  · have hcn := (unhide htx').2 h4
    have hmn : 200 < (lnL l).length := Nat.lt_of_lt_of_le hcn (count_lnL l)
    have hbe := bench_many hmn
    have hSb := hide (sbench_any t w2 hz (by rw [unhide hl']; exact hmn))
    have g4 : decide ((4000 : Int) < t.size) = true := by rw [hsz]; simp; omega
    have g4n : decide ((4000 : Int) < (l.length : Int)) = true := by simp; omega
    rw [hbe, show bsL [] = (⟨#[]⟩ : ByteArray) from rfl]
    clear hcn hmn hbe htx'
    go_wp2_with fail
    refine (unhide hSb).mono ?_
    rintro e w3 ⟨rfl, b3⟩
    have B3 := hide (laterB (unhide B2) b3)
    clear b3 B2 hSb
    go_wp2
    go_ret
    exact ⟨rfl, unhide B3⟩
  have h4k := hide (show l.length ≤ 4000 by omega)
  have g4 : decide ((4000 : Int) < t.size) = false := by rw [hsz]; simp; omega
  have g4n : decide ((4000 : Int) < (l.length : Int)) = false := by simp; omega
  have g4m : decide (4000 < l.length) = false := by simp; omega
  have h4' : l.length ≤ 4000 := by omega
  clear h4 htx'
  have hs2 := (unhide B2).size
  have b0 := hide ((unhide B2).alloc hs2 (.cells #[] 9))
  obtain ⟨gI, hgI0⟩ : ∃ gI, w2.heap.size = gI := ⟨_, rfl⟩
  have hgI : W.heap.size ≤ gI := by omega
  have own0 : Hid ((w2.alloc (.cells #[] 9)).ownsRow W.heap.size 9 1 (.slice (some ⟨gI, 0, none⟩) 0 0) 0 ((otC l 0).map fun x => Value.string (bsL x))) := hide (by rw [← hgI0, otC_0]; exact World.ownsRow_lit (base := W.heap.size) (e := 9) (size := 1) w2 #[] 0 hs2 (by unfold maxLen; omega) rfl)
  clear B2
  go_wp2
  clear hgI0 hs2
  go_loopw [5, 6, 7] (fun s f i wr => ∃ (k n g c F : Nat), k ≤ l.length + 1 ∧ i = .int .i64 k ∧ f = .int .i64 F ∧ Hid (n = (otC l k).length) ∧ Hid (k ≤ l.length → F = k - (fdC (l.take k)).2.length) ∧ s = .slice (some ⟨g, 0, none⟩) n c ∧ W.heap.size ≤ g ∧ Hid (wr.ownsRow W.heap.size 9 1 (.slice (some ⟨g, 0, none⟩) n c) n ((otC l k).map fun x => Value.string (bsL x))) ∧ Hid (Below W.heap.size W wr)) (fun _ _ i _ => l.length + 1 - (intOf i).toNat)
  case atStart => exact ⟨0, 0, gI, 0, 0, by omega, rfl, rfl, hide (by rw [otC_0]; rfl), hide (fun _ => rfl), rfl, hgI, own0, b0⟩
  case round =>
    clear own0 b0
    obtain ⟨k, n, g, c, F, hk, rfl, rfl, hn', hF', rfl, hg, ho, hw⟩ := hrel
    have hsz2 := (unhide hw).size
    have q4 : n ≤ 1000000 := by have h1 := otC_len l k; rw [unhide hn']; omega
    by_cases hlt : k < l.length
    · obtain ⟨q1, q2, _⟩ := fdC_cur l k (by omega)
      have hF := unhide hF' (by omega)
      have hb := List.getElem?_eq_getElem hlt
      have hst := fdC_take hb
      have hbt : t[k]! = l[k] := by
        have : l[k] = t.data.toList[k]'(by rw [unhide hl']; exact hlt) := by congr 1; exact (unhide hl').symm
        rw [this]
        have hk2 : k < t.size := by omega
        rw [getElem!_pos t k hk2]
        rfl
      generalize l[k] = x at *
      have g0 : decide ((k : Int) ≤ t.size) = true := by rw [hsz]; simp; omega
      have g1 : decide ((k : Int) < t.size) = true := by rw [hsz]; simp; omega
      have g3 : ((k : Int) == t.size) = false := by rw [hsz, beq_eq_false_iff_ne]; omega
      have hk2 : k < t.size := by omega
      have hbt2 : t[k] = x := by rw [← hbt, getElem!_pos t k hk2]
      have hlen : (fdC (l.take (k + 1))).2.length = if x = 10 then 0 else (fdC (l.take k)).2.length + 1 := by rw [hst]; unfold stC; split <;> simp
      have hext : t.extract F k = bsL (fdC (l.take k)).2 := by
        rw [hF, Ln.ext_str (unhide hl') (by omega), q2]; rfl
      have ho1 : otC l k = (fdC (l.take k)).1 := if_pos (by omega)
      have ho2 : otC l (k + 1) = (fdC (l.take (k + 1))).1 := if_pos (by omega)
      have hnew : Hid (∀ (g' c' : Nat) (w' : World), w'.ownsRow W.heap.size 9 1 (.slice (some ⟨g', 0, none⟩) (n + 1) c') (n + 1) ((otC l k).map (fun x => Value.string (bsL x)) ++ [.string (bsL (fdC (l.take k)).2)]) → x = 10 → w'.ownsRow W.heap.size 9 1 (.slice (some ⟨g', 0, none⟩) (n + 1) c') (n + 1) ((otC l (k + 1)).map fun x => Value.string (bsL x)) ∧ n + 1 = (otC l (k + 1)).length) := hide (fun g' c' w' h1 h2 => by
        rw [ho1] at h1
        rw [ho2, hst]; unfold stC; rw [if_pos h2]; dsimp only; rw [List.map_append]
        exact ⟨h1, by rw [unhide hn', ho1]; simp⟩)
      have hsame : Hid (x ≠ 10 → otC l (k + 1) = otC l k) := hide (fun h2 => by rw [ho1, ho2, hst]; unfold stC; rw [if_neg h2])
      have hlen' := hide hlen
      have hq1 := hide q1
      have hF9 := hide hF
      clear hst hb hlen q2 ho1 ho2 hF hF'
      have hFk : F ≤ k := by have := unhide hF9; omega
      clear q1
      generalize hcur : (fdC (l.take k)).2 = cur at *
      clear hcur
      generalize otC l k = PL at *
      by_cases h10 : x = 10
      · have hcmp : (t[k].toNat : Int) = 10 := by rw [hbt2, h10]; rfl
        go_wp2_with (at_builtin; refine wpList_one Tryz.underlying26 infoS rfl (by decide) _ rfl _ _ rfl W.heap.size n (.slice (some ⟨g, 0, none⟩) n c) (PL.map fun x => Value.string (bsL x)) (.string (bsL cur)) rfl rfl (unhide ho) rfl (by omega) hsz2 ?_)
        intro g' cap' w3 own3 gr3 hg3 hg3' hb3
        obtain ⟨o3, n3⟩ := unhide hnew g' cap' w3 own3 h10
        have o3' := hide o3
        have n3' := hide n3
        have hw3 := hide ((unhide hw).trans hb3)
        clear own3 gr3 hg3 hb3 o3 n3 ho hw hnew
        go_wp2
        go_roundw
        case rel => exact ⟨k + 1, n + 1, g', cap', k + 1, by omega, by go_num, by go_num, n3', hide (fun _ => by rw [unhide hlen', if_pos h10]; omega), rfl, hg3', o3', hw3⟩
        case measure => simp [intOf]; omega
      · have hcmp : ¬ (t[k].toNat : Int) = 10 := by
          rw [hbt2]
          intro h9
          apply h10
          apply UInt8.toNat.inj
          have : x.toNat = 10 := by omega
          rw [this]; rfl
        have hx10 : ¬ (x.toNat : Int) = 10 := by rw [← hbt2]; exact hcmp
        have hc1 : ((x.toNat : Int) == 10) = false := by rw [beq_eq_false_iff_ne]; exact hx10
        have hc2 : ((t[k].toNat : Int) == 10) = false := by rw [beq_eq_false_iff_ne]; exact hcmp
        have hs2 := unhide hsame h10
        clear hcmp hx10
        have ho2 := hide (show wr.ownsRow W.heap.size 9 1 (.slice (some ⟨g, 0, none⟩) n c) n ((otC l (k + 1)).map fun x => Value.string (bsL x)) from by rw [hs2]; exact unhide ho)
        have hn2 := hide (show n = (otC l (k + 1)).length from by rw [hs2]; exact unhide hn')
        clear ho hs2 hnew hn'
        go_wp2
        go_roundw
        case rel => exact ⟨k + 1, n, g, c, F, by omega, by go_num, rfl, hn2, hide (fun _ => by rw [unhide hlen', if_neg h10, unhide hF9]; have := unhide hq1; omega), rfl, hg, ho2, hw⟩
        case measure => simp [intOf]; omega
    by_cases hle : k = l.length
    · subst hle
      obtain ⟨q1, q2, _⟩ := fdC_cur l l.length (Nat.le_refl _)
      have hF := unhide hF' (Nat.le_refl _)
      rw [List.take_length] at q1 q2 hF
      have g0 : decide ((l.length : Int) ≤ t.size) = true := by rw [hsz]; simp
      have g1 : decide ((l.length : Int) < t.size) = false := by rw [hsz]; simp
      have g3 : ((l.length : Int) == t.size) = true := by rw [hsz]; simp
      have hext : t.extract F l.length = bsL (fdC l).2 := by
        rw [hF, Ln.ext_str (unhide hl') (by omega), List.take_length, q2]; rfl
      have ho1 : otC l l.length = (fdC l).1 := by rw [show otC l l.length = (fdC (l.take l.length)).1 from if_pos (Nat.le_refl _), List.take_length]
      have ho2 : otC l (l.length + 1) = lnL l := if_neg (by omega)
      have hnew : Hid (∀ (g' c' : Nat) (w' : World), (fdC l).2 ≠ [] → w'.ownsRow W.heap.size 9 1 (.slice (some ⟨g', 0, none⟩) (n + 1) c') (n + 1) ((otC l l.length).map (fun x => Value.string (bsL x)) ++ [.string (bsL (fdC l).2)]) → w'.ownsRow W.heap.size 9 1 (.slice (some ⟨g', 0, none⟩) (n + 1) c') (n + 1) ((otC l (l.length + 1)).map fun x => Value.string (bsL x)) ∧ n + 1 = (otC l (l.length + 1)).length) := hide (fun g' c' w' h2 h1 => by
        rw [ho1] at h1
        rw [ho2, lnl]
        unfold tailC
        rw [if_neg h2, List.map_append]
        exact ⟨h1, by rw [unhide hn', ho1]; simp⟩)
      have hsame : Hid ((fdC l).2 = [] → otC l (l.length + 1) = otC l l.length) := hide (fun h2 => by
        rw [ho1, ho2, lnl, h2]
        simp [tailC])
      have hFl : F + (fdC l).2.length = l.length := by omega
      clear ho1 ho2 hF hF' q1 q2
      generalize (fdC l).2 = cur at *
      generalize otC l l.length = PL at *
      have hFk : F ≤ l.length := by omega
      have hFl' := hide hFl
      clear hFl
      by_cases hce : cur = []
      · obtain rfl : F = l.length := by have hFl := unhide hFl'; rw [hce] at hFl; simpa using hFl
        have hs2 := unhide hsame hce
        have ho2 := hide (show wr.ownsRow W.heap.size 9 1 (.slice (some ⟨g, 0, none⟩) n c) n ((otC l (l.length + 1)).map fun x => Value.string (bsL x)) from by rw [hs2]; exact unhide ho)
        have hn2 := hide (show n = (otC l (l.length + 1)).length from by rw [hs2]; exact unhide hn')
        clear ho hs2 hnew hn'
        go_wp2
        go_roundw
        case rel => exact ⟨l.length + 1, n, g, c, l.length, by omega, by go_num, rfl, hn2, hide (fun h => by omega), rfl, hg, ho2, hw⟩
        case measure => simp [intOf]
      · have hcl : 0 < cur.length := List.length_pos_iff.2 hce
        have g4 : decide ((F : Int) < t.size) = true := by rw [hsz]; have hFl := unhide hFl'; simp; omega
        have hFlt : F < l.length := by have hFl := unhide hFl'; omega
        have g5 : decide (F < l.length) = true := by simpa using hFlt
        go_wp2_with (at_builtin; refine wpList_one Tryz.underlying26 infoS rfl (by decide) _ rfl _ _ rfl W.heap.size n (.slice (some ⟨g, 0, none⟩) n c) (PL.map fun x => Value.string (bsL x)) (.string (bsL cur)) rfl rfl (unhide ho) rfl (by omega) hsz2 ?_)
        intro g' cap' w3 own3 gr3 hg3 hg3' hb3
        obtain ⟨o3, n3⟩ := unhide hnew g' cap' w3 hce own3
        have o3' := hide o3
        have n3' := hide n3
        have hw3 := hide ((unhide hw).trans hb3)
        clear own3 gr3 hg3 hb3 o3 n3 ho hw hnew
        go_wp2
        go_roundw
        case rel => exact ⟨l.length + 1, n + 1, g', cap', l.length + 1, by omega, by go_num, by go_num, n3', hide (fun h => by omega), rfl, hg3', o3', hw3⟩
        case measure => simp [intOf]
    · obtain rfl : k = l.length + 1 := by omega
      have g0 : decide (((l.length + 1 : Nat) : Int) ≤ t.size) = false := by rw [hsz]; exact decide_eq_false (by omega)
      have g0' : decide ((l.length : Int) + 1 ≤ t.size) = false := by rw [hsz]; exact decide_eq_false (by omega)
      have ho2 : otC l (l.length + 1) = lnL l := if_neg (by omega)
      have hn2 : n = (lnL l).length := by have := unhide hn'; rw [ho2] at this; exact this
      have own2 : Hid (wr.ownsRow W.heap.size 9 1 (.slice (some ⟨g, 0, none⟩) (lnL l).length c) (lnL l).length ((lnL l).map fun x => Value.string (bsL x))) := by
        have := unhide ho
        rw [ho2, hn2] at this
        exact hide this
      subst hn2
      clear ho hn' hF' ho2
      have hcell := hide (fun (j : Nat) (x : List UInt8) (hx : (lnL l)[j]? = some x) => (show wr.cell? ⟨g, j, none⟩ = some (.string (bsL x)) from by
        have hj := (List.getElem?_eq_some_iff.1 hx).1
        have := (unhide own2).cellAt j (by omega)
        rw [this, List.getElem?_map, hx]
        rfl))
      have hcap := own_capV (unhide own2)
      have hgl := own_lt (unhide own2)
      clear own2
      have hLn := lnL_len l
      have hfl := flat_lnL_len l
      have hno := hide (lnL_no10 l)
      have hO2 := hide (fun (h : 200 < (lnL l).length) => bench_many (t := l) h)
      have hhalf := hide (fun (h : (lnL l).length ≤ 200) => bench_half (l := l) (by have := unhide h4k; omega) h ((lnL l).length / 2))
      have hcount := hide (fun (h : (lnL l).length ≤ 200) => bench_count (l := l) (by have := unhide h4k; omega) h)
      have hall := hide (fun (h : (lnL l).length ≤ 60) => all_lines (l := l) (by have := unhide h4k; omega) h)
      have hallen := hide (fun (h : (lnL l).length ≤ 60) => all_flat_len (l := l) (by have := unhide h4k; omega) h)
      have hBn9 := hide (fun (X : List UInt8) (w : World) (hX : X.length ≤ 20000) (h : Gv w) => (show Calls Tryz.prog 10 #[.string (bsL X)] w fun e w' => e = .returned (.string (bsL (benchL X))) ∧ Below w.heap.size w w' from by
        have := bench_any (bsL X) w (by show X.toArray.size ≤ _; simp; omega) h
        rw [show (bsL X).data.toList = X by simp [bsL]] at this
        exact this))
      have hLn9 := hide (fun (X : List UInt8) (w : World) (hX : X.length ≤ 14000200) (hc : (linesC X).length ≤ 1000000) => (show Calls Tryz.prog 9 #[.string (bsL X)] w fun e w' => ∃ g c, e = .returned (.slice (some ⟨g, 0, none⟩) (linesC X).length c) ∧ w.heap.size ≤ g ∧ w'.ownsRow w.heap.size 9 1 (.slice (some ⟨g, 0, none⟩) (linesC X).length c) (linesC X).length ((linesC X).map fun x => Value.string (bsL x)) ∧ Below w.heap.size w w' from by
        have e : (bsL X).data.toList = X := by simp [bsL]
        have := lines9_any (bsL X) w (by rw [Lib.size_eq, e]; omega) (by rw [e]; exact hc)
        rw [e] at this
        exact this))
      generalize lnL l = L at *
      by_cases hmany : 200 < L.length
      · have hO3 := unhide hO2 hmany
        have g5 : decide ((200 : Int) < (L.length : Int)) = true := by simp; omega
        rw [hO3, show bsL [] = (⟨#[]⟩ : ByteArray) from rfl]
        go_wp2
        go_ret
        exact ⟨rfl, unhide hw⟩
      have h200 : L.length ≤ 200 := by omega
      have g5 : decide ((200 : Int) < (L.length : Int)) = false := by simp; omega
      have hh1 := hide (unhide hhalf h200)
      have hc1 := hide (unhide hcount h200)
      have hO9 := benchL_len l
      clear hmany hO2 hhalf hcount
      go_wp2
      go_loop [8, 9, 10] (fun a b i => ∃ j : Nat, j ≤ L.length ∧ i = .int .i64 j ∧ a = .int .i64 (cnW (L.take j)) ∧ b = .string (bsL (flat (L.take (min j (L.length / 2)))))) (fun _ _ i => L.length - (intOf i).toNat)
      case atStart => exact ⟨0, by omega, rfl, rfl, by simp [flat, bsL]⟩
      case round =>
        obtain ⟨j, hj, rfl, rfl, rfl⟩ := hrel
        by_cases hjl : j < L.length
        · obtain ⟨x, hx⟩ : ∃ x, L[j]? = some x := ⟨L[j], List.getElem?_eq_getElem hjl⟩
          have hc := unhide hcell j x hx
          have q1 : decide ((j : Int) < (L.length : Int)) = true := by simp; omega
          have hjl' : (j : Int) < L.length := by omega
          have hcs := cnW_snoc hx
          have hcb := cnW_le (L.take j)
          have hcl2 : (L.take j).length ≤ 200 := by rw [List.length_take]; omega
          have hfx := flat_snoc hx
          have hflx : (flat (L.take (j + 1))).length ≤ l.length + 1 := Nat.le_trans (flat_take_len L (j + 1)) hfl
          have hd2 : ((L.length : Int)).tdiv 2 = ((L.length / 2 : Nat) : Int) := by rw [Int.tdiv_eq_ediv_of_nonneg (by omega)]; omega
          have hdw : IntKind.i64.wrap (((L.length : Int)).tdiv 2) = ((L.length / 2 : Nat) : Int) := by rw [hd2, IntKind.wrap_i64]; omega
          have hcs' := hide hcs
          have hfx' := hide hfx
          obtain ⟨cn, hcn⟩ : ∃ cn, cnW (L.take j) = cn := ⟨_, rfl⟩
          rw [hcn] at hcb hcs' ⊢
          have hcn' := hide hcn
          clear hcs hfx hx hcn hcell
          have hdiv : (L.length : Int) / 2 = ((L.length / 2 : Nat) : Int) := by omega
          obtain ⟨hf, hhf⟩ : ∃ hf, L.length / 2 = hf := ⟨_, rfl⟩
          rw [hhf] at hd2 hdw hdiv ⊢
          have hhf' := hide hhf
          clear hhf
          by_cases hlo : j < hf
          · have q2 : decide ((j : Int) < (hf : Int)) = true := by simp; omega
            have q2n : decide (j < hf) = true := by simpa using hlo
            have hmj : min j hf = j := by omega
            have hmj2 : Hid (min (j + 1) hf = j + 1) := hide (by omega)
            rw [hmj]
            obtain ⟨P0, eP0⟩ : ∃ P : ByteArray, bsL (flat (L.take j)) = P := ⟨_, rfl⟩
            obtain ⟨X9, eX9⟩ : ∃ P : ByteArray, bsL x = P := ⟨_, rfl⟩
            obtain ⟨P1, eP1⟩ : ∃ P : ByteArray, P0 ++ X9 = P := ⟨_, rfl⟩
            obtain ⟨P2, eP2⟩ : ∃ P : ByteArray, P1 ++ ⟨#[10]⟩ = P := ⟨_, rfl⟩
            have hP2 : P2 = bsL (flat (L.take (j + 1))) := by rw [← eP2, ← eP1, ← eP0, ← eX9, unhide hfx', bsL_app, bsL_app, show (⟨#[10]⟩ : ByteArray) = bsL [10] from rfl, ByteArray.append_assoc]
            have z2 : P2.size ≤ 20000 := by rw [hP2, bsL_size]; have := unhide h4k; omega
            have z1 : P1.size ≤ 20000 := by rw [← eP2, size_app] at z2; omega
            have z0 : P0.size + X9.size ≤ 20000 := by rw [← eP1, size_app] at z1; omega
            have PP1 := fun w => add_run eP1 (by omega) w
            have PP2 := fun w => add_run eP2 (by show P1.size + 1 ≤ _; omega) w
            have hP2' := hide hP2
            rw [eP0]
            rw [eX9] at hc
            clear eP0 eP1 eP2 hP2 z0 z1 z2 hmj
            by_cases hxe : x = []
            · have hXe : X9 = ⟨#[]⟩ := by rw [← eX9, hxe]; rfl
              subst hXe
              go_wp2
              go_round
              case rel => exact ⟨j + 1, by omega, by go_num, by rw [unhide hcs', if_pos hxe], by rw [unhide hmj2, unhide hP2']⟩
              case measure => simp [intOf]; omega
            · have hXe := empty_no hxe
              rw [eX9] at hXe
              go_wp2
              go_round
              case rel => exact ⟨j + 1, by omega, by go_num, by rw [unhide hcs', if_neg hxe]; go_num, by rw [unhide hmj2, unhide hP2']⟩
              case measure => simp [intOf]; omega
          · have q2 : decide ((j : Int) < (hf : Int)) = false := by simp; omega
            have q2n : decide (j < hf) = false := by simpa using hlo
            have hlo' : hf ≤ j := by omega
            have hmj : min j hf = hf := by omega
            have hmj2 : Hid (min (j + 1) hf = hf) := hide (by omega)
            rw [hmj]
            clear hlo hmj
            obtain ⟨P0, eP0⟩ : ∃ P : ByteArray, bsL (flat (L.take hf)) = P := ⟨_, rfl⟩
            obtain ⟨X9, eX9⟩ : ∃ P : ByteArray, bsL x = P := ⟨_, rfl⟩
            have eP0' := hide eP0
            rw [eP0]
            rw [eX9] at hc
            clear eP0
            by_cases hxe : x = []
            · have hXe : X9 = ⟨#[]⟩ := by rw [← eX9, hxe]; rfl
              subst hXe
              go_wp2
              go_round
              case rel => exact ⟨j + 1, by omega, by go_num, by rw [unhide hcs', if_pos hxe], by rw [unhide hmj2, unhide eP0']⟩
              case measure => simp [intOf]; omega
            · have hXe := empty_no hxe
              rw [eX9] at hXe
              go_wp2
              go_round
              case rel => exact ⟨j + 1, by omega, by go_num, by rw [unhide hcs', if_neg hxe]; go_num, by rw [unhide hmj2, unhide eP0']⟩
              case measure => simp [intOf]; omega
        · obtain rfl : j = L.length := by omega
          have hmj : min L.length (L.length / 2) = L.length / 2 := by omega
          rw [hmj, List.take_length]
          have hpl : (flat (L.take (L.length / 2))).length ≤ 20000 := by have := flat_take_len L (L.length / 2); have := unhide h4k; omega
          generalize flat (L.take (L.length / 2)) = PT at *
          have hB2 := hide (unhide hBn9 PT wr hpl ((unhide hG').below (unhide hw)))
          have hPf := unhide hh1
          have hOc := unhide hc1
          have hOl : (linesC (benchL l)).length ≤ 1000000 := by rw [hOc]; have := List.length_filter_le (fun x => decide (x ≠ ([] : List UInt8))) L; omega
          have hL2 := hide (fun w => unhide hLn9 (benchL l) w hO9 hOl)
          have hcnt : (linesC (benchL l)).length = cnW L := hOc
          rw [hcnt] at hL2
          have hszH : (bsL (benchL PT)).size ≤ (bsL (benchL l)).size := by rw [bsL_size, bsL_size]; exact hPf.length_le
          have hexH : (bsL (benchL l)).extract 0 (bsL (benchL PT)).size = bsL (benchL PT) := ext_prefix hPf
          have hcb := cnW_le L
          have hO14 : (bsL (benchL l)).size ≤ 14000200 := by rw [bsL_size]; exact hO9
          clear hh1 hc1 hPf hOc hOl hcnt hmj hpl hO9
          generalize bsL (benchL PT) = HB at *
          generalize bsL (benchL l) = OB at *
          generalize cnW L = CN at *
          go_wp2_with fail
          refine (unhide hB2).mono ?_
          rintro e wh ⟨rfl, bh⟩
          have Bh := hide (laterB (unhide hw) bh)
          have hcellh := hide (fun (j : Nat) (x : List UInt8) (hx : L[j]? = some x) => cell_later bh (unhide hcell j x hx))
          clear bh hB2 hcell hw
          go_wp2_with fail
          refine (unhide hL2 _).mono ?_
          rintro e wi ⟨gi, ci, rfl, hgi, owni, bi⟩
          have Bi := hide (laterB (unhide Bh) bi)
          have hcelli := hide (fun (j : Nat) (x : List UInt8) (hx : L[j]? = some x) => cell_later bi (unhide hcellh j x hx))
          have q6 : decide ((OB.size : Int) < (HB.size : Int)) = false := by simp; omega
          have q6n : decide (OB.size < HB.size) = false := by simp; omega
          have q7 : (HB.size : Int) ≤ OB.size := by omega
          clear owni bi hL2 hcellh Bh
          by_cases h60 : 60 < L.length
          · have q8 : decide ((60 : Int) < (L.length : Int)) = true := by simp; omega
            go_wp2
            go_ret
            exact ⟨rfl, unhide Bi⟩
          have h60' : L.length ≤ 60 := by omega
          have q8 : decide ((60 : Int) < (L.length : Int)) = false := by simp; omega
          obtain ⟨ys, hys, hyl⟩ := unhide hall h60'
          have hal := unhide hallen h60'
          have hT3 := hide (unhide hBn9 (flat (L ++ List.replicate L.length undoL ++ [showL])) wi hal ((unhide hG').below (unhide Bi)))
          have hT9 := benchL_len (flat (L ++ List.replicate L.length undoL ++ [showL]))
          have hT4 := hide (fun w => unhide hLn9 (benchL (flat (L ++ List.replicate L.length undoL ++ [showL]))) w hT9 (by rw [hys]; simp; omega))
          rw [hys] at hT4
          have hTt : Hid (flat (L ++ List.replicate L.length undoL ++ [showL]) = flat (L ++ List.replicate L.length undoL) ++ [115, 104, 111, 119, 10]) := hide (by rw [flat_append]; rfl)
          have hal' := hide hal
          clear hys hT9 h60 hall hallen hBn9 hLn9 hal
          go_wp2
          go_loop [12, 13] (fun b i => ∃ j : Nat, j ≤ L.length ∧ i = .int .i64 j ∧ b = .string (bsL (flat (L.take j)))) (fun _ i => L.length - (intOf i).toNat)
          case atStart => exact ⟨0, by omega, rfl, by simp [flat, bsL]⟩
          case round =>
            obtain ⟨j, hj, rfl, rfl⟩ := hrel
            by_cases hjl : j < L.length
            · obtain ⟨x, hx⟩ : ∃ x, L[j]? = some x := ⟨L[j], List.getElem?_eq_getElem hjl⟩
              have hc := unhide hcelli j x hx
              have q1 : decide ((j : Int) < (L.length : Int)) = true := by simp; omega
              have hjl' : (j : Int) < L.length := by omega
              have hfx := flat_snoc hx
              have hflx : (flat (L.take (j + 1))).length ≤ l.length + 1 := Nat.le_trans (flat_take_len L (j + 1)) hfl
              obtain ⟨P0, eP0⟩ : ∃ P : ByteArray, bsL (flat (L.take j)) = P := ⟨_, rfl⟩
              obtain ⟨X9, eX9⟩ : ∃ P : ByteArray, bsL x = P := ⟨_, rfl⟩
              obtain ⟨P1, eP1⟩ : ∃ P : ByteArray, P0 ++ X9 = P := ⟨_, rfl⟩
              obtain ⟨P2, eP2⟩ : ∃ P : ByteArray, P1 ++ ⟨#[10]⟩ = P := ⟨_, rfl⟩
              have hP2 : P2 = bsL (flat (L.take (j + 1))) := by rw [← eP2, ← eP1, ← eP0, ← eX9, hfx, bsL_app, bsL_app, show (⟨#[10]⟩ : ByteArray) = bsL [10] from rfl, ByteArray.append_assoc]
              have z2 : P2.size ≤ 20000 := by rw [hP2, bsL_size]; have := unhide h4k; omega
              have z1 : P1.size ≤ 20000 := by rw [← eP2, size_app] at z2; omega
              have z0 : P0.size + X9.size ≤ 20000 := by rw [← eP1, size_app] at z1; omega
              have PP1 := fun w => add_run eP1 (by omega) w
              have PP2 := fun w => add_run eP2 (by show P1.size + 1 ≤ _; omega) w
              have hP2' := hide hP2
              rw [eP0]
              rw [eX9] at hc
              clear eP0 eX9 eP1 eP2 hP2 z0 z1 z2 hfx hx
              go_wp2
              go_round
              case rel => exact ⟨j + 1, by omega, by go_num, by rw [unhide hP2']⟩
              case measure => simp [intOf]; omega
            · obtain rfl : j = L.length := by omega
              rw [List.take_length]
              clear hcelli
              go_wp2
              go_loop [12, 14] (fun b i => ∃ j : Nat, j ≤ L.length ∧ i = .int .i64 j ∧ b = .string (bsL (flat (L ++ List.replicate j undoL)))) (fun _ i => L.length - (intOf i).toNat)
              case atStart => exact ⟨0, by omega, rfl, by simp⟩
              case round =>
                obtain ⟨j, hj, rfl, rfl⟩ := hrel
                by_cases hjl : j < L.length
                · have q1 : decide ((j : Int) < (L.length : Int)) = true := by simp; omega
                  have hjl' : (j : Int) < L.length := by omega
                  have hfx : flat (L ++ List.replicate (j + 1) undoL) = flat (L ++ List.replicate j undoL) ++ [117, 110, 100, 111, 10] := by
                    rw [List.replicate_succ', ← List.append_assoc, flat_append (L ++ List.replicate j undoL)]
                    rfl
                  have hle := undo_len L (j + 1)
                  obtain ⟨P0, eP0⟩ : ∃ P : ByteArray, bsL (flat (L ++ List.replicate j undoL)) = P := ⟨_, rfl⟩
                  obtain ⟨P1, eP1⟩ : ∃ P : ByteArray, P0 ++ ⟨#[117, 110, 100, 111, 10]⟩ = P := ⟨_, rfl⟩
                  have hP1 : P1 = bsL (flat (L ++ List.replicate (j + 1) undoL)) := by rw [← eP1, ← eP0, hfx, bsL_app]; rfl
                  have z1 : P1.size ≤ 20000 := by rw [hP1, bsL_size, hle]; have := unhide h4k; omega
                  have z0 : P0.size ≤ 20000 := by rw [← eP1, size_app] at z1; omega
                  have PP1 := fun w => add_run eP1 (by show P0.size + 5 ≤ _; omega) w
                  have hP1' := hide hP1
                  rw [eP0]
                  clear eP0 eP1 hP1 z0 z1 hfx hle
                  go_wp2
                  go_round
                  case rel => exact ⟨j + 1, by omega, by go_num, by rw [unhide hP1']⟩
                  case measure => simp [intOf]; omega
                · obtain rfl : j = L.length := by omega
                  obtain ⟨P0, eP0⟩ : ∃ P : ByteArray, bsL (flat (L ++ List.replicate L.length undoL)) = P := ⟨_, rfl⟩
                  obtain ⟨P1, eP1⟩ : ∃ P : ByteArray, P0 ++ ⟨#[115, 104, 111, 119, 10]⟩ = P := ⟨_, rfl⟩
                  have hP1 : bsL (flat (L ++ List.replicate L.length undoL ++ [showL])) = P1 := by rw [← eP1, ← eP0, unhide hTt, bsL_app]; rfl
                  have z1 : P1.size ≤ 20000 := by rw [← hP1, bsL_size]; exact unhide hal'
                  have z0 : P0.size ≤ 20000 := by rw [← eP1, size_app] at z1; omega
                  have PP1 := fun w => add_run eP1 (by show P0.size + 5 ≤ _; omega) w
                  rw [hP1] at hT3
                  generalize bsL (benchL (flat (L ++ List.replicate L.length undoL ++ [showL]))) = RB at *
                  rw [eP0]
                  clear eP0 eP1 hP1 z0 z1 hTt hal'
                  go_wp2_with fail
                  refine (unhide hT3).mono ?_
                  rintro e wj ⟨rfl, bj⟩
                  have Bj := hide (laterB (unhide Bi) bj)
                  clear bj hT3 Bi
                  go_wp2_with fail
                  refine (unhide hT4 _).mono ?_
                  rintro e wk ⟨gk, ck, rfl, hgk, ownk, bk⟩
                  have Bk := hide (laterB (unhide Bj) bk)
                  have hyn : (ys ++ [[111, 107]]).length = ys.length + 1 := by simp
                  have ck9 : wk.cell? ⟨gk, ys.length, none⟩ = some (.string ⟨#[111, 107]⟩) := by
                    have := ownk.cellAt ys.length (by rw [hyn]; omega)
                    rw [this, List.getElem?_map, List.getElem?_append_right (Nat.le_refl _)]
                    simp [bsL]
                  rw [hyn]
                  clear ownk bk Bj hT4 hyn
                  generalize ys.length = yn at *
                  have hyw : IntKind.i64.wrap ((yn : Int) + 1 - 1) = yn := by rw [IntKind.wrap_i64]; omega
                  have q9 : decide ((0 : Int) < (yn : Int) + 1) = true := decide_eq_true (by omega)
                  go_wp2
                  go_ret
                  exact ⟨rfl, unhide Bk⟩
end Go.Proofs.YtioaehjppiodfaaGreatDoor
