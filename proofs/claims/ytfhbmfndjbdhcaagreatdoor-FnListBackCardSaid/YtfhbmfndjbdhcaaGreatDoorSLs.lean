/-
  The model's list of a cut: its contract.
-/
import Derived.Test.YtfhbmfndjbdhcaaGreatDoorSLg
import Derived.Test.YtfhbmfndjbdhcaaGreatDoorJoP
import Derived.Lib.AppendStr
import Derived.Deep.CutBlock
import Derived.Laws.Concat
import Derived.Laws.BytesArg
import Derived.Lib.SmallJoins
namespace Go.Proofs.YtfhbmfndjbdhcaaGreatDoor
open Go.RowKit
set_option linter.unusedVariables false
set_option linter.unusedSimpArgs false

theorem stext_val (n d : Int) (dr : Bool) (f : Int) (s : ByteArray) (hs : (⟨(Pl.tt n d dr f).toArray⟩ : ByteArray) = s) (w : World) :
    Calls Tryz.prog 28 #[.agg #[.int .i64 n, .int .i64 d, .bool dr], .int .i64 f] w fun e w' => e = .returned (.string s) ∧ Below w.heap.size w w' := by subst hs; exact stext_any n d dr f w
theorem sint_i (x : Int) (w : World) (h0 : 0 ≤ x) (h1 : x ≤ 500) : Calls Tryz.prog 27 #[.int .i64 x] w fun e w' => e = .returned (.string ⟨(Pl.dec x.toNat).toArray⟩) ∧ Below w.heap.size w w' := by
  obtain ⟨n, rfl⟩ := Int.eq_ofNat_of_zero_le h0
  exact sint_any n w (by omega)
theorem tOk_no1 {n d : Int} {dr : Bool} {a : Int} {x1 x2 x3 : Int} (h : Pl.tt n d dr x2 = []) : tOk n d dr a (x1, x2, x3) = false := by simp [tOk, h]
theorem tOk_no2 {n d : Int} {dr : Bool} {a : Int} {x1 x2 x3 : Int} (h : Pl.tt n d dr (x2 + x3) = []) : tOk n d dr a (x1, x2, x3) = false := by simp [tOk, h]
theorem tOk_no3 {n d : Int} {dr : Bool} {a : Int} {x1 x2 x3 : Int} (h : Pl.tt n d dr a = []) : tOk n d dr a (x1, x2, x3) = false := by simp [tOk, h]
theorem tOk_no4 {n d : Int} {dr : Bool} {a : Int} {x1 x2 x3 : Int} (h : Pl.tt n d dr (a + x3) = []) : tOk n d dr a (x1, x2, x3) = false := by simp [tOk, h]
theorem tOk_yes {n d : Int} {dr : Bool} {a : Int} {x1 x2 x3 : Int} (h1 : Pl.tt n d dr x2 ≠ []) (h2 : Pl.tt n d dr (x2 + x3) ≠ []) (h3 : Pl.tt n d dr a ≠ []) (h4 : Pl.tt n d dr (a + x3) ≠ []) : tOk n d dr a (x1, x2, x3) = true := by
  simp [tOk, h1, h2, h3, h4]
set_option maxRecDepth 100000 in
set_option maxHeartbeats 1000000 in
theorem sshow_main (n d : Int) (dr : Bool) (a : Option Addr) (cap : Nat) (l : List Kl) (w : World) (hr : Pl.rok n d dr = true) (hT : TOk l) (hk : Kls w a l) :
    Calls Tryz.prog 7 #[.agg #[.int .i64 n, .int .i64 d, .bool dr], .slice a l.length cap] w fun e w' => e = .returned (.string ⟨(listOf n d dr (join l)).toArray⟩) ∧ Below w.heap.size w w' := by
  obtain ⟨i0, hi, hz0, hz1, hz2⟩ := info_parts infoB
  have hlm : l.length ≤ maxLen := by have := hT.1; unfold maxLen; omega
  have hl300 := hT.1
  have hA := hide hT.2.1
  have hJT := hide (show TOk (join l) from join_tok hT)
  have cr := hide (rok_val 24 srok_any n d dr true hr)
  have ct := hide (fun w (h : Kls w a l) => strack_any a cap l true w hlm h (decide_eq_true hT))
  have hk' := hide hk
  clear hr hT hk
  go_enter Tryz.func7, Tryz.ntmps7
  go_wp2_with fail
  refine (unhide cr _).mono ?_
  rintro e w1 ⟨rfl, hb1⟩
  have k1 := below_box hb1
  go_wp2_with fail
  refine (unhide ct _ ((unhide hk').below k1)).mono ?_
  rintro e w2 ⟨rfl, hb2⟩
  have k2 := k1.trans (hb2.mono k1.size)
  go_wp2_with fail
  have k3 : Below w.heap.size w (w2.alloc (.cells #[] 5)) := k2.alloc k2.size _
  refine (sjoin_any a cap l _ (by omega) (unhide hA) ((unhide hk').below k3)).mono ?_
  rintro e w4 ⟨g, c, rfl, hg, hown, hb4⟩
  have k4 : Below w.heap.size w w4 := k3.trans (hb4.mono k3.size)
  have hs1 : w.heap.size < w1.heap.size := by have := hb1.size; simp at this; omega
  have hs2 := hb2.size
  have hs4 : w2.heap.size < w4.heap.size := by have := hb4.size; simp at this; omega
  have hR : w4.heap[w.heap.size]? = some (.cells #[.int .i64 n, .int .i64 d, .bool dr] 25 (0, 0)) := by
    rw [hb4.block _ (by simp; omega), Below.heap_alloc _ _ _ (by omega), hb2.block _ hs1, hb1.block _ (by simp)]
    exact alloc_new _ _
  have hB0 : w4.ownsRow w.heap.size 5 1 (.slice (some ⟨w2.heap.size, 0, none⟩) 0 0) 0 [] := ownsRow_belowS (ownB_lit0 w2 (by omega)) hb4
  have hown' := hide hown
  have hR' := hide hR
  have hB0' := hide hB0
  have k4' := hide k4
  obtain ⟨m, hm⟩ : ∃ m, m = join l := ⟨_, rfl⟩
  rw [← hm] at hown' hJT ⊢
  have hmT := unhide hJT
  have hm3 : m.length ≤ 300 := hmT.1
  have hmA := hide hmT.2.1
  have hmC := hmT.2.2
  have hm' := hide hm
  clear hown hR hB0 k4 hb4 hb2 hb1 k1 k2 k3 hk' hA hJT hm hmT ct cr hl300 hlm
  generalize hBx : w2.heap.size = B2 at *
  clear hBx
  go_wp2_with fail
  go_loopw [5, 6, 8] (fun b p i wr => ∃ k : Nat, k ≤ m.length ∧ i = .int .i64 k ∧ p = .int .i64 (clen (m.take k)) ∧ Hid (allOk n d dr m k) ∧ Hid (wr.ownsRow w.heap.size 5 1 b (linesL n d dr m k).length ((linesL n d dr m k).map bv)) ∧ Hid (Lib.OthersKept 5 none w4 wr) ∧ Hid (Below w.heap.size w wr)) (fun _ _ i _ => m.length - (intOf i).toNat)
  case atStart => exact ⟨0, by omega, rfl, by simp [clen], hide (allOk_zero _ _ _ _), hB0', hide (Lib.OthersKept.refl _ _ _), k4'⟩
  case round =>
    clear hB0' k4'
    obtain ⟨k, hkm, rfl, rfl, hok, hrow, hoth, hbel⟩ := hrel
    by_cases hlt : k < m.length
    · have hOw := ownK_kept (unhide hown') (unhide hoth)
      have hx := kAt_get hlt
      obtain ⟨⟨x1, x2, x3⟩, hxx⟩ : ∃ x, kAt m k = x := ⟨_, rfl⟩
      rw [hxx] at hx
      obtain ⟨d0, d1, d2⟩ := own_cells hx hOw
      simp only at d0 d1 d2
      have hc := (unhide hmA) _ (List.mem_of_getElem? hx)
      obtain ⟨n0, n1, i0', i1', hsrc⟩ := hc
      simp only at n0 n1 i0' i1' hsrc
      have q0 := clen_nonneg ((unhide hmA).take k)
      have q1 := clen_take_le (unhide hmA) (k + 1)
      have q2 := clen_take hx
      simp only at q2
      have ho := hide q2
      have q3 : clen (m.take k) + x3 ≤ 10000000 := by omega
      have hR5 : wr.heap[w.heap.size]? = some (.cells #[.int .i64 n, .int .i64 d, .bool dr] 25 (0, 0)) := (unhide hoth) _ _ (unhide hR') (by simp) (fun c fz e => by injection e with _ e _; cases e)
      have R5 : (wr.alloc (.cells #[.int .i64 x1, .int .i64 x2, .int .i64 x3] 44)).heap[w.heap.size]? = some (.cells #[.int .i64 n, .int .i64 d, .bool dr] 25 (0, 0)) := (Below.heap_alloc _ _ _ (Array.getElem?_eq_some_iff.1 hR5).1).trans hR5
      have C5 : (wr.alloc (.cells #[.int .i64 x1, .int .i64 x2, .int .i64 x3] 44)).heap[wr.heap.size]? = some (.cells #[.int .i64 x1, .int .i64 x2, .int .i64 x3] 44 (0, 0)) := alloc_new _ _
      have k5 : Below wr.heap.size wr (wr.alloc (.cells #[.int .i64 x1, .int .i64 x2, .int .i64 x3] 44)) := (Below.refl _ _).alloc (Nat.le_refl _) _
      have hlenk := hide (linesL_len (n := n) (d := d) (dr := dr) (unhide hmA) k hkm)
      have hline := hide (show linesL n d dr m (k + 1) = linesL n d dr m k ++ lineL n d dr k (clen (m.take k)) (x1, x2, x3) by rw [← hxx]; rfl)
      have hnext := hide (show tOk n d dr (clen (m.take k)) (x1, x2, x3) = true → allOk n d dr m (k + 1) from fun h => allOk_succ (unhide hok) (by rw [hxx]; exact h))
      have hstop := hide (show tOk n d dr (clen (m.take k)) (x1, x2, x3) = false → listOf n d dr m = [] from fun h => listOf_no hlt (by rw [hxx]; exact h))
      have hsW := (unhide hbel).size
      clear hx hxx hOw q2 hok hR5
      generalize clen (m.take k) = ck at *
      generalize hL : linesL n d dr m k = L at *
      clear hL
      obtain ⟨sX, hX⟩ : ∃ s, (⟨(Pl.tt n d dr x2).toArray⟩ : ByteArray) = s := ⟨_, rfl⟩
      obtain ⟨sY, hY⟩ : ∃ s, (⟨(Pl.tt n d dr (x2 + x3)).toArray⟩ : ByteArray) = s := ⟨_, rfl⟩
      obtain ⟨sU, hU⟩ : ∃ s, (⟨(Pl.tt n d dr ck).toArray⟩ : ByteArray) = s := ⟨_, rfl⟩
      obtain ⟨sV, hV⟩ : ∃ s, (⟨(Pl.tt n d dr (ck + x3)).toArray⟩ : ByteArray) = s := ⟨_, rfl⟩
      have cA := hide (stext_val n d dr x2 sX hX)
      have cB := hide (stext_val n d dr (x2 + x3) sY hY)
      have cC := hide (stext_val n d dr ck sU hU)
      have cD := hide (stext_val n d dr (ck + x3) sV hV)
      have hX' := hide hX
      have hY' := hide hY
      have hU' := hide hU
      have hV' := hide hV
      clear hX hY hU hV
      have row5 := hide ((unhide hrow).alloc (.cells #[.int .i64 x1, .int .i64 x2, .int .i64 x3] 44))
      have oth5 := hide ((unhide hoth).alloc (.cells #[.int .i64 x1, .int .i64 x2, .int .i64 x3] 44))
      have bel5 := hide ((unhide hbel).alloc hsW (.cells #[.int .i64 x1, .int .i64 x2, .int .i64 x3] 44))
      clear hrow hoth hbel k5
      go_upto_region 10 with fail
      generalize wr.heap.size = cb at *
      generalize wr.alloc (.cells #[.int .i64 x1, .int .i64 x2, .int .i64 x3] 44) = w5 at *
      clear d0 d1 d2
      have k5 : Below w5.heap.size w5 w5 := Below.refl _ _
      obtain ⟨r0, r1, r2⟩ := blk3 R5
      obtain ⟨z0, z1, z2⟩ := blk3 C5
      have hx5 : x1 ≤ 500 := by omega
      by_cases hgap : x1 = 0
      · have hgt : decide (0 < x1) = false := by simp; omega
        have hS : (⟨(srcW x1).toArray⟩ : ByteArray) = ⟨#[66, 76]⟩ := by rw [hgap]; rfl
        have hS' := hide hS
        clear hsrc hgap hS
        go_wp2_with fail
        generalize (⟨#[66, 76]⟩ : ByteArray) = sS at *
        refine (unhide cA _).mono ?_
        rintro e wA ⟨rfl, hbA⟩
        have RA := blk_below R5 hbA
        have CA := blk_below C5 hbA
        have kA : Below w5.heap.size w5 wA := k5.trans (hbA.mono k5.size)
        clear r0 r1 r2 z0 z1 z2 hbA cA R5 C5 k5
        obtain ⟨r0, r1, r2⟩ := blk3 RA
        obtain ⟨z0, z1, z2⟩ := blk3 CA
        go_wp2_with fail
        refine (unhide cB _).mono ?_
        rintro e wB ⟨rfl, hbB⟩
        have RB := blk_below RA hbB
        have CB := blk_below CA hbB
        have kB : Below w5.heap.size w5 wB := kA.trans (hbB.mono kA.size)
        clear r0 r1 r2 z0 z1 z2 hbB cB RA CA kA
        obtain ⟨r0, r1, r2⟩ := blk3 RB
        obtain ⟨z0, z1, z2⟩ := blk3 CB
        go_wp2_with fail
        refine (unhide cC _).mono ?_
        rintro e wC ⟨rfl, hbC⟩
        have RC := blk_below RB hbC
        have CC := blk_below CB hbC
        have kC : Below w5.heap.size w5 wC := kB.trans (hbC.mono kB.size)
        clear r0 r1 r2 z0 z1 z2 hbC cC RB CB kB
        obtain ⟨r0, r1, r2⟩ := blk3 RC
        obtain ⟨z0, z1, z2⟩ := blk3 CC
        go_wp2_with fail
        refine (unhide cD _).mono ?_
        rintro e wD ⟨rfl, hbD⟩
        have RD := blk_below RC hbD
        have CD := blk_below CC hbD
        have kD : Below w5.heap.size w5 wD := kC.trans (hbD.mono kC.size)
        clear r0 r1 r2 z0 z1 z2 hbD cD RC CC kC
        obtain ⟨r0, r1, r2⟩ := blk3 RD
        obtain ⟨z0, z1, z2⟩ := blk3 CD
        go_wp2_with fail
        · have hE : sX.toList = [] := by assumption
          have hT9 := unhide hstop (tOk_no1 (toList_nil (unhide hX') hE))
          go_ret
          exact ⟨by rw [← unhide hm', hT9]; rfl, (unhide bel5).trans (kD.mono (unhide bel5).size)⟩
        · have hE : sY.toList = [] := by assumption
          have hT9 := unhide hstop (tOk_no2 (toList_nil (unhide hY') hE))
          go_ret
          exact ⟨by rw [← unhide hm', hT9]; rfl, (unhide bel5).trans (kD.mono (unhide bel5).size)⟩
        · have hE : sU.toList = [] := by assumption
          have hT9 := unhide hstop (tOk_no3 (toList_nil (unhide hU') hE))
          go_ret
          exact ⟨by rw [← unhide hm', hT9]; rfl, (unhide bel5).trans (kD.mono (unhide bel5).size)⟩
        · rename_i u1 u2 u3 u4
          have hE : sV.toList = [] := by simpa [u1, u2, u3] using u4
          have hT9 := unhide hstop (tOk_no4 (toList_nil (unhide hV') hE))
          go_ret
          exact ⟨by rw [← unhide hm', hT9]; rfl, (unhide bel5).trans (kD.mono (unhide bel5).size)⟩
        · have u4 : ((sX.toList.isEmpty = false ∧ sY.toList.isEmpty = false) ∧ sU.toList.isEmpty = false) ∧ sV.toList.isEmpty = false := by assumption
          have g1 : ¬ sX.toList = [] := by simpa using u4.1.1.1
          have g2 : ¬ sY.toList = [] := by simpa using u4.1.1.2
          have g3 : ¬ sU.toList = [] := by simpa using u4.1.2
          have g4 : ¬ sV.toList = [] := by simpa using u4.2
          have hT9 := hide (unhide hnext (tOk_yes (toList_ne (unhide hX') g1) (toList_ne (unhide hY') g2) (toList_ne (unhide hU') g3) (toList_ne (unhide hV') g4)))
          clear hnext hstop g1 g2 g3 g4 r0 r1 r2 u4
          obtain ⟨sN, hN⟩ : ∃ s, (⟨(numW k).toArray⟩ : ByteArray) = s := ⟨_, rfl⟩
          have cN := hide (sdig_val k sN hN wD (by omega))
          refine (unhide cN).mono ?_
          rintro e w6 ⟨rfl, hb6⟩
          have C6 := blk_below CD hb6
          have k6 : Below w5.heap.size w5 w6 := kD.trans (hb6.mono kD.size)
          clear cN hb6 RD CD kD z0 z1 z2
          have v1 := tt_len n d dr x2
          have v2 := tt_len n d dr (x2 + x3)
          have v3 := tt_len n d dr ck
          have v4 := tt_len n d dr (ck + x3)
          have v5 := srcW_len (s := x1) (by omega)
          have v6 : (numW k).length = 3 := rfl
          obtain ⟨y1, e1⟩ : ∃ s, (⟨(numW k ++ [32]).toArray⟩ : ByteArray) = s := ⟨_, rfl⟩
          obtain ⟨y2, e2⟩ : ∃ s, (⟨(numW k ++ [32] ++ srcW x1).toArray⟩ : ByteArray) = s := ⟨_, rfl⟩
          obtain ⟨y3, e3⟩ : ∃ s, (⟨(numW k ++ [32] ++ srcW x1 ++ [32, 67, 32]).toArray⟩ : ByteArray) = s := ⟨_, rfl⟩
          obtain ⟨y4, e4⟩ : ∃ s, (⟨(numW k ++ [32] ++ srcW x1 ++ [32, 67, 32] ++ Pl.tt n d dr x2).toArray⟩ : ByteArray) = s := ⟨_, rfl⟩
          obtain ⟨y5, e5⟩ : ∃ s, (⟨(numW k ++ [32] ++ srcW x1 ++ [32, 67, 32] ++ Pl.tt n d dr x2 ++ [32]).toArray⟩ : ByteArray) = s := ⟨_, rfl⟩
          obtain ⟨y6, e6⟩ : ∃ s, (⟨(numW k ++ [32] ++ srcW x1 ++ [32, 67, 32] ++ Pl.tt n d dr x2 ++ [32] ++ Pl.tt n d dr (x2 + x3)).toArray⟩ : ByteArray) = s := ⟨_, rfl⟩
          obtain ⟨y7, e7⟩ : ∃ s, (⟨(numW k ++ [32] ++ srcW x1 ++ [32, 67, 32] ++ Pl.tt n d dr x2 ++ [32] ++ Pl.tt n d dr (x2 + x3) ++ [32]).toArray⟩ : ByteArray) = s := ⟨_, rfl⟩
          obtain ⟨y8, e8⟩ : ∃ s, (⟨(numW k ++ [32] ++ srcW x1 ++ [32, 67, 32] ++ Pl.tt n d dr x2 ++ [32] ++ Pl.tt n d dr (x2 + x3) ++ [32] ++ Pl.tt n d dr ck).toArray⟩ : ByteArray) = s := ⟨_, rfl⟩
          obtain ⟨y9, e9⟩ : ∃ s, (⟨(numW k ++ [32] ++ srcW x1 ++ [32, 67, 32] ++ Pl.tt n d dr x2 ++ [32] ++ Pl.tt n d dr (x2 + x3) ++ [32] ++ Pl.tt n d dr ck ++ [32]).toArray⟩ : ByteArray) = s := ⟨_, rfl⟩
          obtain ⟨y10, e10⟩ : ∃ s, (⟨(numW k ++ [32] ++ srcW x1 ++ [32, 67, 32] ++ Pl.tt n d dr x2 ++ [32] ++ Pl.tt n d dr (x2 + x3) ++ [32] ++ Pl.tt n d dr ck ++ [32] ++ Pl.tt n d dr (ck + x3)).toArray⟩ : ByteArray) = s := ⟨_, rfl⟩
          obtain ⟨y11, e11⟩ : ∃ s, (⟨(lineL n d dr k ck (x1, x2, x3)).toArray⟩ : ByteArray) = s := ⟨_, rfl⟩
          have a1 := str_add (P := Tryz.prog) (b := [32]) hN rfl e1 (by simp; omega)
          have a2 := str_add (P := Tryz.prog) e1 (unhide hS') e2 (by simp; omega)
          have a3 := str_add (P := Tryz.prog) (b := [32, 67, 32]) e2 rfl e3 (by simp; omega)
          have a4 := str_add (P := Tryz.prog) e3 (unhide hX') e4 (by simp; omega)
          have a5 := str_add (P := Tryz.prog) (b := [32]) e4 rfl e5 (by simp; omega)
          have a6 := str_add (P := Tryz.prog) e5 (unhide hY') e6 (by simp; omega)
          have a7 := str_add (P := Tryz.prog) (b := [32]) e6 rfl e7 (by simp; omega)
          have a8 := str_add (P := Tryz.prog) e7 (unhide hU') e8 (by simp; omega)
          have a9 := str_add (P := Tryz.prog) (b := [32]) e8 rfl e9 (by simp; omega)
          have a10 := str_add (P := Tryz.prog) e9 (unhide hV') e10 (by simp; omega)
          have a11 := str_add (P := Tryz.prog) (b := [10]) (c := lineL n d dr k ck (x1, x2, x3)) e10 rfl e11 (by simp; omega) rfl
          have hsz : y11.size ≤ 64 := by rw [← e11]; exact lineL_len (c := (x1, x2, x3)) hx5
          have e11' := hide e11
          clear e1 e2 e3 e4 e5 e6 e7 e8 e9 e10 e11 v1 v2 v3 v4 v5 v6 hN
          have row6 := ownsRow_belowS (unhide row5) k6
          have oth6 := hide ((unhide oth5).trans (okk_below k6))
          have bel6 := hide ((unhide bel5).trans (k6.mono (unhide bel5).size))
          have hs6 := (unhide bel6).size
          have hlen6 := unhide hlenk
          clear row5 oth5 bel5 k6
          go_wp2_with (at_builtin; refine Lib.wpList_append_own_string _ rfl _ _ 22 9 rfl w.heap.size 5 i0 Tryz.underlying22 Tryz.underlying9 hi hz0 hz1 hz2 _ _ _ rfl row6 y11 rfl ?c3 ?c4 ?c5 ?_)
          case c3 => unfold maxLen; omega
          case c4 => omega
          case c5 => exact hs6
          intro v' w7 hown7 hgrow7 _
          have ok7 : Lib.OthersKept 5 none w6 w7 := (Lib.OthersKept.refl _ _ _).grown hgrow7 (own_kind row6)
          have C7 := ok7 _ _ C6 (by simp) (fun c fz e => by injection e with _ e _; cases e)
          have hbel7 := hide ((unhide bel6).grown hgrow7 hs6 (fun q hq => (row6.lt q hq).1))
          have hoth7 := hide ((unhide oth6).trans ok7)
          have hrow7 := hide (row_app (unhide e11') hown7)
          clear a1 a2 a3 a4 a5 a6 a7 a8 a9 a10 a11 hown7 hgrow7 row6 ok7 C6 oth6 bel6
          obtain ⟨z0, z1, z2⟩ := blk3 C7
          go_wp2
          go_roundw
          case rel => exact ⟨k + 1, by omega, by go_num, by rw [unhide ho], hT9, hide (by rw [unhide hline]; exact unhide hrow7), hoth7, hbel7⟩
          case measure => simp [intOf]; omega

      · have hgt : decide (0 < x1) = true := by simp; omega
        have cS := hide (fun w => sint_i x1 w (by omega) (by omega))
        have hS : (⟨(srcW x1).toArray⟩ : ByteArray) = ⟨#[82]⟩ ++ ⟨(Pl.dec x1.toNat).toArray⟩ := by unfold srcW; rw [if_neg hgap]; exact (str_cons 82 _).symm
        have hS' := hide hS
        have aS : ∀ w, (Op.stringOp .add ⟨#[82]⟩ ⟨(Pl.dec x1.toNat).toArray⟩).run Tryz.prog w = .ok (.string (⟨#[82]⟩ ++ ⟨(Pl.dec x1.toNat).toArray⟩)) w := fun w => run_string_add_sum w _ _ (by have := Pl.dec_length_lt 2 x1.toNat (by omega); show 1 + (Pl.dec x1.toNat).toArray.size ≤ _; simp; omega)
        clear hsrc hgap hS
        go_wp2_with fail
        refine (unhide cS _).mono ?_
        rintro e w6 ⟨rfl, hb6⟩
        have R6 := blk_below R5 hb6
        have C6 := blk_below C5 hb6
        have k6 : Below w5.heap.size w5 w6 := hb6
        clear r0 r1 r2 z0 z1 z2 hb6 cS R5 C5 k5
        obtain ⟨r0, r1, r2⟩ := blk3 R6
        obtain ⟨z0, z1, z2⟩ := blk3 C6
        go_wp2_with fail
        have R5 := R6
        have C5 := C6
        have k5 := k6
        clear R6 C6 k6
        generalize (⟨#[82]⟩ : ByteArray) ++ ⟨(Pl.dec x1.toNat).toArray⟩ = sS at *
        refine (unhide cA _).mono ?_
        rintro e wA ⟨rfl, hbA⟩
        have RA := blk_below R5 hbA
        have CA := blk_below C5 hbA
        have kA : Below w5.heap.size w5 wA := k5.trans (hbA.mono k5.size)
        clear r0 r1 r2 z0 z1 z2 hbA cA R5 C5 k5
        obtain ⟨r0, r1, r2⟩ := blk3 RA
        obtain ⟨z0, z1, z2⟩ := blk3 CA
        go_wp2_with fail
        refine (unhide cB _).mono ?_
        rintro e wB ⟨rfl, hbB⟩
        have RB := blk_below RA hbB
        have CB := blk_below CA hbB
        have kB : Below w5.heap.size w5 wB := kA.trans (hbB.mono kA.size)
        clear r0 r1 r2 z0 z1 z2 hbB cB RA CA kA
        obtain ⟨r0, r1, r2⟩ := blk3 RB
        obtain ⟨z0, z1, z2⟩ := blk3 CB
        go_wp2_with fail
        refine (unhide cC _).mono ?_
        rintro e wC ⟨rfl, hbC⟩
        have RC := blk_below RB hbC
        have CC := blk_below CB hbC
        have kC : Below w5.heap.size w5 wC := kB.trans (hbC.mono kB.size)
        clear r0 r1 r2 z0 z1 z2 hbC cC RB CB kB
        obtain ⟨r0, r1, r2⟩ := blk3 RC
        obtain ⟨z0, z1, z2⟩ := blk3 CC
        go_wp2_with fail
        refine (unhide cD _).mono ?_
        rintro e wD ⟨rfl, hbD⟩
        have RD := blk_below RC hbD
        have CD := blk_below CC hbD
        have kD : Below w5.heap.size w5 wD := kC.trans (hbD.mono kC.size)
        clear r0 r1 r2 z0 z1 z2 hbD cD RC CC kC
        obtain ⟨r0, r1, r2⟩ := blk3 RD
        obtain ⟨z0, z1, z2⟩ := blk3 CD
        go_wp2_with fail
        · have hE : sX.toList = [] := by assumption
          have hT9 := unhide hstop (tOk_no1 (toList_nil (unhide hX') hE))
          go_ret
          exact ⟨by rw [← unhide hm', hT9]; rfl, (unhide bel5).trans (kD.mono (unhide bel5).size)⟩
        · have hE : sY.toList = [] := by assumption
          have hT9 := unhide hstop (tOk_no2 (toList_nil (unhide hY') hE))
          go_ret
          exact ⟨by rw [← unhide hm', hT9]; rfl, (unhide bel5).trans (kD.mono (unhide bel5).size)⟩
        · have hE : sU.toList = [] := by assumption
          have hT9 := unhide hstop (tOk_no3 (toList_nil (unhide hU') hE))
          go_ret
          exact ⟨by rw [← unhide hm', hT9]; rfl, (unhide bel5).trans (kD.mono (unhide bel5).size)⟩
        · rename_i u1 u2 u3 u4
          have hE : sV.toList = [] := by simpa [u1, u2, u3] using u4
          have hT9 := unhide hstop (tOk_no4 (toList_nil (unhide hV') hE))
          go_ret
          exact ⟨by rw [← unhide hm', hT9]; rfl, (unhide bel5).trans (kD.mono (unhide bel5).size)⟩
        · have u4 : ((sX.toList.isEmpty = false ∧ sY.toList.isEmpty = false) ∧ sU.toList.isEmpty = false) ∧ sV.toList.isEmpty = false := by assumption
          have g1 : ¬ sX.toList = [] := by simpa using u4.1.1.1
          have g2 : ¬ sY.toList = [] := by simpa using u4.1.1.2
          have g3 : ¬ sU.toList = [] := by simpa using u4.1.2
          have g4 : ¬ sV.toList = [] := by simpa using u4.2
          have hT9 := hide (unhide hnext (tOk_yes (toList_ne (unhide hX') g1) (toList_ne (unhide hY') g2) (toList_ne (unhide hU') g3) (toList_ne (unhide hV') g4)))
          clear hnext hstop g1 g2 g3 g4 r0 r1 r2 u4
          obtain ⟨sN, hN⟩ : ∃ s, (⟨(numW k).toArray⟩ : ByteArray) = s := ⟨_, rfl⟩
          have cN := hide (sdig_val k sN hN wD (by omega))
          refine (unhide cN).mono ?_
          rintro e w6 ⟨rfl, hb6⟩
          have C6 := blk_below CD hb6
          have k6 : Below w5.heap.size w5 w6 := kD.trans (hb6.mono kD.size)
          clear cN hb6 RD CD kD z0 z1 z2
          have v1 := tt_len n d dr x2
          have v2 := tt_len n d dr (x2 + x3)
          have v3 := tt_len n d dr ck
          have v4 := tt_len n d dr (ck + x3)
          have v5 := srcW_len (s := x1) (by omega)
          have v6 : (numW k).length = 3 := rfl
          obtain ⟨y1, e1⟩ : ∃ s, (⟨(numW k ++ [32]).toArray⟩ : ByteArray) = s := ⟨_, rfl⟩
          obtain ⟨y2, e2⟩ : ∃ s, (⟨(numW k ++ [32] ++ srcW x1).toArray⟩ : ByteArray) = s := ⟨_, rfl⟩
          obtain ⟨y3, e3⟩ : ∃ s, (⟨(numW k ++ [32] ++ srcW x1 ++ [32, 67, 32]).toArray⟩ : ByteArray) = s := ⟨_, rfl⟩
          obtain ⟨y4, e4⟩ : ∃ s, (⟨(numW k ++ [32] ++ srcW x1 ++ [32, 67, 32] ++ Pl.tt n d dr x2).toArray⟩ : ByteArray) = s := ⟨_, rfl⟩
          obtain ⟨y5, e5⟩ : ∃ s, (⟨(numW k ++ [32] ++ srcW x1 ++ [32, 67, 32] ++ Pl.tt n d dr x2 ++ [32]).toArray⟩ : ByteArray) = s := ⟨_, rfl⟩
          obtain ⟨y6, e6⟩ : ∃ s, (⟨(numW k ++ [32] ++ srcW x1 ++ [32, 67, 32] ++ Pl.tt n d dr x2 ++ [32] ++ Pl.tt n d dr (x2 + x3)).toArray⟩ : ByteArray) = s := ⟨_, rfl⟩
          obtain ⟨y7, e7⟩ : ∃ s, (⟨(numW k ++ [32] ++ srcW x1 ++ [32, 67, 32] ++ Pl.tt n d dr x2 ++ [32] ++ Pl.tt n d dr (x2 + x3) ++ [32]).toArray⟩ : ByteArray) = s := ⟨_, rfl⟩
          obtain ⟨y8, e8⟩ : ∃ s, (⟨(numW k ++ [32] ++ srcW x1 ++ [32, 67, 32] ++ Pl.tt n d dr x2 ++ [32] ++ Pl.tt n d dr (x2 + x3) ++ [32] ++ Pl.tt n d dr ck).toArray⟩ : ByteArray) = s := ⟨_, rfl⟩
          obtain ⟨y9, e9⟩ : ∃ s, (⟨(numW k ++ [32] ++ srcW x1 ++ [32, 67, 32] ++ Pl.tt n d dr x2 ++ [32] ++ Pl.tt n d dr (x2 + x3) ++ [32] ++ Pl.tt n d dr ck ++ [32]).toArray⟩ : ByteArray) = s := ⟨_, rfl⟩
          obtain ⟨y10, e10⟩ : ∃ s, (⟨(numW k ++ [32] ++ srcW x1 ++ [32, 67, 32] ++ Pl.tt n d dr x2 ++ [32] ++ Pl.tt n d dr (x2 + x3) ++ [32] ++ Pl.tt n d dr ck ++ [32] ++ Pl.tt n d dr (ck + x3)).toArray⟩ : ByteArray) = s := ⟨_, rfl⟩
          obtain ⟨y11, e11⟩ : ∃ s, (⟨(lineL n d dr k ck (x1, x2, x3)).toArray⟩ : ByteArray) = s := ⟨_, rfl⟩
          have a1 := str_add (P := Tryz.prog) (b := [32]) hN rfl e1 (by simp; omega)
          have a2 := str_add (P := Tryz.prog) e1 (unhide hS') e2 (by simp; omega)
          have a3 := str_add (P := Tryz.prog) (b := [32, 67, 32]) e2 rfl e3 (by simp; omega)
          have a4 := str_add (P := Tryz.prog) e3 (unhide hX') e4 (by simp; omega)
          have a5 := str_add (P := Tryz.prog) (b := [32]) e4 rfl e5 (by simp; omega)
          have a6 := str_add (P := Tryz.prog) e5 (unhide hY') e6 (by simp; omega)
          have a7 := str_add (P := Tryz.prog) (b := [32]) e6 rfl e7 (by simp; omega)
          have a8 := str_add (P := Tryz.prog) e7 (unhide hU') e8 (by simp; omega)
          have a9 := str_add (P := Tryz.prog) (b := [32]) e8 rfl e9 (by simp; omega)
          have a10 := str_add (P := Tryz.prog) e9 (unhide hV') e10 (by simp; omega)
          have a11 := str_add (P := Tryz.prog) (b := [10]) (c := lineL n d dr k ck (x1, x2, x3)) e10 rfl e11 (by simp; omega) rfl
          have hsz : y11.size ≤ 64 := by rw [← e11]; exact lineL_len (c := (x1, x2, x3)) hx5
          have e11' := hide e11
          clear e1 e2 e3 e4 e5 e6 e7 e8 e9 e10 e11 v1 v2 v3 v4 v5 v6 hN
          have row6 := ownsRow_belowS (unhide row5) k6
          have oth6 := hide ((unhide oth5).trans (okk_below k6))
          have bel6 := hide ((unhide bel5).trans (k6.mono (unhide bel5).size))
          have hs6 := (unhide bel6).size
          have hlen6 := unhide hlenk
          clear row5 oth5 bel5 k6
          go_wp2_with (at_builtin; refine Lib.wpList_append_own_string _ rfl _ _ 22 9 rfl w.heap.size 5 i0 Tryz.underlying22 Tryz.underlying9 hi hz0 hz1 hz2 _ _ _ rfl row6 y11 rfl ?c3 ?c4 ?c5 ?_)
          case c3 => unfold maxLen; omega
          case c4 => omega
          case c5 => exact hs6
          intro v' w7 hown7 hgrow7 _
          have ok7 : Lib.OthersKept 5 none w6 w7 := (Lib.OthersKept.refl _ _ _).grown hgrow7 (own_kind row6)
          have C7 := ok7 _ _ C6 (by simp) (fun c fz e => by injection e with _ e _; cases e)
          have hbel7 := hide ((unhide bel6).grown hgrow7 hs6 (fun q hq => (row6.lt q hq).1))
          have hoth7 := hide ((unhide oth6).trans ok7)
          have hrow7 := hide (row_app (unhide e11') hown7)
          clear a1 a2 a3 a4 a5 a6 a7 a8 a9 a10 a11 hown7 hgrow7 row6 ok7 C6 oth6 bel6
          obtain ⟨z0, z1, z2⟩ := blk3 C7
          go_wp2
          go_roundw
          case rel => exact ⟨k + 1, by omega, by go_num, by rw [unhide ho], hT9, hide (by rw [unhide hline]; exact unhide hrow7), hoth7, hbel7⟩
          case measure => simp [intOf]; omega

    · have hke : k = m.length := by omega
      subst hke
      have hcv := conv_own (unhide hrow)
      have hF := hide (listOf_yes (unhide hok))
      clear hlt hrow hok
      go_wp2
      go_ret
      exact ⟨by rw [← unhide hm', unhide hF]; rfl, unhide hbel⟩

set_option maxRecDepth 100000 in
set_option maxHeartbeats 400000 in
theorem sshow_rate (n d : Int) (dr : Bool) (a : Option Addr) (cap : Nat) (l : List Kl) (w : World) (hr : Pl.rok n d dr = false) :
    Calls Tryz.prog 7 #[.agg #[.int .i64 n, .int .i64 d, .bool dr], .slice a l.length cap] w fun e w' => e = .returned (.string ⟨#[]⟩) ∧ Below w.heap.size w w' := by
  have cr := hide (rok_val 24 srok_any n d dr false hr)
  clear hr
  go_enter Tryz.func7, Tryz.ntmps7
  go_wp2_with fail
  refine (unhide cr _).mono ?_
  rintro e w1 ⟨rfl, hb1⟩
  have k1 := below_box hb1
  clear hb1
  go_wp2
  go_ret
  exact ⟨rfl, k1⟩

set_option maxRecDepth 100000 in
set_option maxHeartbeats 400000 in
theorem sshow_track (n d : Int) (dr : Bool) (a : Option Addr) (cap : Nat) (l : List Kl) (w : World) (hr : Pl.rok n d dr = true) (hlm : l.length ≤ maxLen) (hT : ¬ TOk l) (hk : Kls w a l) :
    Calls Tryz.prog 7 #[.agg #[.int .i64 n, .int .i64 d, .bool dr], .slice a l.length cap] w fun e w' => e = .returned (.string ⟨#[]⟩) ∧ Below w.heap.size w w' := by
  have cr := hide (rok_val 24 srok_any n d dr true hr)
  have ct := hide (fun w (h : Kls w a l) => strack_any a cap l false w hlm h (decide_eq_false hT))
  have hk' := hide hk
  clear hr hT hk
  go_enter Tryz.func7, Tryz.ntmps7
  go_wp2_with fail
  refine (unhide cr _).mono ?_
  rintro e w1 ⟨rfl, hb1⟩
  have k1 := below_box hb1
  clear hb1
  go_wp2_with fail
  refine (unhide ct _ ((unhide hk').below k1)).mono ?_
  rintro e w2 ⟨rfl, hb2⟩
  have k2 := k1.trans (hb2.mono k1.size)
  clear hb2
  go_wp2
  go_ret
  exact ⟨rfl, k2⟩

theorem sshow_any (n d : Int) (dr : Bool) (a : Option Addr) (cap : Nat) (l : List Kl) (w : World) (hl : l.length ≤ maxLen) (hk : Kls w a l) :
    Calls Tryz.prog 7 #[.agg #[.int .i64 n, .int .i64 d, .bool dr], .slice a l.length cap] w fun e w' => e = .returned (.string ⟨(showOf n d dr l).toArray⟩) ∧ Below w.heap.size w w' := by
  cases hr : Pl.rok n d dr
  · rw [showOf_rate hr]; exact sshow_rate n d dr a cap l w hr
  by_cases hT : TOk l
  · rw [showOf_yes hT]; exact sshow_main n d dr a cap l w hr hT hk
  · rw [showOf_no hT]; exact sshow_track n d dr a cap l w hr hl hT hk

end Go.Proofs.YtfhbmfndjbdhcaaGreatDoor
